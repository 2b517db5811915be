/- CallBack answers true. -/
import Derived.Test.YtilannincbcgkaaDoorKlBka
import Derived.Test.YtilannincbcgkaaDoorKlBkb
import Derived.Test.YtilannincbcgkaaDoorKlBkc
namespace Go.Proofs.YtilannincbcgkaaDoor.Kl
open Go.RowKit
open Ad (q_trans q_alloc q_set ret_int ret_bool hid Later wp_region_later later_call)

theorem back_any (c d : C) (ao : Option Addr) (n cap : Nat) (l : List Int) (w : World) (hc : Wf c) (hd : Wf d) (hn : n ≤ 9223372036854775807) (hH : HasU w ao n cap l) (hl : ∀ i ∈ l, U64 i) (hT : Tabs w) :
    Calls Tryd.prog 4 #[(.agg #[.int .i64 c.k, .int .u64 c.a, .int .u64 c.b, .int .i64 c.r, .int .i64 c.g, .int .i64 c.t, .int .i64 c.s, .int .i64 c.v]), (.agg #[.int .i64 d.k, .int .u64 d.a, .int .u64 d.b, .int .i64 d.r, .int .i64 d.g, .int .i64 d.t, .int .i64 d.s, .int .i64 d.v]), .slice ao n cap] w fun e w' => e = .returned (.bool true) ∧ Below w.heap.size w w' := by
  by_cases h : 20 < n
  · exact back_long c d ao n cap w hT hn h
  · have h20 : n ≤ 20 := by omega
    cases kc : okC c <;> cases kd : okC d <;> cases kl : parB l
    · exact bk_000 c d ao n cap l w hT h20 hc hd hl hH kc kd kl
    · exact bk_001 c d ao n cap l w hT h20 hc hd hl hH kc kd kl
    · exact bk_010 c d ao n cap l w hT h20 hc hd hl hH kc kd kl
    · exact bk_011 c d ao n cap l w hT h20 hc hd hl hH kc kd kl
    · exact bk_100 c d ao n cap l w hT h20 hc hd hl hH kc kd kl
    · exact bk_101 c d ao n cap l w hT h20 hc hd hl hH kc kd kl
    · exact bk_110 c d ao n cap l w hT h20 hc hd hl hH kc kd kl
    · exact bk_111 c d ao n cap l w hT h20 hc hd hl hH kc kd kl

end Go.Proofs.YtilannincbcgkaaDoor.Kl
