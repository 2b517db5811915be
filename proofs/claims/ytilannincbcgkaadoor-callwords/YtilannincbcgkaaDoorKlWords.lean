/- CallWords answers true. -/
import Derived.Test.YtilannincbcgkaaDoorKlWda
import Derived.Test.YtilannincbcgkaaDoorKlWdb
namespace Go.Proofs.YtilannincbcgkaaDoor.Kl
open Go.RowKit
open Ad (q_trans q_alloc q_set ret_int ret_bool hid Later wp_region_later later_call wpList_append_row own0 app_below alloc_below)

theorem words_law (c : C) (ao : Option Addr) (n cap : Nat) (l : List Int) (w : World) (hc : Wf c) (hn : n ≤ 9223372036854775807) (hH : HasU w ao n cap l) (hl : ∀ i ∈ l, U64 i) (hT : Tabs w) :
    Calls Tryd.prog 3 #[(.agg #[.int .i64 c.k, .int .u64 c.a, .int .u64 c.b, .int .i64 c.r, .int .i64 c.g, .int .i64 c.t, .int .i64 c.s, .int .i64 c.v]), .slice ao n cap] w fun e w' => e = .returned (.bool true) ∧ Below w.heap.size w w' := by
  by_cases h : 20 < n
  · exact wd_long c ao n cap w hT hn h
  · have h20 : n ≤ 20 := by omega
    cases kc : okC c <;> cases kl : parB l
    · exact wd_00 c ao n cap l w hT h20 hc hl hH kc kl
    · exact wd_01 c ao n cap l w hT h20 hc hl hH kc kl
    · exact wd_10 c ao n cap l w hT h20 hc hl hH kc kl
    · exact wd_11 c ao n cap l w hT h20 hc hl hH kc kl

end Go.Proofs.YtilannincbcgkaaDoor.Kl
