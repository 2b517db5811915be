/- CallWords answers true. -/
import Derived.Test.YtilannincbcgkaaDoorKlBk0
import Derived.Test.YtilannincbcgkaaDoorKlR4
import Derived.Test.YtilannincbcgkaaDoorKlR5
namespace Go.Proofs.YtilannincbcgkaaDoor.Kl
open Go.RowKit
open Ad (q_trans q_alloc q_set ret_int ret_bool hid Later wp_region_later later_call wpList_append_row own0 app_below alloc_below)

theorem rput_at {c : C} {l : List Int} {e0 : Int} (hc : Wf c) (hl : putL c = l) (he : chE c = e0) (w : World) : Calls Tryd.prog 10 #[(.agg #[.int .i64 c.k, .int .u64 c.a, .int .u64 c.b, .int .i64 c.r, .int .i64 c.g, .int .i64 c.t, .int .i64 c.s, .int .i64 c.v])] w fun e w' => ∃ ao n cap, e = .returned (.tuple #[.slice ao n cap, .int .i64 e0]) ∧ HasU w' ao n cap l ∧ n ≤ 4 ∧ Below w.heap.size w w' := by
  refine (rput_c c w hc).mono ?_
  rintro e w' ⟨ao, n, cap, rfl, hm, b⟩
  exact ⟨ao, n, cap, by rw [he], by rw [← hl]; exact hm.has, by rw [hm.has.len]; exact put_len c, b⟩
theorem rparse_at {l : List Int} {d : C} {e0 : Int} (hl : ∀ i ∈ l, U64 i) (hd : parC l = d) (he : parE l = e0) {ao : Option Addr} {n cap : Nat} (w : World) (h : HasU w ao n cap l) : Calls Tryd.prog 12 #[.slice ao n cap] w fun e w' => e = .returned (.tuple #[(.agg #[.int .i64 d.k, .int .u64 d.a, .int .u64 d.b, .int .i64 d.r, .int .i64 d.g, .int .i64 d.t, .int .i64 d.s, .int .i64 d.v]), .int .i64 e0]) ∧ Below w.heap.size w w' := by
  have := rparse_any ao n cap l w hl h
  unfold ParR at this
  rwa [hd, he] at this
set_option maxRecDepth 100000 in
set_option maxHeartbeats 1000000 in
theorem wd_long (c : C) (ao : Option Addr) (n cap : Nat) (w : World) (hT : Tabs w) (hn : n ≤ 9223372036854775807) (h : 20 < n) :
    Calls Tryd.prog 3 #[(.agg #[.int .i64 c.k, .int .u64 c.a, .int .u64 c.b, .int .i64 c.r, .int .i64 c.g, .int .i64 c.t, .int .i64 c.s, .int .i64 c.v]), .slice ao n cap] w fun e w' => e = .returned (.bool true) ∧ Below w.heap.size w w' := by
  have HT : Hid (Tabs w) := hT
  clear hT
  go_enter Tryd.func3, Tryd.ntmps3
  go_wp2_with (go_at_call 8; refine (live_any _ (HT.out.below (q_alloc (Below.refl _ _) _))).mono ?_; rintro e w6 ⟨rfl, b6⟩)
  go_ret
  exact ⟨rfl, q_trans (q_alloc (Below.refl _ _) _) b6⟩

end Go.Proofs.YtilannincbcgkaaDoor.Kl
