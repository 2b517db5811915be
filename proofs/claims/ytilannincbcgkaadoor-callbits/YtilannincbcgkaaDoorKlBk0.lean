/- CallBack answers true. -/
import Derived.Test.YtilannincbcgkaaDoorKlLive
namespace Go.Proofs.YtilannincbcgkaaDoor.Kl
open Go.RowKit
open Ad (q_trans q_alloc q_set ret_int ret_bool hid Later wp_region_later later_call)

theorem wds_len (c : C) : (wds c).length = 4 := rfl
theorem put_len (c : C) : (putL c).length ≤ 4 := by unfold putL; split <;> simp [wds]
/-- Put, its numbers named. -/
theorem put_at {c : C} {l : List Int} {e0 : Int} (hc : Wf c) (hl : putL c = l) (he : chE c = e0) (w : World) (hT : Tabs w) : Calls Tryd.prog 9 #[(.agg #[.int .i64 c.k, .int .u64 c.a, .int .u64 c.b, .int .i64 c.r, .int .i64 c.g, .int .i64 c.t, .int .i64 c.s, .int .i64 c.v])] w fun e w' => ∃ ao n cap, e = .returned (.tuple #[.slice ao n cap, .int .i64 e0]) ∧ HasU w' ao n cap l ∧ n ≤ 4 ∧ Below w.heap.size w w' := by
  refine (put_c c w hT hc).mono ?_
  rintro e w' ⟨ao, n, cap, rfl, hm, b⟩
  exact ⟨ao, n, cap, by rw [he], by rw [← hl]; exact hm.has, by rw [hm.has.len]; exact put_len c, b⟩
/-- Parse, its numbers named. -/
theorem parse_at {l : List Int} {d : C} {e0 : Int} (hl : ∀ i ∈ l, U64 i) (hd : parC l = d) (he : parE l = e0) {ao : Option Addr} {n cap : Nat} (w : World) (hT : Tabs w) (h : HasU w ao n cap l) : Calls Tryd.prog 11 #[.slice ao n cap] w fun e w' => e = .returned (.tuple #[(.agg #[.int .i64 d.k, .int .u64 d.a, .int .u64 d.b, .int .i64 d.r, .int .i64 d.g, .int .i64 d.t, .int .i64 d.s, .int .i64 d.v]), .int .i64 e0]) ∧ Below w.heap.size w w' := by
  have := parse_any ao n cap l w hT hl h
  unfold ParR at this
  rwa [hd, he] at this
theorem eq_at {c d : C} {q : Bool} (h : eqC c d = q) (w : World) : (Op.equalIn 10000 24 (.agg #[.int .i64 c.k, .int .u64 c.a, .int .u64 c.b, .int .i64 c.r, .int .i64 c.g, .int .i64 c.t, .int .i64 c.s, .int .i64 c.v]) (.agg #[.int .i64 d.k, .int .u64 d.a, .int .u64 d.b, .int .i64 d.r, .int .i64 d.g, .int .i64 d.t, .int .i64 d.s, .int .i64 d.v])).run Tryd.prog w = .ok q w := h ▸ eq8 c d w
set_option maxRecDepth 100000 in
set_option maxHeartbeats 1000000 in
theorem back_long (c d : C) (ao : Option Addr) (n cap : Nat) (w : World) (hT : Tabs w) (hn : n ≤ 9223372036854775807) (h : 20 < n) :
    Calls Tryd.prog 4 #[(.agg #[.int .i64 c.k, .int .u64 c.a, .int .u64 c.b, .int .i64 c.r, .int .i64 c.g, .int .i64 c.t, .int .i64 c.s, .int .i64 c.v]), (.agg #[.int .i64 d.k, .int .u64 d.a, .int .u64 d.b, .int .i64 d.r, .int .i64 d.g, .int .i64 d.t, .int .i64 d.s, .int .i64 d.v]), .slice ao n cap] w fun e w' => e = .returned (.bool true) ∧ Below w.heap.size w w' := by
  have HT : Hid (Tabs w) := hT
  clear hT
  go_enter Tryd.func4, Tryd.ntmps4
  go_wp2_with (go_at_call 8; refine (live_any _ (HT.out.below (q_alloc (q_alloc (Below.refl _ _) _) _))).mono ?_; rintro e w6 ⟨rfl, b6⟩)
  go_ret
  exact ⟨rfl, q_trans (q_alloc (q_alloc (Below.refl _ _) _) _) b6⟩
theorem nil_back (w : World) : (Op.equalIn 10000 24 (.agg #[.int .i64 0, .int .u64 0, .int .u64 0, .int .i64 0, .int .i64 0, .int .i64 0, .int .i64 0, .int .i64 0]) (.agg #[.int .i64 0, .int .u64 0, .int .u64 0, .int .i64 0, .int .i64 0, .int .i64 0, .int .i64 0, .int .i64 0])).run Tryd.prog w = .ok true w := eq8 C.zero C.zero w
theorem wds_same {c d : C} (h : okC c = true) (hc : Wf c) (k : okC d = true) (hd : Wf d) : decide (wds c = wds d) = eqC c d := by
  by_cases e : c = d
  · subst e; rw [eqC_self]; simp
  · rw [eqC_not e]
    exact decide_eq_false (fun q => e (wds_inj h hc k hd q))

end Go.Proofs.YtilannincbcgkaaDoor.Kl
