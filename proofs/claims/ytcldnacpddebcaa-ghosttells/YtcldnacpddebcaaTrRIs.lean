/- What the document's Is, count do. -/
import Derived.Test.YtcldnacpddebcaaTrRFind
namespace Go.Proofs.Ytcldnacpddebcaa.Tr
open Go.RowKit

set_option maxHeartbeats 1000000 in
theorem ki_any (k : P) (w : World) : Calls Try.prog 39 #[(.agg #[.int .i64 k.1, .int .i64 k.2])] w fun e w' => e = .returned (.bool (okK k)) ∧ Below w.heap.size w w' := by
  by_cases h1 : 0 ≤ k.1
  · by_cases h2 : k.1 ≤ 1023
    · by_cases h3 : -1 ≤ k.2
      · by_cases h4 : k.2 ≤ 7
        · have H : Hid (okK k = true) := okK_iff.2 ⟨h1, h2, h3, h4⟩
          go_enter Try.func39, Try.ntmps39
          go_wp2
          go_ret
          exact ⟨ret_bool H.out.symm, alloc_below _ _⟩
        · have H : Hid (okK k = false) := by unfold Hid okK; rw [decide_eq_false_iff_not]; omega
          go_enter Try.func39, Try.ntmps39
          go_wp2
          go_ret
          exact ⟨ret_bool H.out.symm, alloc_below _ _⟩
      · have H : Hid (okK k = false) := by unfold Hid okK; rw [decide_eq_false_iff_not]; omega
        go_enter Try.func39, Try.ntmps39
        go_wp2
        go_ret
        exact ⟨ret_bool H.out.symm, alloc_below _ _⟩
    · have H : Hid (okK k = false) := by unfold Hid okK; rw [decide_eq_false_iff_not]; omega
      go_enter Try.func39, Try.ntmps39
      go_wp2
      go_ret
      exact ⟨ret_bool H.out.symm, alloc_below _ _⟩
  · have H : Hid (okK k = false) := by unfold Hid okK; rw [decide_eq_false_iff_not]; omega
    go_enter Try.func39, Try.ntmps39
    go_wp2
    go_ret
    exact ⟨ret_bool H.out.symm, alloc_below _ _⟩
theorem not_gd {t : List Br} {k : Nat} (hk : k < t.length) (h : ¬ Gd t k) : isB t = false := isB_not.2 fun q => h ((tree_gd.1 q).2 k hk)
theorem good_step {t : List Br} {k : Nat} (h : ∀ j, j < k → Gd t j) (g : Gd t k) : ∀ j, j < k + 1 → Gd t j := fun j hj => by
  rcases Nat.lt_or_ge j k with q | q
  · exact h j q
  · obtain rfl : j = k := by omega
    exact g
theorem gd_bound {t : List Br} : ∀ k, (∀ j, j < k → Gd t j) → ∀ j, j < k → 0 ≤ D t j ∧ D t j ≤ j := by
  intro k h j
  induction j with
  | zero => exact fun hj => ⟨(h 0 hj).pos, by have := (h 0 hj).dep; simp at this; omega⟩
  | succ j ih =>
    intro hj
    have h1 := ih (by omega)
    have h2 := (h (j + 1) hj).dep
    rw [if_neg (by omega), Nat.add_sub_cancel] at h2
    exact ⟨(h (j + 1) hj).pos, by omega⟩
end Go.Proofs.Ytcldnacpddebcaa.Tr
