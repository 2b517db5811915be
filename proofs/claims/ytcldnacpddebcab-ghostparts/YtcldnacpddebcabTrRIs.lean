/- What the document's Is, count do. -/
import Derived.Test.YtcldnacpddebcabTrRFind
namespace Go.Proofs.Ytcldnacpddebcab.Tr
open Go.RowKit

theorem not_gd {t : List Br} {k : Nat} (hk : k < t.length) (h : ¬ Gd t k) : isB t = false := isB_not.2 fun q => h ((tree_gd.1 q).2 k hk)
theorem good_step {t : List Br} {k : Nat} (h : ∀ j, j < k → Gd t j) (g : Gd t k) : ∀ j, j < k + 1 → Gd t j := fun j hj => by
  rcases Nat.lt_or_ge j k with q | q
  · exact h j q
  · obtain rfl : j = k := by omega
    exact g
theorem gd_bound {t : List Br} : ∀ k, (∀ j, j < k → Gd t j) → ∀ j, j < k → 0 ≤ D t j ∧ D t j ≤ j := by
  intro k h j
  induction j with
  | zero => exact fun hj => ⟨(h 0 hj).pos, by have := (h 0 hj).dep; simp at this; omega⟩
  | succ j ih =>
    intro hj
    have h1 := ih (by omega)
    have h2 := (h (j + 1) hj).dep
    rw [if_neg (by omega), Nat.add_sub_cancel] at h2
    exact ⟨(h (j + 1) hj).pos, by omega⟩
end Go.Proofs.Ytcldnacpddebcab.Tr
