/- What the document's Same (of steps, of keys) and Has do. -/
import Derived.Test.YtilannincbcgkaaDoorAdMem
namespace Go.Proofs.YtilannincbcgkaaDoor.Ad
open Go.RowKit

theorem drewN_below (w : World) (n : Nat) : Below w.heap.size w (w.drewN n) := ⟨rfl, rfl, rfl, Nat.le_refl _, fun _ _ => rfl⟩
theorem drewN_add (w : World) (a b : Nat) : (w.drewN a).drewN b = w.drewN (a + b) := by simp [World.drewN, Nat.add_assoc]
theorem getD_lt {l : List P} {k : Nat} (h : k < l.length) : l.getD k (0, 0) = l[k] := by simp [List.getD, h]
theorem xtake_snoc (l : List P) (k : Nat) (h : k < l.length) : l.take (k + 1) = l.take k ++ [l.getD k (0, 0)] := by
  rw [List.take_add_one]
  simp [List.getD, h]
theorem take_full {a b : List P} (h : a.length = b.length) (e : a.take a.length = b.take a.length) : a = b := by
  rwa [List.take_length, h, List.take_length] at e
/-- Whether k is one of l. -/
def hasB (l : List P) (k : P) : Bool := decide (k ∈ l)
theorem has_yes {l : List P} {k : P} {j : Nat} (hj : j < l.length) (h : l.getD j (0, 0) = k) : hasB l k = true := by
  rw [hasB, decide_eq_true_eq, ← h, getD_lt hj]
  exact List.getElem_mem hj
theorem has_no {l : List P} {k : P} (h : ∀ j, j < l.length → ¬ l.getD j (0, 0) = k) : hasB l k = false := by
  rw [hasB, decide_eq_false_iff_not]
  intro hm
  obtain ⟨i, hi, e⟩ := List.getElem_of_mem hm
  exact h i hi (by rw [getD_lt hi]; exact e)
/-! ### Same -/
end Go.Proofs.YtilannincbcgkaaDoor.Ad
