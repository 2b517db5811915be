/- What the reference's Apply does. -/
import Derived.Test.YtaihabkacjbfjaaCeW4
namespace Go.Proofs.Ytaihabkacjbfjaa.Ce
open Go.RowKit

/-- The ways of a step. -/
theorem legs (k j a v ww got : Int) (hk : 1 ≤ k ∧ k ≤ 5) :
    (k = 1 ∧ got = stV got ⟨k, j, a, v, ww⟩ ∧ true = stB got ⟨k, j, a, v, ww⟩) ∨
    (k = 2 ∧ v = stV got ⟨k, j, a, v, ww⟩ ∧ true = stB got ⟨k, j, a, v, ww⟩) ∨
    (k = 3 ∧ (got == a) = true ∧ v = stV got ⟨k, j, a, v, ww⟩ ∧ true = stB got ⟨k, j, a, v, ww⟩) ∨
    (k = 3 ∧ (got == a) = false ∧ got = stV got ⟨k, j, a, v, ww⟩ ∧ false = stB got ⟨k, j, a, v, ww⟩) ∨
    (k = 4 ∧ (got == 0) = true ∧ ww = stV got ⟨k, j, a, v, ww⟩ ∧ true = stB got ⟨k, j, a, v, ww⟩) ∨
    (k = 4 ∧ (got == 0) = false ∧ got = stV got ⟨k, j, a, v, ww⟩ ∧ false = stB got ⟨k, j, a, v, ww⟩) ∨
    (k = 5 ∧ (got == ww) = true ∧ 0 = stV got ⟨k, j, a, v, ww⟩ ∧ true = stB got ⟨k, j, a, v, ww⟩) ∨
    (k = 5 ∧ (got == ww) = false ∧ got = stV got ⟨k, j, a, v, ww⟩ ∧ false = stB got ⟨k, j, a, v, ww⟩) := by
  have : k = 1 ∨ k = 2 ∨ k = 3 ∨ k = 4 ∨ k = 5 := by omega
  rcases this with rfl | rfl | rfl | rfl | rfl
  · simp [stV, stB]
  · simp [stV, stB]
  · by_cases h : got = a <;> simp [stV, stB, h]
  · by_cases h : got = 0 <;> simp [stV, stB, h]
  · by_cases h : got = ww <;> simp [stV, stB, h]

/-- A slice where it was, or in a block that is new. -/
def NewOr (w w' : World) (ao ao' : Option Addr) (cap cap' : Nat) : Prop := (ao' = ao ∧ cap' = cap) ∨ ∀ a, ao' = some a → w.heap.size ≤ a.block ∧ a.block < w'.heap.size
end Go.Proofs.Ytaihabkacjbfjaa.Ce
