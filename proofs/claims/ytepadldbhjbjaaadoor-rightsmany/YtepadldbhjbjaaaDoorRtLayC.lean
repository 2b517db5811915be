/- A list of numbers that came in, and its capacity. -/
import Derived.Test.YtepadldbhjbjaaaDoorRtLay
import Derived.ChangeSlices
namespace Go.Proofs.YtepadldbhjbjaaaDoor.Rt
open Go.ChangeShapes Go.WideShapes Go.ChangeAt Go.RowKit

/-- A list of numbers that came in: it lies where the slice points. -/
theorem open_lies_cap {H : Type} {enc : TypeId × Value → H} {W : World} {b0 : Nat} {v : Value} {d : DataW H} {ps : List MemPlace} (hv : Value.okWide Tryd.prog W .any b0 33 v) (h : DataW.Trod enc Tryd.prog W 0 (fun _ => true) true 33 v d ps) :
    ∃ ao l n cap, v = .slice ao n cap ∧ n = l.length ∧ n ≤ 9223372036854775807 ∧ n ≤ cap ∧ Lies W ao l := by
  obtain ⟨a0, len, cap, rfl⟩ := okWide_slice Tryd.underlying33 hv
  obtain ⟨fuel, hf⟩ := h
  rcases open_ints Tryd.underlying33 Tryd.underlying3 cells3 hf with ⟨hcs, hx⟩ | ⟨a, len', cap', zs, hcs, _, hl, hm, hz, hx, hcell, hwz⟩
  · simp [Value.cells] at hcs
    obtain ⟨rfl, rfl, rfl⟩ := hcs
    exact ⟨none, [], 0, 0, rfl, rfl, by omega, Nat.le_refl _, fun j hj => absurd hj (by simp)⟩
  · simp [Value.cells] at hcs
    obtain ⟨rfl, rfl, rfl⟩ := hcs
    simp only [if_true] at hz
    refine ⟨some a, zs.take len, len, cap, rfl, by simp; omega, by unfold maxLen at hm; omega, hl, fun j hj => ⟨a, rfl, ?_⟩⟩
    have hj' : j < len := by simp at hj; omega
    rw [hcell j (by omega)]
    simp [List.getD, hj']
end Go.Proofs.YtepadldbhjbjaaaDoor.Rt
