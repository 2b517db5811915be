/- What every law of this seat shares: lists of numbers that come in. -/
import Derived.Test.YthhbifcgilkddaaRows
import Derived.Test.YthhbifcgilkddaaHaLive
import Derived.ProofKit
import Derived.OpenShut
import Derived.ChangeSlices
namespace Go.Proofs.Ythhbifcgilkddaa.Ha
open Go.ChangeShapes Go.WideShapes Go.ChangeAt Go.RowKit

theorem own : ownKnob Try.prog.godebug = none := by kernel_rfl
theorem laidOut : laidOutB Try.prog = true := by kernel_rfl
theorem cellsInt : Try.prog.cellsOf 3 = 1 := by kernel_rfl
section
variable {H : Type} {enc : TypeId × Value → H} {w : World}
theorem ints_cells {fuel : Nat} {cs : List Value} {x : DataW H × List MemPlace} (hf : DataW.trod enc Try.prog w 0 (fun _ => true) true fuel 35 cs = some x) :
    ∃ ao l n cap, cs = [.slice ao n cap] ∧ n ≤ 9223372036854775807 ∧ Has w ao n cap l := by
  rcases open_ints Try.underlying35 Try.underlying3 cellsInt hf with ⟨rfl, hx⟩ | ⟨a, len', cap', zs, rfl, _, hl, hm, hz, hx, hcell, hwz⟩
  · exact ⟨none, [], 0, 0, rfl, by omega, has_nil w⟩
  · simp only [if_true] at hz
    refine ⟨some a, zs.take len', len', cap', rfl, by unfold maxLen at hm; omega, ⟨by simp; omega, (fun h => by cases h), hl, ⟨fun j u hu => ⟨a, rfl, ?_⟩⟩⟩⟩
    have hj : j < len' := by have := (List.getElem?_eq_some_iff.1 hu).1; simp at this; omega
    rw [hcell j (by omega)]
    rw [vals_at _ j (by simp; omega)] at hu
    rw [← hu]
    simp [List.getD, hj]
/-- A list of numbers that came in. -/
theorem open_nums {v : Value} {d : DataW H} {ps : List MemPlace} {b0 : Nat} (hv : Value.okWide Try.prog w .any b0 35 v) (h : DataW.Trod enc Try.prog w 0 (fun _ => true) true 35 v d ps) :
    ∃ ao l n cap, v = .slice ao n cap ∧ n ≤ 9223372036854775807 ∧ Has w ao n cap l := by
  obtain ⟨a0, len, cap, rfl⟩ := okWide_slice Try.underlying35 hv
  obtain ⟨fuel, hf⟩ := h
  obtain ⟨ao, l, n, c, e, h1, h2⟩ := ints_cells hf
  simp [Value.cells] at e
  obtain ⟨rfl, rfl, rfl⟩ := e
  exact ⟨_, l, _, _, rfl, h1, h2⟩
end
end Go.Proofs.Ythhbifcgilkddaa.Ha
