/- Text of whatever number. -/
import Derived.Test.YtgjkocbfpcgccaaDoorRcW3
namespace Go.Proofs.YtgjkocbfpcgccaaDoor.Rt
open Go.RowKit

def textT (r : Int) : ByteArray := if isR r then textN r.toNat else ⟨#[]⟩
theorem textN_inj : ∀ a b : Fin 16, textN a = textN b → a = b := by decide +kernel
theorem textN_bytes : ∀ r : Fin 16, (textN r).data = #[UInt8.ofNat (sg r 0).toNat, UInt8.ofNat (sg r 1).toNat, UInt8.ofNat (sg r 2).toNat, UInt8.ofNat (sg r 3).toNat] := by decide +kernel
/-- TEXT, OF WHATEVER NUMBER. -/
theorem text_any (r : Int) (w : World) (hT : Tab w) :
    Calls Tryd.prog 37 #[.int .i64 r] w fun e w' => e = .returned (.string (textT r)) ∧ Below w.heap.size w w' := by
  cases h : isR r with
  | false =>
    refine (text_no r w h).mono ?_
    rintro e1 w1 ⟨rfl, rfl⟩
    exact ⟨by simp [textT, h], Below.refl _ _⟩
  | true =>
    obtain ⟨n, hn, rfl⟩ := isR_nat h
    refine (text_yes n w h hT).mono ?_
    rintro e1 w1 ⟨rfl, b⟩
    exact ⟨by simp [textT, h], b⟩
end Go.Proofs.YtgjkocbfpcgccaaDoor.Rt
