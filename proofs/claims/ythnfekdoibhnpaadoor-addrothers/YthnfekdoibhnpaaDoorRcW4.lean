/- Text of whatever number. -/
import Derived.Test.YthnfekdoibhnpaaDoorRcW3
namespace Go.Proofs.YthnfekdoibhnpaaDoor.Rt
open Go.RowKit

def textT (r : Int) : ByteArray := if isR r then textN r.toNat else ⟨#[]⟩
theorem textN_inj : ∀ a b : Fin 16, textN a = textN b → a = b := by decide +kernel
theorem textN_bytes : ∀ r : Fin 16, (textN r).data = #[UInt8.ofNat (sg r 0).toNat, UInt8.ofNat (sg r 1).toNat, UInt8.ofNat (sg r 2).toNat, UInt8.ofNat (sg r 3).toNat] := by decide +kernel
end Go.Proofs.YthnfekdoibhnpaaDoor.Rt
