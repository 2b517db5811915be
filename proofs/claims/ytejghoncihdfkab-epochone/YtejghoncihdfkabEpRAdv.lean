/- What the document's Advance does. -/
import Derived.Test.YtejghoncihdfkabEpRPin
namespace Go.Proofs.Ytejghoncihdfkab.Ep
open Go.RowKit

theorem ret_eb {v : Value} {a b : Bool} (h : a = b) : Ending.returned (.tuple #[v, .bool a]) = .returned (.tuple #[v, .bool b]) := by rw [h]
theorem ad_same {e : E} (h : adB e = false) : adA e = e := by unfold adA; rw [h]; rfl
end Go.Proofs.Ytejghoncihdfkab.Ep
