/- What the document's out does. -/
import Derived.Test.YtcldnacpddebcaaTrRPut
namespace Go.Proofs.Ytcldnacpddebcaa.Tr
open Go.RowKit

abbrev Tr0 (_ : World) : Prop := True
theorem del_len {t : List Br} {i : Nat} (h : i < t.length) : (del t i).length + 1 = t.length := by unfold del; simp; omega
end Go.Proofs.Ytcldnacpddebcaa.Tr
