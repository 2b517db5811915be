/- What the document's Root does. -/
import Derived.Test.YtcldnacpddebcabTrROut
namespace Go.Proofs.Ytcldnacpddebcab.Tr
open Go.RowKit

end Go.Proofs.Ytcldnacpddebcab.Tr
