/- What the document's Root does. -/
import Derived.Test.YtcldnacpddebcaaTrROut
namespace Go.Proofs.Ytcldnacpddebcaa.Tr
open Go.RowKit

end Go.Proofs.Ytcldnacpddebcaa.Tr
