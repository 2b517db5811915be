/- What the document's Is (of ghosts) does. -/
import Derived.Test.YtcldnacpddebcabPkB
import Derived.Test.YtcldnacpddebcabTrRIs
namespace Go.Proofs.Ytcldnacpddebcab.Gh
open Go.RowKit
open Go.Proofs.Ytcldnacpddebcab.Tr

end Go.Proofs.Ytcldnacpddebcab.Gh
