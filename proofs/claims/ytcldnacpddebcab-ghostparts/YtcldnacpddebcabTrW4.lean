/- What the program's with, without do. -/
import Derived.Test.YtcldnacpddebcabTrW3
import Derived.Test.YtcldnacpddebcabTrApp
import Derived.Test.YtcldnacpddebcabTrROut
namespace Go.Proofs.Ytcldnacpddebcab.Tr
open Go.RowKit

end Go.Proofs.Ytcldnacpddebcab.Tr
