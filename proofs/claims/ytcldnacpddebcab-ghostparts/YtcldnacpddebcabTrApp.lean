/- append onto a slice that has no room behind it: a row of one's own; and append of nothing. -/
import Derived.Test.YtcldnacpddebcabPkB
import Derived.Deep.RegionHeld3
namespace Go.Proofs.Ytcldnacpddebcab.Tr
open Go.RowKit

end Go.Proofs.Ytcldnacpddebcab.Tr
