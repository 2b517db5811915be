/- What the document's Move does. -/
import Derived.Test.YtdaakigofpehjabTrRIns
import Derived.Test.YtdaakigofpehjabTrRMark
namespace Go.Proofs.Ytdaakigofpehjab.Tr
open Go.RowKit

end Go.Proofs.Ytdaakigofpehjab.Tr
