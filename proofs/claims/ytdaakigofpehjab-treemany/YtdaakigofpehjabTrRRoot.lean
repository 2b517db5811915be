/- What the document's Root does. -/
import Derived.Test.YtdaakigofpehjabTrROut
namespace Go.Proofs.Ytdaakigofpehjab.Tr
open Go.RowKit

end Go.Proofs.Ytdaakigofpehjab.Tr
