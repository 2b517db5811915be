/- What the document's Remove does. -/
import Derived.Test.YtdaakigofpehjabTrROut
import Derived.Test.YtdaakigofpehjabTrKeep
namespace Go.Proofs.Ytdaakigofpehjab.Tr
open Go.RowKit

end Go.Proofs.Ytdaakigofpehjab.Tr
