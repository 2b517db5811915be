/- What the document's Is, Less, Cell, Key do. -/
import Derived.Test.YthonibklaijejabOrW1
namespace Go.Proofs.Ythonibklaijejab.Or
open Go.RowKit

end Go.Proofs.Ythonibklaijejab.Or
