/- What the document's Find, Same do. -/
import Derived.Test.YtcldnacpddebcaaPkB
import Derived.Test.YtcldnacpddebcaaPkA
namespace Go.Proofs.Ytcldnacpddebcaa.Tr
open Go.RowKit

theorem fd_go {t : List Br} {k : P} {j : Nat} (hj : j < t.length) (hk : Ky t j = k) (h : ∀ m, m < j → Ky t m ≠ k) : fd k t = some j := fd_some.2 ⟨hj, hk, h⟩
end Go.Proofs.Ytcldnacpddebcaa.Tr
