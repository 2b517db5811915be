/- What the document's Parent does. -/
import Derived.Test.YtdaakigofpehjabTrRCnt
import Derived.Test.YtdaakigofpehjabTrKeep
import Derived.Test.YtdaakigofpehjabTrBox
namespace Go.Proofs.Ytdaakigofpehjab.Tr
open Go.RowKit

theorem pr_of {t : List Br} {k : P} {i : Nat} (h : fd k t = some i) : pr t k = pl t (D t i) i := by simp [pr, h]
theorem pr_yes {t : List Br} {k : P} {i p : Nat} (h : fd k t = some i) (hp : p < i) (hd : D t p < D t i) (hm : ∀ m, p < m → m < i → ¬ D t m < D t i) : prB t k = true ∧ prK t k = Ky t p := by
  have e : pr t k = some p := by rw [pr_of h]; exact pl_some.2 ⟨hp, hd, hm⟩
  simp [prB, prK, e]
theorem pr_no {t : List Br} {k : P} {i : Nat} (h : fd k t = some i) (hm : ∀ m, m < i → ¬ D t m < D t i) : prB t k = false ∧ prK t k = (0, 0) := by
  have e : pr t k = none := by rw [pr_of h]; exact pl_none.2 hm
  simp [prB, prK, e]
theorem pr_nk {t : List Br} {k : P} (h : hasK t k = false) : prB t k = false ∧ prK t k = (0, 0) := by
  have e : pr t k = none := by simp [pr, has_no h]
  simp [prB, prK, e]
end Go.Proofs.Ytdaakigofpehjab.Tr
