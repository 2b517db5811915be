/- What the document's Is of whatever list, count, put, out do. -/
import Derived.Test.YtcldnacpddebcaaTrRIs
import Derived.Test.YtcldnacpddebcaaPkA
namespace Go.Proofs.Ytcldnacpddebcaa.Tr
open Go.RowKit

theorem ct_more {t : List Br} {i c : Nat} (h : ∀ m, m < c → D t i < D t (i + 1 + m)) (hl : i + 1 + c < t.length) (hd : D t i < D t (i + 1 + c)) : ∀ m, m < c + 1 → D t i < D t (i + 1 + m) := fun m hm => by
  rcases Nat.lt_or_ge m c with q | q
  · exact h m q
  · obtain rfl : m = c := by omega
    exact hd
theorem ct_is {t : List Br} {i c : Nat} (hi : i < t.length) (hl : i + 1 + c ≤ t.length) (h : ∀ m, m < c → D t i < D t (i + 1 + m)) (he : i + 1 + c < t.length → ¬ D t i < D t (i + 1 + c)) : ct t i = c := by
  have hc := ct_in hi
  rcases Nat.lt_trichotomy (ct t i) c with q | q | q
  · exfalso
    have : Ds t i (i + 1 + ct t i) := ⟨by omega, by omega, fun m a b => by
      have := h (m - i - 1) (by omega)
      rwa [show i + 1 + (m - i - 1) = m by omega] at this⟩
    have := (ds_ct.1 this).2
    omega
  · exact q
  · exfalso
    have : Ds t i (i + 1 + c) := ds_ct.2 ⟨by omega, by omega⟩
    exact he (by omega) (this.2.2 _ this.1 (Nat.le_refl _))
end Go.Proofs.Ytcldnacpddebcaa.Tr
