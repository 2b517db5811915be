/- What the document's Digits and Put do. -/
import Derived.Test.YtaooijjppdfnfabDoorScPut
namespace Go.Proofs.YtaooijjppdfnfabDoor.Sc
open Go.RowKit

def tenS : ByteArray := ⟨#[48, 49, 50, 51, 52, 53, 54, 55, 56, 57]⟩
def oneS (j : Nat) : ByteArray := ⟨#[UInt8.ofNat (48 + j)]⟩
set_option maxRecDepth 100000 in
theorem slice_ten : ∀ (j : Nat) (_ : j < 10) (w : World), (Instr.slice 9 (.string ⟨#[48, 49, 50, 51, 52, 53, 54, 55, 56, 57]⟩) (some (.int .i64 j)) (some (.int .i64 ((j : Int) + 1))) none).run Tryd.prog w = .ok (.string (oneS j)) w := by
  intro j hj w
  have : j = 0 ∨ j = 1 ∨ j = 2 ∨ j = 3 ∨ j = 4 ∨ j = 5 ∨ j = 6 ∨ j = 7 ∨ j = 8 ∨ j = 9 := by omega
  rcases this with rfl | rfl | rfl | rfl | rfl | rfl | rfl | rfl | rfl | rfl <;> rfl
/-- m is left, and the digits behind it are t. -/
def Dg (n m : Nat) (t : List UInt8) : Prop := (0 < m ∧ Lib.decDigits m ++ t = Lib.decDigits n) ∨ (m = 0 ∧ t = Lib.decDigits n)
theorem Dg.step {n m : Nat} {t : List UInt8} (h : Dg n m t) (hm : 0 < m) : Dg n (m / 10) (UInt8.ofNat (48 + m % 10) :: t) := by
  rcases h with ⟨_, h⟩ | ⟨h, _⟩
  · by_cases h10 : m < 10
    · refine .inr ⟨by omega, ?_⟩
      rw [← h, Lib.decDigits_one h10, show m % 10 = m by omega]
      rfl
    · refine .inl ⟨by omega, ?_⟩
      rw [← h]
      conv => rhs; rw [Lib.decDigits, dif_neg h10]
      simp
  · omega
theorem Dg.len {n m : Nat} {t : List UInt8} (h : Dg n m t) (hn : n ≤ 63) : t.length ≤ 21 := by
  have hl := dig_small n (by omega)
  have h2 : (Lib.decDigits n).length ≤ 2 := by
    rw [show Lib.decDigits n = dig n from rfl, hl]
    split <;> simp
  rcases h with ⟨_, h⟩ | ⟨_, h⟩
  · rw [← h] at h2
    simp at h2
    omega
  · rw [h]; omega
theorem cons_str (j : Nat) (t : List UInt8) : oneS j ++ ⟨t.toArray⟩ = (⟨(UInt8.ofNat (48 + j) :: t).toArray⟩ : ByteArray) := by
  apply ByteArray.ext
  simp [oneS, ByteArray.data_append]

theorem app_str (a b : List UInt8) : (⟨a.toArray⟩ : ByteArray) ++ ⟨b.toArray⟩ = ⟨(a ++ b).toArray⟩ := by
  apply ByteArray.ext
  simp [ByteArray.data_append]
end Go.Proofs.YtaooijjppdfnfabDoor.Sc
