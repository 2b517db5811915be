/- What the reference's Digits does. -/
import Derived.Test.YtgjkocbfpcgccaaDoorCpW6
import Derived.Test.YtgjkocbfpcgccaaDoorCpRefA
namespace Go.Proofs.YtgjkocbfpcgccaaDoor.Cp
open Go.RowKit

def tenS : ByteArray := ⟨#[48, 49, 50, 51, 52, 53, 54, 55, 56, 57]⟩
def oneS (j : Nat) : ByteArray := ⟨#[UInt8.ofNat (48 + j)]⟩
theorem slice_ten : ∀ (j : Nat) (_ : j < 10) (w : World), (Instr.slice 9 (.string ⟨#[48, 49, 50, 51, 52, 53, 54, 55, 56, 57]⟩) (some (.int .i64 j)) (some (.int .i64 ((j : Int) + 1))) none).run Tryd.prog w = .ok (.string (oneS j)) w := by
  intro j hj w
  have : j = 0 ∨ j = 1 ∨ j = 2 ∨ j = 3 ∨ j = 4 ∨ j = 5 ∨ j = 6 ∨ j = 7 ∨ j = 8 ∨ j = 9 := by omega
  rcases this with rfl | rfl | rfl | rfl | rfl | rfl | rfl | rfl | rfl | rfl <;> rfl
/-- m is left, and the digits behind it are t. -/
def Dg (n m : Nat) (t : List UInt8) : Prop := (0 < m ∧ Lib.decDigits m ++ t = Lib.decDigits n) ∨ (m = 0 ∧ t = Lib.decDigits n)
theorem Dg.step {n m : Nat} {t : List UInt8} (h : Dg n m t) (hm : 0 < m) : Dg n (m / 10) (UInt8.ofNat (48 + m % 10) :: t) := by
  rcases h with ⟨_, h⟩ | ⟨h, _⟩
  · by_cases h10 : m < 10
    · refine .inr ⟨by omega, ?_⟩
      rw [← h, Lib.decDigits_one h10, show m % 10 = m by omega]
      rfl
    · refine .inl ⟨by omega, ?_⟩
      rw [← h]
      conv => rhs; rw [Lib.decDigits, dif_neg h10]
      simp
  · omega
theorem Dg.len {n m : Nat} {t : List UInt8} (h : Dg n m t) (hn : n ≤ 65535) : t.length ≤ 21 := by
  have hl := Lib.itoa_length_le (n : Int) (by omega) (by omega)
  rw [Lib.itoa_nonneg] at hl
  rcases h with ⟨_, h⟩ | ⟨_, h⟩
  · rw [← h] at hl
    simp at hl
    omega
  · rw [h]; exact hl
theorem digS_nat (n : Nat) : digS (n : Int) = ⟨(Lib.decDigits n).toArray⟩ := by rw [digS, Lib.itoa_nonneg]
theorem cons_str (j : Nat) (t : List UInt8) : oneS j ++ ⟨t.toArray⟩ = (⟨(UInt8.ofNat (48 + j) :: t).toArray⟩ : ByteArray) := by
  apply ByteArray.ext
  simp [oneS, ByteArray.data_append]

set_option maxHeartbeats 400000 in
theorem rdigits_zero (w : World) : Calls Tryd.prog 38 #[.int .i64 0] w fun e w' => e = .returned (.string (digS 0)) ∧ w' = w := by
  have H : Hid (digS 0 = ⟨#[48]⟩) := by
    show digS ((0 : Nat) : Int) = _
    rw [digS_nat, Lib.decDigits_one (by omega)]
    rfl
  go_enter Tryd.func38, Tryd.ntmps38
  go_wp2
  go_ret
  exact ⟨by rw [H.out]; rfl, rfl⟩

set_option maxRecDepth 100000 in
set_option maxHeartbeats 600000 in
theorem rdigits_pos (n : Nat) (w : World) (h0 : 0 < n) (h1 : n ≤ 65535) : Calls Tryd.prog 38 #[.int .i64 n] w fun e w' => e = .returned (.string (digS n)) ∧ w' = w := by
  have i0 : ¬ (n : Int) ≤ 0 := by omega
  have HN : Hid (n ≤ 65535) := h1
  have HP : Hid (0 < n) := h0
  clear h1 h0
  go_enter Tryd.func38, Tryd.ntmps38
  go_wp2_with fail
  go_loop [0, 3] (fun a s => ∃ (m : Nat) (t : List UInt8), a = .int .i64 m ∧ s = .string ⟨t.toArray⟩ ∧ m ≤ 65535 ∧ Hid (Dg n m t)) (fun a _ => (intOf a).toNat)
  case atStart => exact ⟨n, [], rfl, rfl, HN.out, .inl ⟨HP.out, by simp⟩⟩
  case round =>
    obtain ⟨m, t, rfl, rfl, hm, hD⟩ := hrel
    by_cases hlt : 0 < m
    · have hsl := slice_ten (m % 10) (by omega)
      rw [show ((m % 10 : Nat) : Int) = (m : Int) % 10 by omega] at hsl
      have HC : Hid (oneS (m % 10) ++ ⟨t.toArray⟩ = (⟨(UInt8.ofNat (48 + m % 10) :: t).toArray⟩ : ByteArray)) := cons_str _ _
      have i1 : (0 : Int) < (m : Int) := by omega
      have sz : (⟨t.toArray⟩ : ByteArray).size ≤ 21 := hD.out.len HN.out
      have sz1 : (oneS (m % 10)).size = 1 := rfl
      go_wp2
      exact ⟨⟨m / 10, _, congrArg (Value.int .i64) (by omega), congrArg Value.string HC.out, by omega, hD.out.step hlt⟩, by simp [intOf]; omega⟩
    · obtain rfl : m = 0 := by omega
      have HE : Hid (t = Lib.decDigits n) := by
        rcases hD.out with ⟨h, _⟩ | ⟨_, h⟩
        · omega
        · exact h
      go_wp2
      go_ret
      exact ⟨by rw [digS_nat, HE.out]; rfl, rfl⟩

theorem rdigits_any (n : Int) (w : World) (h0 : 0 ≤ n) (h1 : n ≤ 65535) : Calls Tryd.prog 38 #[.int .i64 n] w fun e w' => e = .returned (.string (digS n)) ∧ w' = w := by
  obtain ⟨k, rfl⟩ := Int.eq_ofNat_of_zero_le h0
  by_cases hk : 0 < k
  · exact rdigits_pos k w hk (by omega)
  · obtain rfl : k = 0 := by omega
    exact rdigits_zero w
end Go.Proofs.YtgjkocbfpcgccaaDoor.Cp
