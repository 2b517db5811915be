/- What the document's Digits and Put do. -/
import Derived.Test.YtaooijjppdfnfaaDoorScPut
namespace Go.Proofs.YtaooijjppdfnfaaDoor.Sc
open Go.RowKit

def tenS : ByteArray := ⟨#[48, 49, 50, 51, 52, 53, 54, 55, 56, 57]⟩
def oneS (j : Nat) : ByteArray := ⟨#[UInt8.ofNat (48 + j)]⟩
set_option maxRecDepth 100000 in
theorem slice_ten : ∀ (j : Nat) (_ : j < 10) (w : World), (Instr.slice 9 (.string ⟨#[48, 49, 50, 51, 52, 53, 54, 55, 56, 57]⟩) (some (.int .i64 j)) (some (.int .i64 ((j : Int) + 1))) none).run Tryd.prog w = .ok (.string (oneS j)) w := by
  intro j hj w
  have : j = 0 ∨ j = 1 ∨ j = 2 ∨ j = 3 ∨ j = 4 ∨ j = 5 ∨ j = 6 ∨ j = 7 ∨ j = 8 ∨ j = 9 := by omega
  rcases this with rfl | rfl | rfl | rfl | rfl | rfl | rfl | rfl | rfl | rfl <;> rfl
/-- m is left, and the digits behind it are t. -/
def Dg (n m : Nat) (t : List UInt8) : Prop := (0 < m ∧ Lib.decDigits m ++ t = Lib.decDigits n) ∨ (m = 0 ∧ t = Lib.decDigits n)
theorem Dg.step {n m : Nat} {t : List UInt8} (h : Dg n m t) (hm : 0 < m) : Dg n (m / 10) (UInt8.ofNat (48 + m % 10) :: t) := by
  rcases h with ⟨_, h⟩ | ⟨h, _⟩
  · by_cases h10 : m < 10
    · refine .inr ⟨by omega, ?_⟩
      rw [← h, Lib.decDigits_one h10, show m % 10 = m by omega]
      rfl
    · refine .inl ⟨by omega, ?_⟩
      rw [← h]
      conv => rhs; rw [Lib.decDigits, dif_neg h10]
      simp
  · omega
theorem Dg.len {n m : Nat} {t : List UInt8} (h : Dg n m t) (hn : n ≤ 63) : t.length ≤ 21 := by
  have hl := dig_small n (by omega)
  have h2 : (Lib.decDigits n).length ≤ 2 := by
    rw [show Lib.decDigits n = dig n from rfl, hl]
    split <;> simp
  rcases h with ⟨_, h⟩ | ⟨_, h⟩
  · rw [← h] at h2
    simp at h2
    omega
  · rw [h]; omega
theorem cons_str (j : Nat) (t : List UInt8) : oneS j ++ ⟨t.toArray⟩ = (⟨(UInt8.ofNat (48 + j) :: t).toArray⟩ : ByteArray) := by
  apply ByteArray.ext
  simp [oneS, ByteArray.data_append]

set_option maxHeartbeats 400000 in
theorem rdigits_zero (w : World) : Calls Tryd.prog 34 #[.int .i64 0] w fun e w' => e = .returned (.string ⟨#[48]⟩) ∧ w' = w := by
  go_enter Tryd.func34, Tryd.ntmps34
  go_wp2
  go_ret
  exact ⟨rfl, rfl⟩

set_option maxRecDepth 100000 in
set_option maxHeartbeats 600000 in
theorem rdigits_pos (n : Nat) (w : World) (h0 : 0 < n) (h1 : n ≤ 63) : Calls Tryd.prog 34 #[.int .i64 n] w fun e w' => e = .returned (.string ⟨(Lib.decDigits n).toArray⟩) ∧ w' = w := by
  have i0 : ¬ (n : Int) ≤ 0 := by omega
  have HN : Hid (n ≤ 63) := h1
  have HP : Hid (0 < n) := h0
  clear h1 h0
  go_enter Tryd.func34, Tryd.ntmps34
  go_wp2_with fail
  go_loop [0, 3] (fun a s => ∃ (m : Nat) (t : List UInt8), a = .int .i64 m ∧ s = .string ⟨t.toArray⟩ ∧ m ≤ 63 ∧ Hid (Dg n m t)) (fun a _ => (intOf a).toNat)
  case atStart => exact ⟨n, [], rfl, rfl, HN.out, .inl ⟨HP.out, by simp⟩⟩
  case round =>
    obtain ⟨m, t, rfl, rfl, hm, hD⟩ := hrel
    by_cases hlt : 0 < m
    · have hsl := slice_ten (m % 10) (by omega)
      rw [show ((m % 10 : Nat) : Int) = (m : Int) % 10 by omega] at hsl
      have HC : Hid (oneS (m % 10) ++ ⟨t.toArray⟩ = (⟨(UInt8.ofNat (48 + m % 10) :: t).toArray⟩ : ByteArray)) := cons_str _ _
      have i1 : (0 : Int) < (m : Int) := by omega
      have sz : (⟨t.toArray⟩ : ByteArray).size ≤ 21 := hD.out.len HN.out
      have sz1 : (oneS (m % 10)).size = 1 := rfl
      go_wp2
      exact ⟨⟨m / 10, _, congrArg (Value.int .i64) (by omega), congrArg Value.string HC.out, by omega, hD.out.step hlt⟩, by simp [intOf]; omega⟩
    · obtain rfl : m = 0 := by omega
      have HE : Hid (t = Lib.decDigits n) := by
        rcases hD.out with ⟨h, _⟩ | ⟨_, h⟩
        · omega
        · exact h
      go_wp2
      go_ret
      exact ⟨by rw [HE.out]; rfl, rfl⟩

theorem rdigits_any (i : Nat) (w : World) (h : i ≤ 63) : Calls Tryd.prog 34 #[.int .i64 i] w fun e w' => e = .returned (.string ⟨(Lib.decDigits i).toArray⟩) ∧ w' = w := by
  by_cases hk : 0 < i
  · exact rdigits_pos i w hk h
  · obtain rfl : i = 0 := by omega
    rw [Lib.decDigits_one (by omega)]
    exact rdigits_zero w

theorem app_str (a b : List UInt8) : (⟨a.toArray⟩ : ByteArray) ++ ⟨b.toArray⟩ = ⟨(a ++ b).toArray⟩ := by
  apply ByteArray.ext
  simp [ByteArray.data_append]
set_option maxRecDepth 100000 in
set_option maxHeartbeats 1000000 in
theorem rput_yes (ao : Option Addr) (l : List Int) (n cap : Nat) (w : World) (HN : Hid (n = l.length)) (hs : n ≤ 2000000) (RR : Hid (Row w ao (vals l))) (HK : Hid (okL l 64 = true)) :
    Calls Tryd.prog 16 #[.slice ao n cap] w fun e w' => e = .returned (.string ⟨(putS l).toArray⟩) ∧ w' = w := by
  go_enter Tryd.func16, Tryd.ntmps16
  go_wp2_with (go_at_call 14; refine (is_core ao l n cap 64 true _ HN (by omega) RR HK.out.symm).mono ?_; rintro e w1 ⟨rfl, hw⟩; rw [hw]; clear hw w1)
  go_loop [3, 4] (fun s i => ∃ (k : Nat) (S : ByteArray), k ≤ n ∧ i = .int .i64 k ∧ s = .string S ∧ Hid (S = ⟨(putS (l.take k)).toArray⟩)) (fun _ i => n - (intOf i).toNat)
  case atStart => exact ⟨0, _, Nat.zero_le _, rfl, rfl, rfl⟩
  case round =>
    obtain ⟨k, S, hk, rfl, rfl, HS⟩ := hrel
    by_cases hlt : k < n
    · have hkl : Hid (k < l.length) := by have := HN.out; show k < l.length; omega
      obtain ⟨a, rfl, hc⟩ := row_at RR.out k hkl.out
      have hx0 := scr HK.out (l.getD k 0) (by have := hkl.out; simp [List.getD, this])
      obtain ⟨i, hi⟩ := Int.eq_ofNat_of_zero_le hx0.1
      rw [hi] at hc hx0
      have hi64 : Hid (i ≤ 63) := by show i ≤ 63; omega
      have HD : Hid (dig (l.getD k 0) = Lib.decDigits i) := by show dig _ = _; rw [hi]; rfl
      have hsz : S.size ≤ 6000000 := by
        have := putS_take l k (scr HK.out)
        rw [HS.out, ba_size]
        have := HN.out
        omega
      have hdl : (⟨(Lib.decDigits i).toArray⟩ : ByteArray).size ≤ 2 := by rw [ba_size, ← HD.out]; exact (dig_len _ (by omega) (by omega)).1
      have hdl2 : (Lib.decDigits i).length ≤ 2 := by rw [← HD.out]; exact (dig_len _ (by omega) (by omega)).1
      have e1 : (⟨#[32]⟩ : ByteArray).size = 1 := rfl
      clear hi hx0
      by_cases h0 : k = 0
      · have hkz : ¬ (0 : Int) < (k : Int) := by omega
        have HX : Hid (S ++ ⟨(Lib.decDigits i).toArray⟩ = (⟨(putS (l.take (k + 1))).toArray⟩ : ByteArray)) := by
          show _ = _
          subst h0
          rw [HS.out, ← HD.out, app_str, List.take_zero, putS_nil, List.nil_append, take_one l 0 hkl.out, List.take_zero, List.nil_append, putS_one]
        clear h0
        go_wp2_with (go_at_call 34; refine (rdigits_any i _ hi64.out).mono ?_; rintro e w1 ⟨rfl, hw⟩; rw [hw]; clear hw w1)
        exact ⟨⟨k + 1, _, by omega, by go_num, rfl, HX⟩, by simp [intOf]; omega⟩
      · have hkz : (0 : Int) < (k : Int) := by omega
        have HX : Hid (S ++ ⟨#[32]⟩ ++ ⟨(Lib.decDigits i).toArray⟩ = (⟨(putS (l.take (k + 1))).toArray⟩ : ByteArray)) := by
          show _ = _
          rw [HS.out, ← HD.out, show (⟨#[32]⟩ : ByteArray) = ⟨[32].toArray⟩ from rfl, app_str, app_str, take_one l k hkl.out, putS_snoc _ (take_ne l k hkl.out h0)]
          simp
        clear h0
        go_wp2_with (go_at_call 34; refine (rdigits_any i _ hi64.out).mono ?_; rintro e w1 ⟨rfl, hw⟩; rw [hw]; clear hw w1)
        exact ⟨⟨k + 1, _, by omega, by go_num, rfl, HX⟩, by simp [intOf]; omega⟩
    · obtain rfl : k = n := by omega
      have HT : Hid (l.take k = l) := by show l.take k = l; rw [HN.out, List.take_length]
      go_wp2_with fail
      go_ret
      exact ⟨by rw [← HT.out, ← HS.out]; rfl, rfl⟩
set_option maxRecDepth 100000 in
set_option maxHeartbeats 400000 in
theorem rput_no (ao : Option Addr) (l : List Int) (n cap : Nat) (w : World) (HN : Hid (n = l.length)) (hs : n ≤ 2000000) (RR : Hid (Row w ao (vals l))) (HK : Hid (okL l 64 = false)) :
    Calls Tryd.prog 16 #[.slice ao n cap] w fun e w' => e = .returned (.string ⟨#[]⟩) ∧ w' = w := by
  go_enter Tryd.func16, Tryd.ntmps16
  go_wp2_with (go_at_call 14; refine (is_core ao l n cap 64 false _ HN (by omega) RR HK.out.symm).mono ?_; rintro e w1 ⟨rfl, hw⟩; rw [hw]; clear hw w1)
  go_ret
  exact ⟨rfl, rfl⟩
theorem rput_any (ao : Option Addr) (l : List Int) (n cap : Nat) (w : World) (hn : n = l.length) (hs : n ≤ 2000000) (hr : Row w ao (vals l)) :
    Calls Tryd.prog 16 #[.slice ao n cap] w fun e w' => e = .returned (.string ⟨(putT l).toArray⟩) ∧ w' = w := by
  unfold putT
  cases h : okL l 64 with
  | true => exact rput_yes ao l n cap w hn hs hr h
  | false => exact rput_no ao l n cap w hn hs hr h
end Go.Proofs.YtaooijjppdfnfaaDoor.Sc
