/- What the reference's Is, Has and Within do. -/
import Derived.Test.YtepadldbhjbjaaaDoorRtW4
import Derived.Test.YtepadldbhjbjaaaDoorRtFacts
namespace Go.Proofs.YtepadldbhjbjaaaDoor.Rt
open Go.RowKit

set_option maxHeartbeats 400000 in
theorem ris_any (r : Int) (w : World) :
    Calls Tryd.prog 13 #[.int .i64 r] w fun e w' => e = .returned (.bool (isR r)) ∧ w' = w := by
  by_cases h1 : 0 ≤ r
  · by_cases h2 : r ≤ 15
    · have H : Hid (isR r = true) := isR_iff.2 ⟨h1, h2⟩
      go_enter Tryd.func13, Tryd.ntmps13
      go_wp2
      go_ret
      exact ⟨ret_bool H.out.symm, rfl⟩
    · have H : Hid (isR r = false) := isR_not.2 (by omega)
      go_enter Tryd.func13, Tryd.ntmps13
      go_wp2
      go_ret
      exact ⟨ret_bool H.out.symm, rfl⟩
  · have H : Hid (isR r = false) := isR_not.2 (by omega)
    go_enter Tryd.func13, Tryd.ntmps13
    go_wp2
    go_ret
    exact ⟨ret_bool H.out.symm, rfl⟩

def hasB (r k : Nat) : Bool := r / 2 ^ k % 2 == 1
theorem has_fin : ∀ (r : Fin 16) (k : Fin 4), (((r.val : Int) / 2 ^ k.val).tmod 2 == 1) = hasB r k := by decide +kernel
set_option maxHeartbeats 400000 in
theorem has_any (r k : Nat) (w : World) (hr : r < 16) (hk : k < 4) :
    Calls Tryd.prog 25 #[.int .i64 r, .int .i64 k] w fun e w' => e = .returned (.bool (hasB r k)) ∧ w' = w := by
  go_enter Tryd.func25, Tryd.ntmps25
  go_wp2
  go_ret
  exact ⟨ret_bool (has_fin ⟨r, hr⟩ ⟨k, hk⟩), rfl⟩

theorem wi_fin : ∀ a b : Fin 16, wiB a.val b.val = decide (∀ j : Fin 4, hasB a j = true → hasB b j = true) := by decide +kernel
theorem wi_yes {a b : Nat} (ha : a < 16) (hb : b < 16) (h : ∀ j, j < 4 → hasB a j = true → hasB b j = true) : wiB a b = true := by
  have := wi_fin ⟨a, ha⟩ ⟨b, hb⟩
  simp only at this
  rw [this]
  exact decide_eq_true (fun j hj => h j j.isLt hj)
theorem wi_no {a b k : Nat} (ha : a < 16) (hb : b < 16) (hk : k < 4) (h1 : hasB a k = true) (h2 : hasB b k = false) : wiB a b = false := by
  have := wi_fin ⟨a, ha⟩ ⟨b, hb⟩
  simp only at this
  rw [this]
  refine decide_eq_false (fun h => ?_)
  have := h ⟨k, hk⟩ h1
  simp [h2] at this

set_option maxHeartbeats 1000000 in
theorem rwithin_no (a b : Int) (w : World) (h : (isR a && isR b) = false) :
    Calls Tryd.prog 15 #[.int .i64 a, .int .i64 b] w fun e w' => e = .returned (.bool false) ∧ w' = w := by
  cases ha : isR a with
  | false =>
    clear h
    go_enter Tryd.func15, Tryd.ntmps15
    go_wp2_with (go_at_call 13; refine (ris_any _ _).mono ?_; rintro e w' ⟨rfl, rfl⟩)
    go_ret
    exact ⟨rfl, rfl⟩
  | true =>
    have hb : isR b = false := by simpa [ha] using h
    clear h
    go_enter Tryd.func15, Tryd.ntmps15
    go_wp2_with (go_at_call 13; refine (ris_any _ _).mono ?_; rintro e w' ⟨rfl, rfl⟩)
    go_ret
    exact ⟨rfl, rfl⟩

set_option maxHeartbeats 1000000 in
theorem rwithin_yes (a b : Nat) (w : World) (ha : isR a = true) (hb : isR b = true) (HA : Hid (a < 16)) (HB : Hid (b < 16)) :
    Calls Tryd.prog 15 #[.int .i64 a, .int .i64 b] w fun e w' => e = .returned (.bool (wiB a b)) ∧ w' = w := by
  go_enter Tryd.func15, Tryd.ntmps15
  go_wp2_with (go_at_call 13; refine (ris_any _ _).mono ?_; rintro e w' ⟨rfl, rfl⟩)
  go_loop [5] (fun i => ∃ k : Nat, k ≤ 4 ∧ i = .int .i64 k ∧ Hid (∀ j, j < k → hasB a j = true → hasB b j = true)) (fun i => 4 - (intOf i).toNat)
  case atStart => exact ⟨0, by omega, rfl, fun j hj => absurd hj (by omega)⟩
  case round =>
    obtain ⟨k, hk, rfl, hI⟩ := hrel
    by_cases hlt : k < 4
    · cases h1 : hasB a k with
      | false =>
        have HI : Hid (∀ j, j < k + 1 → hasB a j = true → hasB b j = true) := fun j hj hx => if e : j = k then by rw [e, h1] at hx; cases hx else hI.out j (by omega) hx
        go_wp2_with (go_at_call 25; refine (has_any _ _ _ (by first | exact HA.out | exact HB.out) hlt).mono ?_; rintro e w' ⟨rfl, rfl⟩)
        go_round
        case rel => exact ⟨k + 1, by omega, by go_num, HI⟩
        case measure => simp [intOf]; omega
      | true =>
        cases h2 : hasB b k with
        | false =>
          have HZ : Hid (wiB a b = false) := wi_no HA.out HB.out hlt h1 h2
          go_wp2_with (go_at_call 25; refine (has_any _ _ _ (by first | exact HA.out | exact HB.out) hlt).mono ?_; rintro e w' ⟨rfl, rfl⟩)
          go_ret
          exact ⟨ret_bool HZ.out.symm, rfl⟩
        | true =>
          have HI : Hid (∀ j, j < k + 1 → hasB a j = true → hasB b j = true) := fun j hj hx => if e : j = k then e ▸ h2 else hI.out j (by omega) hx
          go_wp2_with (go_at_call 25; refine (has_any _ _ _ (by first | exact HA.out | exact HB.out) hlt).mono ?_; rintro e w' ⟨rfl, rfl⟩)
          go_round
          case rel => exact ⟨k + 1, by omega, by go_num, HI⟩
          case measure => simp [intOf]; omega
    · obtain rfl : k = 4 := by omega
      have HZ : Hid (wiB a b = true) := wi_yes HA.out HB.out hI.out
      go_wp2
      go_ret
      exact ⟨ret_bool HZ.out.symm, rfl⟩

theorem rwithin_any (a b : Int) (w : World) :
    Calls Tryd.prog 15 #[.int .i64 a, .int .i64 b] w fun e w' => e = .returned (.bool (wiB a b)) ∧ w' = w := by
  cases h : (isR a && isR b) with
  | false =>
    have : wiB a b = false := by simp only [wiB, h]; rfl
    rw [this]
    exact rwithin_no a b w h
  | true =>
    have ha : isR a = true := by simpa using (Bool.and_eq_true_iff.1 h).1
    have hb : isR b = true := by simpa using (Bool.and_eq_true_iff.1 h).2
    obtain ⟨m, hm, rfl⟩ := isR_nat ha
    obtain ⟨n, hn, rfl⟩ := isR_nat hb
    exact rwithin_yes m n w ha hb hm hn

/-! ### Sums of what is had -/
def bsum (p : Nat → Bool) : Nat → Nat
  | 0 => 0
  | k + 1 => bsum p k + (if p k then 2 ^ k else 0)
theorem bsum_lt (p : Nat → Bool) : ∀ k, bsum p k < 2 ^ k
  | 0 => by simp [bsum]
  | k + 1 => by
    have := bsum_lt p k
    unfold bsum
    rw [Nat.pow_succ]
    split <;> omega
theorem bsum_congr (p q : Nat → Bool) : ∀ k, (∀ j, j < k → p j = q j) → bsum p k = bsum q k
  | 0, _ => rfl
  | k + 1, h => by unfold bsum; rw [bsum_congr p q k (fun j hj => h j (by omega)), h k (by omega)]
theorem less_sum : ∀ a b : Fin 16, lessT a.val b.val = bsum (fun k => hasB a k && !hasB b k) 4 := by decide +kernel

set_option maxHeartbeats 1000000 in
theorem rless_none (a b : Int) (w : World) (h : (isR a && isR b) = false) :
    Calls Tryd.prog 24 #[.int .i64 a, .int .i64 b] w fun e w' => e = .returned (.tuple #[.int .i64 0, .int .i64 20]) ∧ w' = w := by
  cases ha : isR a with
  | false =>
    clear h
    go_enter Tryd.func24, Tryd.ntmps24
    go_wp2_with (go_at_call 13; refine (ris_any _ _).mono ?_; rintro e w' ⟨rfl, rfl⟩)
    go_ret2
    exact ⟨rfl, rfl⟩
  | true =>
    have hb : isR b = false := by simpa [ha] using h
    clear h
    go_enter Tryd.func24, Tryd.ntmps24
    go_wp2_with (go_at_call 13; refine (ris_any _ _).mono ?_; rintro e w' ⟨rfl, rfl⟩)
    go_ret2
    exact ⟨rfl, rfl⟩

theorem wrap_fin : ∀ (t : Fin 16) (k : Fin 4), wrap64 ((t.val : Int) + wrap64 (2 ^ k.val)) = ((t.val + 2 ^ k.val : Nat) : Int) := by decide +kernel
theorem wrap_sum {t k : Nat} (ht : t < 16) (hk : k < 4) : wrap64 ((t : Int) + wrap64 (2 ^ k)) = ((t + 2 ^ k : Nat) : Int) := wrap_fin ⟨t, ht⟩ ⟨k, hk⟩
theorem shl_lt {k : Nat} (h : k < 4) : 2 ^ k ≤ 8 := by
  have : 2 ^ k ≤ 2 ^ 3 := Nat.pow_le_pow_right (by omega) (by omega)
  omega

set_option maxHeartbeats 1000000 in
theorem rless_yes (a b : Nat) (w : World) (ha : isR a = true) (hb : isR b = true) (HA : Hid (a < 16)) (HB : Hid (b < 16)) :
    Calls Tryd.prog 24 #[.int .i64 a, .int .i64 b] w fun e w' => e = .returned (.tuple #[.int .i64 (bsum (fun k => hasB a k && !hasB b k) 4 : Nat), .int .i64 0]) ∧ w' = w := by
  obtain ⟨p, hp⟩ : ∃ p : Nat → Bool, p = fun k => hasB a k && !hasB b k := ⟨_, rfl⟩
  have HP : Hid (∀ k, p k = (hasB a k && !hasB b k)) := fun k => by rw [hp]
  rw [← hp]
  clear hp
  go_enter Tryd.func24, Tryd.ntmps24
  go_wp2_with (go_at_call 13; refine (ris_any _ _).mono ?_; rintro e w' ⟨rfl, rfl⟩)
  go_loop [6, 7] (fun v i => ∃ k : Nat, k ≤ 4 ∧ i = .int .i64 k ∧ v = .int .i64 (bsum p k : Nat)) (fun _ i => 4 - (intOf i).toNat)
  case atStart => exact ⟨0, by omega, rfl, rfl⟩
  case round =>
    obtain ⟨k, hk, rfl, rfl⟩ := hrel
    by_cases hlt : k < 4
    · obtain ⟨t, ht⟩ : ∃ t, bsum p k = t := ⟨_, rfl⟩
      have ht16 : t < 16 := by
        have h1 := bsum_lt p k
        have h2 := shl_lt hlt
        omega
      have hs := shl_lt hlt
      have HS : Hid (bsum p (k + 1) = t + (if p k then 2 ^ k else 0)) := by show bsum p k + _ = _; rw [ht]
      rw [ht]
      clear ht
      cases h1 : hasB a k with
      | false =>
        have HK : Hid (p k = false) := by show p k = false; rw [HP.out, h1]; rfl
        go_wp2_with (go_at_call 25; refine (has_any _ _ _ (by first | exact HA.out | exact HB.out) hlt).mono ?_; rintro e w' ⟨rfl, rfl⟩)
        go_round
        case rel => exact ⟨k + 1, by omega, by go_num, by rw [HS.out, HK.out]; rfl⟩
        case measure => simp [intOf]; omega
      | true =>
        cases h2 : hasB b k with
        | true =>
          have HK : Hid (p k = false) := by show p k = false; rw [HP.out, h1, h2]; rfl
          go_wp2_with (go_at_call 25; refine (has_any _ _ _ (by first | exact HA.out | exact HB.out) hlt).mono ?_; rintro e w' ⟨rfl, rfl⟩)
          go_round
          case rel => exact ⟨k + 1, by omega, by go_num, by rw [HS.out, HK.out]; rfl⟩
          case measure => simp [intOf]; omega
        | false =>
          have HK : Hid (p k = true) := by show p k = true; rw [HP.out, h1, h2]; rfl
          go_wp2_with (go_at_call 25; refine (has_any _ _ _ (by first | exact HA.out | exact HB.out) hlt).mono ?_; rintro e w' ⟨rfl, rfl⟩)
          go_round
          case rel => exact ⟨k + 1, by omega, by go_num, by rw [HS.out, HK.out, wrap_sum ht16 hlt]; rfl⟩
          case measure => simp [intOf]; omega
    · obtain rfl : k = 4 := by omega
      go_wp2
      go_ret2
      exact ⟨rfl, rfl⟩

theorem rless_ref (a b : Int) (w : World) :
    Calls Tryd.prog 24 #[.int .i64 a, .int .i64 b] w fun e w' => e = .returned (.tuple #[.int .i64 (lessT a b), .int .i64 (lessE a b)]) ∧ w' = w := by
  cases h : (isR a && isR b) with
  | false =>
    rw [show lessT a b = 0 by simp only [lessT, h]; rfl, show lessE a b = 20 by simp only [lessE, h]; rfl]
    exact rless_none a b w h
  | true =>
    have ha : isR a = true := by simpa using (Bool.and_eq_true_iff.1 h).1
    have hb : isR b = true := by simpa using (Bool.and_eq_true_iff.1 h).2
    obtain ⟨m, hm, rfl⟩ := isR_nat ha
    obtain ⟨n, hn, rfl⟩ := isR_nat hb
    rw [show lessE m n = 0 by simp only [lessE, h]; rfl, show lessT m n = _ from less_sum ⟨m, hm⟩ ⟨n, hn⟩]
    exact rless_yes m n w ha hb hm hn
end Go.Proofs.YtepadldbhjbjaaaDoor.Rt
