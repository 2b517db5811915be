/- What the reference's Is, Has and Within do. -/
import Derived.Test.YthnfekdoibhnpaaDoorRcW4
import Derived.Test.YthnfekdoibhnpaaDoorRtFacts
namespace Go.Proofs.YthnfekdoibhnpaaDoor.Rt
open Go.RowKit

set_option maxHeartbeats 400000 in
theorem ris_any (r : Int) (w : World) :
    Calls Tryd.prog 45 #[.int .i64 r] w fun e w' => e = .returned (.bool (isR r)) ∧ w' = w := by
  by_cases h1 : 0 ≤ r
  · by_cases h2 : r ≤ 15
    · have H : Hid (isR r = true) := isR_iff.2 ⟨h1, h2⟩
      go_enter Tryd.func45, Tryd.ntmps45
      go_wp2
      go_ret
      exact ⟨ret_bool H.out.symm, rfl⟩
    · have H : Hid (isR r = false) := isR_not.2 (by omega)
      go_enter Tryd.func45, Tryd.ntmps45
      go_wp2
      go_ret
      exact ⟨ret_bool H.out.symm, rfl⟩
  · have H : Hid (isR r = false) := isR_not.2 (by omega)
    go_enter Tryd.func45, Tryd.ntmps45
    go_wp2
    go_ret
    exact ⟨ret_bool H.out.symm, rfl⟩

def hasB (r k : Nat) : Bool := r / 2 ^ k % 2 == 1
theorem has_fin : ∀ (r : Fin 16) (k : Fin 4), (((r.val : Int) / 2 ^ k.val).tmod 2 == 1) = hasB r k := by decide +kernel
set_option maxHeartbeats 400000 in
theorem has_any (r k : Nat) (w : World) (hr : r < 16) (hk : k < 4) :
    Calls Tryd.prog 46 #[.int .i64 r, .int .i64 k] w fun e w' => e = .returned (.bool (hasB r k)) ∧ w' = w := by
  go_enter Tryd.func46, Tryd.ntmps46
  go_wp2
  go_ret
  exact ⟨ret_bool (has_fin ⟨r, hr⟩ ⟨k, hk⟩), rfl⟩

theorem wi_fin : ∀ a b : Fin 16, wiB a.val b.val = decide (∀ j : Fin 4, hasB a j = true → hasB b j = true) := by decide +kernel
theorem wi_yes {a b : Nat} (ha : a < 16) (hb : b < 16) (h : ∀ j, j < 4 → hasB a j = true → hasB b j = true) : wiB a b = true := by
  have := wi_fin ⟨a, ha⟩ ⟨b, hb⟩
  simp only at this
  rw [this]
  exact decide_eq_true (fun j hj => h j j.isLt hj)
theorem wi_no {a b k : Nat} (ha : a < 16) (hb : b < 16) (hk : k < 4) (h1 : hasB a k = true) (h2 : hasB b k = false) : wiB a b = false := by
  have := wi_fin ⟨a, ha⟩ ⟨b, hb⟩
  simp only at this
  rw [this]
  refine decide_eq_false (fun h => ?_)
  have := h ⟨k, hk⟩ h1
  simp [h2] at this

set_option maxHeartbeats 1000000 in
theorem rwithin_no (a b : Int) (w : World) (h : (isR a && isR b) = false) :
    Calls Tryd.prog 42 #[.int .i64 a, .int .i64 b] w fun e w' => e = .returned (.bool false) ∧ w' = w := by
  cases ha : isR a with
  | false =>
    clear h
    go_enter Tryd.func42, Tryd.ntmps42
    go_wp2_with (go_at_call 45; refine (ris_any _ _).mono ?_; rintro e w' ⟨rfl, rfl⟩)
    go_ret
    exact ⟨rfl, rfl⟩
  | true =>
    have hb : isR b = false := by simpa [ha] using h
    clear h
    go_enter Tryd.func42, Tryd.ntmps42
    go_wp2_with (go_at_call 45; refine (ris_any _ _).mono ?_; rintro e w' ⟨rfl, rfl⟩)
    go_ret
    exact ⟨rfl, rfl⟩

set_option maxHeartbeats 1000000 in
theorem rwithin_yes (a b : Nat) (w : World) (ha : isR a = true) (hb : isR b = true) (HA : Hid (a < 16)) (HB : Hid (b < 16)) :
    Calls Tryd.prog 42 #[.int .i64 a, .int .i64 b] w fun e w' => e = .returned (.bool (wiB a b)) ∧ w' = w := by
  go_enter Tryd.func42, Tryd.ntmps42
  go_wp2_with (go_at_call 45; refine (ris_any _ _).mono ?_; rintro e w' ⟨rfl, rfl⟩)
  go_loop [5] (fun i => ∃ k : Nat, k ≤ 4 ∧ i = .int .i64 k ∧ Hid (∀ j, j < k → hasB a j = true → hasB b j = true)) (fun i => 4 - (intOf i).toNat)
  case atStart => exact ⟨0, by omega, rfl, fun j hj => absurd hj (by omega)⟩
  case round =>
    obtain ⟨k, hk, rfl, hI⟩ := hrel
    by_cases hlt : k < 4
    · cases h1 : hasB a k with
      | false =>
        have HI : Hid (∀ j, j < k + 1 → hasB a j = true → hasB b j = true) := fun j hj hx => if e : j = k then by rw [e, h1] at hx; cases hx else hI.out j (by omega) hx
        go_wp2_with (go_at_call 46; refine (has_any _ _ _ (by first | exact HA.out | exact HB.out) hlt).mono ?_; rintro e w' ⟨rfl, rfl⟩)
        go_round
        case rel => exact ⟨k + 1, by omega, by go_num, HI⟩
        case measure => simp [intOf]; omega
      | true =>
        cases h2 : hasB b k with
        | false =>
          have HZ : Hid (wiB a b = false) := wi_no HA.out HB.out hlt h1 h2
          go_wp2_with (go_at_call 46; refine (has_any _ _ _ (by first | exact HA.out | exact HB.out) hlt).mono ?_; rintro e w' ⟨rfl, rfl⟩)
          go_ret
          exact ⟨ret_bool HZ.out.symm, rfl⟩
        | true =>
          have HI : Hid (∀ j, j < k + 1 → hasB a j = true → hasB b j = true) := fun j hj hx => if e : j = k then e ▸ h2 else hI.out j (by omega) hx
          go_wp2_with (go_at_call 46; refine (has_any _ _ _ (by first | exact HA.out | exact HB.out) hlt).mono ?_; rintro e w' ⟨rfl, rfl⟩)
          go_round
          case rel => exact ⟨k + 1, by omega, by go_num, HI⟩
          case measure => simp [intOf]; omega
    · obtain rfl : k = 4 := by omega
      have HZ : Hid (wiB a b = true) := wi_yes HA.out HB.out hI.out
      go_wp2
      go_ret
      exact ⟨ret_bool HZ.out.symm, rfl⟩

theorem rwithin_any (a b : Int) (w : World) :
    Calls Tryd.prog 42 #[.int .i64 a, .int .i64 b] w fun e w' => e = .returned (.bool (wiB a b)) ∧ w' = w := by
  cases h : (isR a && isR b) with
  | false =>
    have : wiB a b = false := by simp only [wiB, h]; rfl
    rw [this]
    exact rwithin_no a b w h
  | true =>
    have ha : isR a = true := by simpa using (Bool.and_eq_true_iff.1 h).1
    have hb : isR b = true := by simpa using (Bool.and_eq_true_iff.1 h).2
    obtain ⟨m, hm, rfl⟩ := isR_nat ha
    obtain ⟨n, hn, rfl⟩ := isR_nat hb
    exact rwithin_yes m n w ha hb hm hn

/-! ### Sums of what is had -/
end Go.Proofs.YthnfekdoibhnpaaDoor.Rt
