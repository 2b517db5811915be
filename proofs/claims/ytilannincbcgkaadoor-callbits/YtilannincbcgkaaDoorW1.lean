/- What isField, num, Mask, Get and Put do: each one's contract. -/
import Derived.Test.YtilannincbcgkaaDoorChecked
import Derived.Test.YtilannincbcgkaaDoorMath
import Derived.WalkKit
import Derived.WalkLawsBesides
import Derived.Deep.QuietTactic
import Derived.BigQuiet
namespace Go.Proofs.YtilannincbcgkaaDoor
open Go.RowKit

set_option maxHeartbeats 400000 in
theorem isField_yes (a n : Int) (w : World) (h1 : 1 ≤ n) (h2 : n ≤ 64) (h3 : 0 ≤ a) (h4 : a ≤ 64 - n) :
    Calls Tryd.prog 30 #[.int .i64 a, .int .i64 n] w fun e w' => e = .returned (.bool true) ∧ w' = w := by
  go_enter Tryd.func30, Tryd.ntmps30
  go_wp2
  go_ret
  exact ⟨rfl, rfl⟩

set_option maxHeartbeats 400000 in
theorem isField_no (a n : Int) (w : World) (h : ¬ (1 ≤ n ∧ n ≤ 64 ∧ 0 ≤ a ∧ a ≤ 64 - n)) :
    Calls Tryd.prog 30 #[.int .i64 a, .int .i64 n] w fun e w' => e = .returned (.bool false) ∧ w' = w := by
  by_cases h1 : 1 ≤ n
  · by_cases h2 : n ≤ 64
    · by_cases h3 : 0 ≤ a
      · have h4 : ¬ a ≤ 64 - n := by omega
        clear h
        go_enter Tryd.func30, Tryd.ntmps30
        go_wp2
        go_ret
        exact ⟨rfl, rfl⟩
      · clear h
        go_enter Tryd.func30, Tryd.ntmps30
        go_wp2
        go_ret
        exact ⟨rfl, rfl⟩
    · clear h
      go_enter Tryd.func30, Tryd.ntmps30
      go_wp2
      go_ret
      exact ⟨rfl, rfl⟩
  · clear h
    go_enter Tryd.func30, Tryd.ntmps30
    go_wp2
    go_ret
    exact ⟨rfl, rfl⟩

set_option maxHeartbeats 400000 in
theorem num_any (x : Int) (w : World) :
    Calls Tryd.prog 13 #[.int .i64 x] w fun e w' => e = .returned (.int .i64 x) ∧ w' = w := by
  go_enter Tryd.func13, Tryd.ntmps13
  go_wp2
  go_ret
  exact ⟨rfl, rfl⟩

set_option maxHeartbeats 400000 in
theorem mask_yes (a n : Nat) (w : World) (h1 : 1 ≤ n) (h4 : a + n ≤ 64) :
    Calls Tryd.prog 31 #[.int .i64 a, .int .i64 n] w fun e w' => e = .returned (.int .u64 (maskN a n)) ∧ w' = w := by
  go_enter Tryd.func31, Tryd.ntmps31
  go_wp2_with (go_at_call 30; refine (isField_yes _ _ _ (by omega) (by omega) (by omega) (by omega)).mono ?_; rintro e w' ⟨rfl, rfl⟩)
  go_ret
  exact ⟨ret_int (mask_eq a n h4), rfl⟩

set_option maxHeartbeats 400000 in
theorem mask_no (a n : Int) (w : World) (h : ¬ (1 ≤ n ∧ n ≤ 64 ∧ 0 ≤ a ∧ a ≤ 64 - n)) :
    Calls Tryd.prog 31 #[.int .i64 a, .int .i64 n] w fun e w' => e = .returned (.int .u64 0) ∧ w' = w := by
  have H : Hid (¬ (1 ≤ n ∧ n ≤ 64 ∧ 0 ≤ a ∧ a ≤ 64 - n)) := h
  clear h
  go_enter Tryd.func31, Tryd.ntmps31
  go_wp2_with (go_at_call 30; refine (isField_no _ _ _ H.out).mono ?_; rintro e w' ⟨rfl, rfl⟩)
  go_ret
  exact ⟨rfl, rfl⟩

/-- MASK, AT WHATEVER NUMBERS. -/
theorem mask_any (a n : Int) (w : World) :
    Calls Tryd.prog 31 #[.int .i64 a, .int .i64 n] w fun e w' => e = .returned (.int .u64 (maskT a n)) ∧ w' = w := by
  cases h : fld a n with
  | false => rw [maskT_no h]; exact mask_no a n w (fld_not.1 h)
  | true =>
    obtain ⟨h1, h2, h3, h4⟩ := fld_iff.1 h
    rw [maskT_yes h]
    obtain ⟨a', rfl⟩ := Int.eq_ofNat_of_zero_le h3
    obtain ⟨n', rfl⟩ := Int.eq_ofNat_of_zero_le (show 0 ≤ n by omega)
    exact mask_yes a' n' w (by omega) (by omega)

set_option maxHeartbeats 400000 in
theorem get_yes (x a n : Nat) (w : World) (hx : Hid (x < 18446744073709551616)) (h1 : 1 ≤ n) (h4 : a + n ≤ 64) :
    Calls Tryd.prog 22 #[.int .u64 x, .int .i64 a, .int .i64 n] w fun e w' => e = .returned (.int .u64 (getN x a n)) ∧ w' = w := by
  go_enter Tryd.func22, Tryd.ntmps22
  go_wp2_with (first | (go_at_call 30; refine (isField_yes _ _ _ (by omega) (by omega) (by omega) (by omega)).mono ?_; rintro e w' ⟨rfl, rfl⟩) | (go_at_call 31; refine (mask_yes _ _ _ h1 h4).mono ?_; rintro e w' ⟨rfl, rfl⟩))
  go_ret
  exact ⟨ret_int (get_eq x a n hx.out h4), rfl⟩

set_option maxHeartbeats 400000 in
theorem get_no (x a n : Int) (w : World) (h : ¬ (1 ≤ n ∧ n ≤ 64 ∧ 0 ≤ a ∧ a ≤ 64 - n)) :
    Calls Tryd.prog 22 #[.int .u64 x, .int .i64 a, .int .i64 n] w fun e w' => e = .returned (.int .u64 0) ∧ w' = w := by
  have H : Hid (¬ (1 ≤ n ∧ n ≤ 64 ∧ 0 ≤ a ∧ a ≤ 64 - n)) := h
  clear h
  go_enter Tryd.func22, Tryd.ntmps22
  go_wp2_with (go_at_call 30; refine (isField_no _ _ _ H.out).mono ?_; rintro e w' ⟨rfl, rfl⟩)
  go_ret
  exact ⟨rfl, rfl⟩

/-- GET, AT WHATEVER NUMBERS. -/
theorem get_any (x a n : Int) (w : World) (hx : U64 x) :
    Calls Tryd.prog 22 #[.int .u64 x, .int .i64 a, .int .i64 n] w fun e w' => e = .returned (.int .u64 (getT x a n)) ∧ w' = w := by
  cases h : fld a n with
  | false => rw [getT_no h]; exact get_no x a n w (fld_not.1 h)
  | true =>
    obtain ⟨h1, h2, h3, h4⟩ := fld_iff.1 h
    rw [getT_yes h]
    obtain ⟨a', rfl⟩ := Int.eq_ofNat_of_zero_le h3
    obtain ⟨n', rfl⟩ := Int.eq_ofNat_of_zero_le (show 0 ≤ n by omega)
    obtain ⟨x', rfl⟩ := Int.eq_ofNat_of_zero_le hx.1
    exact get_yes x' a' n' w (by have := hx.2; show x' < 18446744073709551616; omega) (by omega) (by omega)

set_option maxHeartbeats 400000 in
theorem put_arg (x a n v : Int) (w : World) (h : ¬ (1 ≤ n ∧ n ≤ 64 ∧ 0 ≤ a ∧ a ≤ 64 - n)) :
    Calls Tryd.prog 20 #[.int .u64 x, .int .i64 a, .int .i64 n, .int .u64 v] w fun e w' => e = .returned (.tuple #[.int .u64 0, .int .i64 2]) ∧ w' = w := by
  have H : Hid (¬ (1 ≤ n ∧ n ≤ 64 ∧ 0 ≤ a ∧ a ≤ 64 - n)) := h
  clear h
  go_enter Tryd.func20, Tryd.ntmps20
  go_wp2_with (go_at_call 30; refine (isField_no _ _ _ H.out).mono ?_; rintro e w' ⟨rfl, rfl⟩)
  go_ret2
  exact ⟨rfl, rfl⟩

set_option maxHeartbeats 400000 in
theorem put_fit (x : Int) (a n v : Nat) (w : World) (h1 : 1 ≤ n) (h4 : a + n ≤ 64) (hv : ¬ v ≤ 2 ^ n - 1) :
    Calls Tryd.prog 20 #[.int .u64 x, .int .i64 a, .int .i64 n, .int .u64 v] w fun e w' => e = .returned (.tuple #[.int .u64 0, .int .i64 10]) ∧ w' = w := by
  have hg : ((maskN 0 n : Nat) : Int) < (v : Int) := by rw [mask_low]; omega
  clear hv
  have HM2 : Hid (Calls Tryd.prog 31 #[.int .i64 0, .int .i64 n] w fun e w' => e = .returned (.int .u64 (maskN 0 n)) ∧ w' = w) := mask_yes 0 n w h1 (by omega)
  go_enter Tryd.func20, Tryd.ntmps20
  go_wp2_with (first | (go_at_call 30; refine (isField_yes _ _ _ (by omega) (by omega) (by omega) (by omega)).mono ?_; rintro e w' ⟨rfl, rfl⟩) | (go_at_call 31; refine (HM2.out).mono ?_; rintro e w' ⟨rfl, rfl⟩))
  go_ret2
  exact ⟨rfl, rfl⟩

set_option maxHeartbeats 1000000 in
theorem put_yes (x a n v : Nat) (w : World) (hx : Hid (x < 18446744073709551616)) (h1 : 1 ≤ n) (h4 : a + n ≤ 64) (hv : v ≤ 2 ^ n - 1) :
    Calls Tryd.prog 20 #[.int .u64 x, .int .i64 a, .int .i64 n, .int .u64 v] w fun e w' => e = .returned (.tuple #[.int .u64 (putN x a n v), .int .i64 0]) ∧ Below w.heap.size w w' := by
  have hg : ¬ ((maskN 0 n : Nat) : Int) < (v : Int) := by rw [mask_low]; omega
  have HV : Hid (v ≤ 2 ^ n - 1) := hv
  clear hv
  have HM2 : Hid (Calls Tryd.prog 31 #[.int .i64 0, .int .i64 n] w fun e w' => e = .returned (.int .u64 (maskN 0 n)) ∧ w' = w) := mask_yes 0 n w h1 (by omega)
  go_enter Tryd.func20, Tryd.ntmps20
  go_wp2_with (first | (go_at_call 30; refine (isField_yes _ _ _ (by omega) (by omega) (by omega) (by omega)).mono ?_; rintro e w' ⟨rfl, rfl⟩) | (go_at_call 31; refine (HM2.out).mono ?_; rintro e w' ⟨rfl, rfl⟩))
  go_quiet ((go_at_call 31; exact Calls.quiet_of_same (mask_yes _ _ _ h1 h4)))
  go_wp2
  go_ret2
  exact ⟨ret_int2 (put_eq x a n v hx.out HV.out h4), below_drewN (Below.refl _ _) _⟩

/-- PUT, AT WHATEVER NUMBERS. -/
theorem put_any (x a n v : Int) (w : World) (hx : U64 x) (hv : U64 v) :
    Calls Tryd.prog 20 #[.int .u64 x, .int .i64 a, .int .i64 n, .int .u64 v] w fun e w' => e = .returned (.tuple #[.int .u64 (putT x a n v), .int .i64 (putE a n v)]) ∧ Below w.heap.size w w' := by
  cases h : fld a n with
  | false =>
    rw [putT_arg h, putE_arg h]
    exact (put_arg x a n v w (fld_not.1 h)).mono (by rintro e w' ⟨rfl, rfl⟩; exact ⟨rfl, Below.refl _ _⟩)
  | true =>
    obtain ⟨h1, h2, h3, h4⟩ := fld_iff.1 h
    cases hf : fits v n with
    | false =>
      rw [putT_fit hf, putE_fit h hf]
      obtain ⟨a', rfl⟩ := Int.eq_ofNat_of_zero_le h3
      obtain ⟨n', rfl⟩ := Int.eq_ofNat_of_zero_le (show 0 ≤ n by omega)
      obtain ⟨v', rfl⟩ := Int.eq_ofNat_of_zero_le hv.1
      refine (put_fit x a' n' v' w (by omega) (by omega) ?_).mono (by rintro e w' ⟨rfl, rfl⟩; exact ⟨rfl, Below.refl _ _⟩)
      simp only [fits, Int.toNat_natCast, decide_eq_false_iff_not] at hf
      omega
    | true =>
      rw [putT_ok h hf, putE_ok h hf]
      obtain ⟨a', rfl⟩ := Int.eq_ofNat_of_zero_le h3
      obtain ⟨n', rfl⟩ := Int.eq_ofNat_of_zero_le (show 0 ≤ n by omega)
      obtain ⟨v', rfl⟩ := Int.eq_ofNat_of_zero_le hv.1
      obtain ⟨x', rfl⟩ := Int.eq_ofNat_of_zero_le hx.1
      refine put_yes x' a' n' v' w (by have := hx.2; show x' < 18446744073709551616; omega) (by omega) (by omega) ?_
      simp only [fits, Int.toNat_natCast, decide_eq_true_eq] at hf
      omega
end Go.Proofs.YtilannincbcgkaaDoor
