/- The walk of BitsTwice: it answers true. -/
import Derived.Test.YtdngpjgpomjncabDoorW5
namespace Go.Proofs.YtdngpjgpomjncabDoor
open Go.RowKit

theorem putN_lt (w a n v : Nat) (hw : w < 18446744073709551616) (hv : v ≤ 2 ^ n - 1) (h : a + n ≤ 64) : putN w a n v < 18446744073709551616 := by
  unfold putN
  have h1 : w &&& (18446744073709551615 - maskN a n) < 2 ^ 64 := Nat.lt_of_le_of_lt Nat.and_le_left (by omega)
  have h2 := shl_fit v a n hv h
  exact Nat.or_lt_two_pow h1 (by omega)

theorem fits_le {v n : Int} (hv : 0 ≤ v) (h : fits v n = true) : v.toNat ≤ 2 ^ n.toNat - 1 := by
  simp only [fits, decide_eq_true_eq] at h
  omega
theorem fld_le {a n : Int} (h : fld a n = true) : a.toNat + n.toNat ≤ 64 := by
  have := fld_iff.1 h
  omega
theorem putT_u64 {w a n v : Int} (hw : U64 w) (hv : U64 v) : U64 (putT w a n v) := by
  unfold putT
  split
  · rename_i h
    rw [Bool.and_eq_true] at h
    have := hw.1; have := hw.2
    exact u64_of _ (putN_lt _ _ _ _ (by omega) (fits_le hv.1 h.2) (fld_le h.1))
  · exact u64_of 0 (by omega)

/-- The bits of what is put. -/
theorem not_mask_bit (a n i : Nat) (h : a + n ≤ 64) : (18446744073709551615 - maskN a n).testBit i = (decide (i < 64) && !(decide (a ≤ i) && decide (i < a + n))) := by
  have hm := maskN_lt a n h
  have e : 18446744073709551615 - maskN a n = 2 ^ 64 - (maskN a n + 1) := by omega
  rw [e, Nat.testBit_two_pow_sub_succ (by omega)]
  congr 2
  unfold maskN
  rw [Nat.testBit_mul_two_pow, Nat.testBit_two_pow_sub_one]
  by_cases h1 : a ≤ i
  · simp [h1]; omega
  · simp [h1]
theorem put_bit (w a n v i : Nat) (hw : w < 18446744073709551616) (hv : v ≤ 2 ^ n - 1) (h : a + n ≤ 64) :
    (putN w a n v).testBit i = if a ≤ i ∧ i < a + n then v.testBit (i - a) else w.testBit i := by
  unfold putN
  rw [Nat.testBit_or, Nat.testBit_and, not_mask_bit a n i h, Nat.testBit_mul_two_pow]
  have hw64 : ¬ i < 64 → w.testBit i = false := fun hi => Nat.testBit_lt_two_pow (Nat.lt_of_lt_of_le (show w < 2 ^ 64 by omega) (Nat.pow_le_pow_right (by omega) (by omega)))
  have hvn : ¬ i < a + n → a ≤ i → v.testBit (i - a) = false := fun h1 h2 =>
    Nat.testBit_lt_two_pow (Nat.lt_of_lt_of_le (show v < 2 ^ n by have := Nat.two_pow_pos n; omega) (Nat.pow_le_pow_right (by omega) (by omega)))
  by_cases h1 : a ≤ i
  · by_cases h2 : i < a + n
    · simp [h1, h2]
    · by_cases h3 : i < 64
      · simp [h1, h2, h3, hvn h2 h1]
      · simp [h1, h2, hw64 h3, hvn h2 h1]
  · by_cases h3 : i < 64
    · simp [h1, h3]
    · simp [h1, hw64 h3]

theorem putN_twice (w a n v u : Nat) (hw : w < 18446744073709551616) (hv : v ≤ 2 ^ n - 1) (hu : u ≤ 2 ^ n - 1) (h : a + n ≤ 64) : putN (putN w a n v) a n u = putN w a n u := by
  apply Nat.eq_of_testBit_eq
  intro i
  rw [put_bit _ a n u i (putN_lt w a n v hw hv h) hu h, put_bit w a n u i hw hu h, put_bit w a n v i hw hv h]
  split <;> rfl
theorem putT_twice {w a n v u : Int} (hw : U64 w) (hv : U64 v) (hu : U64 u) (he : putE a n v = 0) : putT (putT w a n v) a n u = putT w a n u := by
  cases h1 : fld a n with
  | false => rw [putE_arg h1] at he; omega
  | true =>
    cases h2 : fits v n with
    | false => rw [putE_fit h1 h2] at he; omega
    | true =>
      cases h3 : fits u n with
      | false => rw [putT_fit h3, putT_fit h3]
      | true =>
        rw [putT_ok h1 h3, putT_ok h1 h3, putT_ok h1 h2, Int.toNat_natCast]
        have := hw.1; have := hw.2
        rw [putN_twice _ _ _ _ _ (by omega) (fits_le hv.1 h2) (fits_le hu.1 h3) (fld_le h1)]
theorem putN_all (w v : Nat) (hw : w < 18446744073709551616) (hv : v < 18446744073709551616) : putN w 0 64 v = v := by
  apply Nat.eq_of_testBit_eq
  intro i
  rw [put_bit w 0 64 v i hw (by omega) (by omega)]
  split
  · simp
  · have hi : 64 ≤ i := by omega
    rw [Nat.testBit_lt_two_pow (Nat.lt_of_lt_of_le (show w < 2 ^ 64 by omega) (Nat.pow_le_pow_right (by omega) hi)), Nat.testBit_lt_two_pow (Nat.lt_of_lt_of_le (show v < 2 ^ 64 by omega) (Nat.pow_le_pow_right (by omega) hi))]
theorem fits_all {v : Int} (hv : U64 v) : fits v 64 = true := by
  have := hv.1; have := hv.2
  simp only [fits, decide_eq_true_eq]
  have : (2 ^ (64 : Int).toNat - 1 : Nat) = 18446744073709551615 := by kernel_rfl
  omega
theorem putT_all {w v : Int} (hw : U64 w) (hv : U64 v) : putT w 0 64 v = v := by
  rw [putT_ok (by decide) (fits_all hv)]
  have := hw.1; have := hw.2; have := hv.1; have := hv.2
  have e := putN_all w.toNat v.toNat (by omega) (by omega)
  show ((putN w.toNat 0 64 v.toNat : Nat) : Int) = v
  rw [e]; omega
theorem putE_all {v : Int} (hv : U64 v) : putE 0 64 v = 0 := putE_ok (by decide) (fits_all hv)
theorem getT_all {w : Int} (hw : U64 w) : getT w 0 64 = w := by
  rw [getT_yes (by decide)]
  have := hw.1; have := hw.2
  show ((getN w.toNat 0 64 : Nat) : Int) = w
  unfold getN
  rw [Nat.pow_zero, Nat.div_one, Nat.mod_eq_of_lt (by omega)]
  omega

set_option maxRecDepth 100000 in
set_option maxHeartbeats 2000000 in
theorem twice_core (x a n v u p1 e1 p2 e2 p3 : Int) (w : World) (HD : Hid (Dig w))
    (H1 : Hid (∀ W : World, Calls Tryd.prog 10 #[.int .u64 x, .int .i64 a, .int .i64 n, .int .u64 v] W fun e w' => e = .returned (.tuple #[.int .u64 p1, .int .i64 e1]) ∧ Below W.heap.size W w'))
    (H2 : Hid (∀ W : World, Calls Tryd.prog 10 #[.int .u64 p1, .int .i64 a, .int .i64 n, .int .u64 u] W fun e w' => e = .returned (.tuple #[.int .u64 p2, .int .i64 e2]) ∧ Below W.heap.size W w'))
    (H3 : Hid (∀ W : World, Calls Tryd.prog 10 #[.int .u64 x, .int .i64 a, .int .i64 n, .int .u64 u] W fun e w' => e = .returned (.tuple #[.int .u64 p3, .int .i64 e2]) ∧ Below W.heap.size W w'))
    (H4 : Hid (∀ W : World, Calls Tryd.prog 10 #[.int .u64 x, .int .i64 0, .int .i64 64, .int .u64 v] W fun e w' => e = .returned (.tuple #[.int .u64 v, .int .i64 0]) ∧ Below W.heap.size W w'))
    (H5 : Hid (∀ W : World, Calls Tryd.prog 12 #[.int .u64 x, .int .i64 0, .int .i64 64] W fun e w' => e = .returned (.int .u64 x) ∧ w' = W))
    (hc : Hid ((e1 != 0) = true ∨ ((e1 != 0) = false ∧ (p2 == p3) = true))) :
    Calls Tryd.prog 5 #[.int .u64 x, .int .i64 a, .int .i64 n, .int .u64 v, .int .u64 u] w fun e w' => e = .returned (.bool true) ∧ Below w.heap.size w w' := by
  rcases hc.out with he | ⟨he, hp⟩
  all_goals
    clear hc
    go_enter Tryd.func5, Tryd.ntmps5
    go_wp2_with fail
    refine (H1.out _).mono ?_
    rintro e w1 ⟨rfl, b1⟩
    go_wp2_with fail
    refine (H2.out _).mono ?_
    rintro e w2 ⟨rfl, b2⟩
    replace b2 := q_trans b1 b2
    go_wp2_with fail
    refine (H3.out _).mono ?_
    rintro e w3 ⟨rfl, b3⟩
    replace b3 := q_trans b2 b3
    go_wp2_with fail
    refine (H4.out _).mono ?_
    rintro e w4 ⟨rfl, b4⟩
    replace b4 := q_trans b3 b4
    clear b1 b2 b3
    go_wp2_with (first | (go_at_call 11; refine (num_any _ _).mono ?_; rintro e w5 ⟨rfl, rfl⟩) | (go_at_call 12; refine (H5.out _).mono ?_; rintro e w5 ⟨rfl, rfl⟩) | (go_at_call 9; refine (live_any _ (HD.out.below b4)).mono ?_; rintro e w6 ⟨rfl, b6⟩; replace b6 := q_trans b4 b6))
    go_ret
    exact ⟨rfl, b6⟩

theorem twice_any (x a n v u : Int) (w : World) (hx : U64 x) (hv : U64 v) (hu : U64 u) (hD : Dig w) :
    Calls Tryd.prog 5 #[.int .u64 x, .int .i64 a, .int .i64 n, .int .u64 v, .int .u64 u] w fun e w' => e = .returned (.bool true) ∧ Below w.heap.size w w' := by
  refine twice_core x a n v u (putT x a n v) (putE a n v) (putT (putT x a n v) a n u) (putE a n u) (putT x a n u) w hD (fun W => put_any x a n v W hx hv) (fun W => put_any _ a n u W (putT_u64 hx hv) hu) (fun W => put_any x a n u W hx hu) (fun W => ?_) (fun W => ?_) ?_
  · have h := put_any x 0 64 v W hx hv
    rw [putT_all hx hv, putE_all hv] at h
    exact h
  · have h := get_any x 0 64 W hx
    rw [getT_all hx] at h
    exact h
  · by_cases he : putE a n v = 0
    · exact .inr ⟨by rw [bne_eq_false_iff_eq]; exact he, by rw [beq_iff_eq]; exact putT_twice hx hv hu he⟩
    · exact .inl (by rw [bne_iff_ne]; exact he)
end Go.Proofs.YtdngpjgpomjncabDoor
