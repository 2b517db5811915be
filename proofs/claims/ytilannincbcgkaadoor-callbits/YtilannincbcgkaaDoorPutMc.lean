/- Plain facts on what is put and what is got: bit by bit. -/
import Derived.Test.YtilannincbcgkaaDoorW1
namespace Go.Proofs.YtilannincbcgkaaDoor
open Go.RowKit

theorem u64_of (n : Nat) (h : n < 18446744073709551616) : U64 (n : Int) := ⟨by omega, by omega⟩

theorem putN_lt (w a n v : Nat) (hw : w < 18446744073709551616) (hv : v ≤ 2 ^ n - 1) (h : a + n ≤ 64) : putN w a n v < 18446744073709551616 := by
  unfold putN
  have h1 : w &&& (18446744073709551615 - maskN a n) < 2 ^ 64 := Nat.lt_of_le_of_lt Nat.and_le_left (by omega)
  have h2 := shl_fit v a n hv h
  exact Nat.or_lt_two_pow h1 (by omega)

theorem fits_le {v n : Int} (hv : 0 ≤ v) (h : fits v n = true) : v.toNat ≤ 2 ^ n.toNat - 1 := by
  simp only [fits, decide_eq_true_eq] at h
  omega
theorem fld_le {a n : Int} (h : fld a n = true) : a.toNat + n.toNat ≤ 64 := by
  have := fld_iff.1 h
  omega
theorem putT_u64 {w a n v : Int} (hw : U64 w) (hv : U64 v) : U64 (putT w a n v) := by
  unfold putT
  split
  · rename_i h
    rw [Bool.and_eq_true] at h
    have := hw.1; have := hw.2
    exact u64_of _ (putN_lt _ _ _ _ (by omega) (fits_le hv.1 h.2) (fld_le h.1))
  · exact u64_of 0 (by omega)

/-- The bits of what is put. -/
theorem not_mask_bit (a n i : Nat) (h : a + n ≤ 64) : (18446744073709551615 - maskN a n).testBit i = (decide (i < 64) && !(decide (a ≤ i) && decide (i < a + n))) := by
  have hm := maskN_lt a n h
  have e : 18446744073709551615 - maskN a n = 2 ^ 64 - (maskN a n + 1) := by omega
  rw [e, Nat.testBit_two_pow_sub_succ (by omega)]
  congr 2
  unfold maskN
  rw [Nat.testBit_mul_two_pow, Nat.testBit_two_pow_sub_one]
  by_cases h1 : a ≤ i
  · simp [h1]; omega
  · simp [h1]
theorem put_bit (w a n v i : Nat) (hw : w < 18446744073709551616) (hv : v ≤ 2 ^ n - 1) (h : a + n ≤ 64) :
    (putN w a n v).testBit i = if a ≤ i ∧ i < a + n then v.testBit (i - a) else w.testBit i := by
  unfold putN
  rw [Nat.testBit_or, Nat.testBit_and, not_mask_bit a n i h, Nat.testBit_mul_two_pow]
  have hw64 : ¬ i < 64 → w.testBit i = false := fun hi => Nat.testBit_lt_two_pow (Nat.lt_of_lt_of_le (show w < 2 ^ 64 by omega) (Nat.pow_le_pow_right (by omega) (by omega)))
  have hvn : ¬ i < a + n → a ≤ i → v.testBit (i - a) = false := fun h1 h2 =>
    Nat.testBit_lt_two_pow (Nat.lt_of_lt_of_le (show v < 2 ^ n by have := Nat.two_pow_pos n; omega) (Nat.pow_le_pow_right (by omega) (by omega)))
  by_cases h1 : a ≤ i
  · by_cases h2 : i < a + n
    · simp [h1, h2]
    · by_cases h3 : i < 64
      · simp [h1, h2, h3, hvn h2 h1]
      · simp [h1, h2, hw64 h3, hvn h2 h1]
  · by_cases h3 : i < 64
    · simp [h1, h3]
    · simp [h1, hw64 h3]

theorem putN_twice (w a n v u : Nat) (hw : w < 18446744073709551616) (hv : v ≤ 2 ^ n - 1) (hu : u ≤ 2 ^ n - 1) (h : a + n ≤ 64) : putN (putN w a n v) a n u = putN w a n u := by
  apply Nat.eq_of_testBit_eq
  intro i
  rw [put_bit _ a n u i (putN_lt w a n v hw hv h) hu h, put_bit w a n u i hw hu h, put_bit w a n v i hw hv h]
  split <;> rfl
theorem putT_twice {w a n v u : Int} (hw : U64 w) (hv : U64 v) (hu : U64 u) (he : putE a n v = 0) : putT (putT w a n v) a n u = putT w a n u := by
  cases h1 : fld a n with
  | false => rw [putE_arg h1] at he; omega
  | true =>
    cases h2 : fits v n with
    | false => rw [putE_fit h1 h2] at he; omega
    | true =>
      cases h3 : fits u n with
      | false => rw [putT_fit h3, putT_fit h3]
      | true =>
        rw [putT_ok h1 h3, putT_ok h1 h3, putT_ok h1 h2, Int.toNat_natCast]
        have := hw.1; have := hw.2
        rw [putN_twice _ _ _ _ _ (by omega) (fits_le hv.1 h2) (fits_le hu.1 h3) (fld_le h1)]
theorem putN_all (w v : Nat) (hw : w < 18446744073709551616) (hv : v < 18446744073709551616) : putN w 0 64 v = v := by
  apply Nat.eq_of_testBit_eq
  intro i
  rw [put_bit w 0 64 v i hw (by omega) (by omega)]
  split
  · simp
  · have hi : 64 ≤ i := by omega
    rw [Nat.testBit_lt_two_pow (Nat.lt_of_lt_of_le (show w < 2 ^ 64 by omega) (Nat.pow_le_pow_right (by omega) hi)), Nat.testBit_lt_two_pow (Nat.lt_of_lt_of_le (show v < 2 ^ 64 by omega) (Nat.pow_le_pow_right (by omega) hi))]
theorem fits_all {v : Int} (hv : U64 v) : fits v 64 = true := by
  have := hv.1; have := hv.2
  simp only [fits, decide_eq_true_eq]
  have : (2 ^ (64 : Int).toNat - 1 : Nat) = 18446744073709551615 := by kernel_rfl
  omega
theorem putT_all {w v : Int} (hw : U64 w) (hv : U64 v) : putT w 0 64 v = v := by
  rw [putT_ok (by decide) (fits_all hv)]
  have := hw.1; have := hw.2; have := hv.1; have := hv.2
  have e := putN_all w.toNat v.toNat (by omega) (by omega)
  show ((putN w.toNat 0 64 v.toNat : Nat) : Int) = v
  rw [e]; omega
theorem putE_all {v : Int} (hv : U64 v) : putE 0 64 v = 0 := putE_ok (by decide) (fits_all hv)
theorem getT_all {w : Int} (hw : U64 w) : getT w 0 64 = w := by
  rw [getT_yes (by decide)]
  have := hw.1; have := hw.2
  show ((getN w.toNat 0 64 : Nat) : Int) = w
  unfold getN
  rw [Nat.pow_zero, Nat.div_one, Nat.mod_eq_of_lt (by omega)]
  omega

end Go.Proofs.YtilannincbcgkaaDoor
