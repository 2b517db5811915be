/- Plain facts on fields: what was put is got, the rest stays, put back the word is as it was; as many bits as the field has. -/
import Derived.Test.YtdngpjgpomjncaaDoorPutM
import Derived.Test.YtdngpjgpomjncaaDoorCntM
namespace Go.Proofs.YtdngpjgpomjncaaDoor
open Go.RowKit

theorem get_bit (w a n i : Nat) : (getN w a n).testBit i = (decide (i < n) && w.testBit (i + a)) := by
  unfold getN
  rw [Nat.testBit_mod_two_pow, Nat.testBit_div_two_pow]
theorem getN_lt (w a n : Nat) : getN w a n ≤ 2 ^ n - 1 := by
  have : getN w a n < 2 ^ n := Nat.mod_lt _ (Nat.two_pow_pos n)
  omega
theorem get_put (w a n v : Nat) (hw : w < 18446744073709551616) (hv : v ≤ 2 ^ n - 1) (h : a + n ≤ 64) : getN (putN w a n v) a n = v := by
  apply Nat.eq_of_testBit_eq
  intro i
  rw [get_bit, put_bit w a n v _ hw hv h]
  by_cases hi : i < n
  · simp [hi, show a ≤ i + a ∧ i + a < a + n by omega]
  · have := Nat.testBit_lt_two_pow (Nat.lt_of_lt_of_le (show v < 2 ^ n by have := Nat.two_pow_pos n; omega) (Nat.pow_le_pow_right (show 0 < 2 by omega) (show n ≤ i by omega)))
    simp [hi, this]
theorem put_get (w a n v : Nat) (hw : w < 18446744073709551616) (hv : v ≤ 2 ^ n - 1) (h : a + n ≤ 64) : putN (putN w a n v) a n (getN w a n) = w := by
  apply Nat.eq_of_testBit_eq
  intro i
  rw [put_bit _ a n _ i (putN_lt w a n v hw hv h) (getN_lt w a n) h, put_bit w a n v i hw hv h, get_bit]
  by_cases hi : a ≤ i ∧ i < a + n
  · rw [if_pos hi]
    simp [show i - a < n by omega, show i - a + a = i by omega]
  · rw [if_neg hi, if_neg hi]
theorem put_rest (w a n v : Nat) (hw : w < 18446744073709551616) (hv : v ≤ 2 ^ n - 1) (h : a + n ≤ 64) : putN w a n v &&& (18446744073709551615 - maskN a n) = w &&& (18446744073709551615 - maskN a n) := by
  apply Nat.eq_of_testBit_eq
  intro i
  rw [Nat.testBit_and, Nat.testBit_and, not_mask_bit a n i h, put_bit w a n v i hw hv h]
  by_cases hi : a ≤ i ∧ i < a + n
  · simp [hi]
  · rw [if_neg hi]
theorem mask_bit (a n i : Nat) : (maskN a n).testBit i = (decide (a ≤ i) && decide (i < a + n)) := by
  unfold maskN
  rw [Nat.testBit_mul_two_pow, Nat.testBit_two_pow_sub_one]
  by_cases h1 : a ≤ i
  · simp [h1]; omega
  · simp [h1]
theorem cnt_mask (a n : Nat) : ∀ k, cnt (maskN a n) k = min (k - a) n := by
  intro k
  induction k with
  | zero => simp [cnt, upto]
  | succ k ih =>
    rw [cnt_succ, ih, mask_bit]
    by_cases h1 : a ≤ k
    · by_cases h2 : k < a + n
      · simp [h1, h2]; omega
      · simp [h2]; omega
    · simp [h1]; omega

/-! The same, of what the calls answer. -/
theorem putE_zero {a n v : Int} (h : putE a n v = 0) : fld a n = true ∧ fits v n = true := by
  cases h1 : fld a n with
  | false => rw [putE_arg h1] at h; omega
  | true =>
    cases h2 : fits v n with
    | false => rw [putE_fit h1 h2] at h; omega
    | true => exact ⟨rfl, rfl⟩
theorem putT_no {w a n v : Int} (h : putE a n v ≠ 0) : putT w a n v = 0 := by
  cases h1 : fld a n with
  | false => exact putT_arg h1
  | true =>
    cases h2 : fits v n with
    | false => exact putT_fit h2
    | true => rw [putE_ok h1 h2] at h; omega
theorem u64_nat {w : Int} (hw : U64 w) : w.toNat < 18446744073709551616 := by have := hw.1; have := hw.2; omega
theorem u64_cast {w : Int} (hw : U64 w) : ((w.toNat : Nat) : Int) = w := by have := hw.1; omega
theorem getT_u64 {w a n : Int} (hw : U64 w) : U64 (getT w a n) := by
  unfold getT
  split
  · refine u64_of _ (Nat.lt_of_le_of_lt ?_ (u64_nat hw))
    unfold getN
    exact Nat.le_trans (Nat.mod_le _ _) (Nat.div_le_self _ _)
  · exact u64_of 0 (by omega)
theorem maskT_u64 (a n : Int) : U64 (maskT a n) := by
  unfold maskT
  split
  · rename_i h
    exact u64_of _ (maskN_lt _ _ (fld_le h))
  · exact u64_of 0 (by omega)
theorem getT_put {w a n v : Int} (hw : U64 w) (hv : U64 v) (h : putE a n v = 0) : getT (putT w a n v) a n = v := by
  obtain ⟨h1, h2⟩ := putE_zero h
  rw [getT_yes h1, putT_ok h1 h2, Int.toNat_natCast, get_put _ _ _ _ (u64_nat hw) (fits_le hv.1 h2) (fld_le h1), u64_cast hv]
theorem fits_get {w a n : Int} (h1 : fld a n = true) : fits (getT w a n) n = true := by
  rw [getT_yes h1]
  have := getN_lt w.toNat a.toNat n.toNat
  simp only [fits, decide_eq_true_eq]
  omega
theorem putT_back {w a n v : Int} (hw : U64 w) (hv : U64 v) (h : putE a n v = 0) : putT (putT w a n v) a n (getT w a n) = w ∧ putE a n (getT w a n) = 0 := by
  obtain ⟨h1, h2⟩ := putE_zero h
  refine ⟨?_, putE_ok h1 (fits_get h1)⟩
  rw [putT_ok h1 (fits_get h1), putT_ok h1 h2, getT_yes h1, Int.toNat_natCast, Int.toNat_natCast, put_get _ _ _ _ (u64_nat hw) (fits_le hv.1 h2) (fld_le h1), u64_cast hw]
theorem putT_rest {w a n v : Int} (hw : U64 w) (hv : U64 v) (h : putE a n v = 0) : bits .andNot .u64 (putT w a n v) (maskT a n) = bits .andNot .u64 w (maskT a n) := by
  obtain ⟨h1, h2⟩ := putE_zero h
  have hm := maskN_lt _ _ (fld_le h1)
  rw [putT_ok h1 h2, maskT_yes h1, u64_andNot_nat _ _ (putN_lt _ _ _ _ (u64_nat hw) (fits_le hv.1 h2) (fld_le h1)) hm, put_rest _ _ _ _ (u64_nat hw) (fits_le hv.1 h2) (fld_le h1),
    ← u64_andNot_nat _ _ (u64_nat hw) hm, u64_cast hw]
theorem count_mask {a n : Int} (h1 : fld a n = true) : ((cnt (maskT a n).toNat 64 : Nat) : Int) = n := by
  have h := fld_iff.1 h1
  rw [maskT_yes h1, Int.toNat_natCast, cnt_mask]
  omega
end Go.Proofs.YtdngpjgpomjncaaDoor
