/- Plain mathematics of words of 64 bits: fields, masks, what is got and what is put; no program. -/
import Derived.Laws.BitsAllLaws
import Derived.Laws.ShiftsVarLaws
namespace Go.Proofs.YtilannincbcgkaaDoor

theorem ret_int {k : IntKind} {a b : Int} (h : a = b) : Ending.returned (.int k a) = .returned (.int k b) := by rw [h]

theorem ret_int2 {k : IntKind} {a b : Int} {v : Value} (h : a = b) : Ending.returned (.tuple #[.int k a, v]) = .returned (.tuple #[.int k b, v]) := by rw [h]

/-- WHAT A MASK IS: n ones from the bit a on. -/
def maskN (a n : Nat) : Nat := (2 ^ n - 1) * 2 ^ a
def getN (w a n : Nat) : Nat := w / 2 ^ a % 2 ^ n
def putN (w a n v : Nat) : Nat := w &&& (18446744073709551615 - maskN a n) ||| v * 2 ^ a

theorem maskN_lt (a n : Nat) (h : a + n ≤ 64) : maskN a n < 18446744073709551616 := by
  unfold maskN
  have h1 : (2 ^ n - 1) * 2 ^ a < 2 ^ n * 2 ^ a := Nat.mul_lt_mul_of_pos_right (by have := Nat.two_pow_pos n; omega) (Nat.two_pow_pos a)
  have h2 : 2 ^ n * 2 ^ a ≤ 2 ^ 64 := by rw [← Nat.pow_add]; exact Nat.pow_le_pow_right (by omega) (by omega)
  omega

theorem ones_shr (n : Nat) (h : n ≤ 64) : 18446744073709551615 / 2 ^ (64 - n) = 2 ^ n - 1 := by
  have e : 2 ^ n * 2 ^ (64 - n) = 18446744073709551616 := by rw [← Nat.pow_add, show n + (64 - n) = 64 by omega]
  have hp := Nat.two_pow_pos (64 - n)
  have hn := Nat.two_pow_pos n
  apply Nat.div_eq_of_lt_le
  · rw [Nat.sub_mul, e]; omega
  · rw [Nat.sub_add_cancel hn, e]; omega

/-- As the walk leaves it: all ones, to the right by 64 - n, to the left by a. -/
theorem mask_eq (a n : Nat) (h : a + n ≤ 64) :
    IntKind.u64.wrap (18446744073709551615 / 2 ^ (64 - n) * 2 ^ a) = (maskN a n : Int) := by
  have e3 : ((18446744073709551615 : Int) / 2 ^ (64 - n)) = ((18446744073709551615 / 2 ^ (64 - n) : Nat) : Int) := by simp
  rw [e3, ones_shr n (by omega)]
  have e4 : (((2 ^ n - 1 : Nat) : Int) * 2 ^ a) = (maskN a n : Int) := by unfold maskN; simp
  rw [e4, IntKind.wrap_u64]
  have := maskN_lt a n h
  omega

/-! What the calls answer, for whatever numbers. -/
def U64 (x : Int) : Prop := 0 ≤ x ∧ x < 18446744073709551616
def fld (a n : Int) : Bool := decide (1 ≤ n ∧ n ≤ 64 ∧ 0 ≤ a ∧ a ≤ 64 - n)
def maskT (a n : Int) : Int := if fld a n then (maskN a.toNat n.toNat : Int) else 0
def getT (w a n : Int) : Int := if fld a n then (getN w.toNat a.toNat n.toNat : Int) else 0
def fits (v n : Int) : Bool := decide (v ≤ (2 ^ n.toNat - 1 : Nat))
def putT (w a n v : Int) : Int := if fld a n && fits v n then (putN w.toNat a.toNat n.toNat v.toNat : Int) else 0
def putE (a n v : Int) : Int := if fld a n then (if fits v n then 0 else 10) else 2

theorem fld_iff {a n : Int} : fld a n = true ↔ (1 ≤ n ∧ n ≤ 64 ∧ 0 ≤ a ∧ a ≤ 64 - n) := by simp [fld]
theorem fld_not {a n : Int} : fld a n = false ↔ ¬ (1 ≤ n ∧ n ≤ 64 ∧ 0 ≤ a ∧ a ≤ 64 - n) := by simp [fld]

theorem and_mask (w a n : Nat) : w &&& maskN a n = w / 2 ^ a % 2 ^ n * 2 ^ a := by
  apply Nat.eq_of_testBit_eq
  intro i
  rw [Nat.testBit_and, Nat.testBit_mul_two_pow]
  unfold maskN
  rw [Nat.testBit_mul_two_pow, Nat.testBit_two_pow_sub_one, Nat.testBit_mod_two_pow, Nat.testBit_div_two_pow]
  by_cases h : a ≤ i
  · have : i - a + a = i := by omega
    simp [h, this, Bool.and_comm]
  · simp [h]

/-- As the walk leaves it: what is got. -/
theorem get_eq (w a n : Nat) (hw : w < 18446744073709551616) (h : a + n ≤ 64) :
    bits .and .u64 (w : Int) (maskN a n : Int) / 2 ^ a = (getN w a n : Int) := by
  rw [u64_and_nat w _ hw (maskN_lt a n h), and_mask]
  have e : (((w / 2 ^ a % 2 ^ n * 2 ^ a : Nat) : Int) / 2 ^ a) = ((w / 2 ^ a % 2 ^ n * 2 ^ a / 2 ^ a : Nat) : Int) := by simp
  rw [e, Nat.mul_div_cancel _ (Nat.two_pow_pos a)]
  rfl

theorem shl_fit (v a n : Nat) (hv : v ≤ 2 ^ n - 1) (h : a + n ≤ 64) : v * 2 ^ a < 18446744073709551616 := by
  have h1 : v * 2 ^ a < 2 ^ n * 2 ^ a := Nat.mul_lt_mul_of_pos_right (by have := Nat.two_pow_pos n; omega) (Nat.two_pow_pos a)
  have h2 : 2 ^ n * 2 ^ a ≤ 2 ^ 64 := by rw [← Nat.pow_add]; exact Nat.pow_le_pow_right (by omega) (by omega)
  omega

/-- As the walk leaves it: what is put. -/
theorem put_eq (w a n v : Nat) (hw : w < 18446744073709551616) (hv : v ≤ 2 ^ n - 1) (h : a + n ≤ 64) :
    bits .or .u64 (bits .andNot .u64 (w : Int) (maskN a n : Int)) (IntKind.u64.wrap ((v : Int) * 2 ^ a)) = (putN w a n v : Int) := by
  have hm := maskN_lt a n h
  have hs := shl_fit v a n hv h
  have e : ((v : Int) * 2 ^ a) = ((v * 2 ^ a : Nat) : Int) := by simp
  rw [u64_andNot_nat w _ hw hm, e, IntKind.wrap_u64]
  have e2 : (((v * 2 ^ a : Nat) : Int) % 18446744073709551616) = ((v * 2 ^ a : Nat) : Int) := by omega
  rw [e2, u64_or_nat _ _ (Nat.lt_of_le_of_lt Nat.and_le_left hw) hs]
  rfl

theorem mask_low (n : Nat) : maskN 0 n = 2 ^ n - 1 := by simp [maskN]
theorem putE_ok {a n v : Int} (h1 : fld a n = true) (h2 : fits v n = true) : putE a n v = 0 := by simp [putE, h1, h2]
theorem putE_fit {a n v : Int} (h1 : fld a n = true) (h2 : fits v n = false) : putE a n v = 10 := by simp [putE, h1, h2]
theorem putE_arg {a n v : Int} (h1 : fld a n = false) : putE a n v = 2 := by simp [putE, h1]
theorem putT_ok {w a n v : Int} (h1 : fld a n = true) (h2 : fits v n = true) : putT w a n v = (putN w.toNat a.toNat n.toNat v.toNat : Int) := by simp [putT, h1, h2]
theorem putT_fit {w a n v : Int} (h2 : fits v n = false) : putT w a n v = 0 := by simp [putT, h2]
theorem putT_arg {w a n v : Int} (h1 : fld a n = false) : putT w a n v = 0 := by simp [putT, h1]
theorem maskT_yes {a n : Int} (h1 : fld a n = true) : maskT a n = (maskN a.toNat n.toNat : Int) := by simp [maskT, h1]
theorem maskT_no {a n : Int} (h1 : fld a n = false) : maskT a n = 0 := by simp [maskT, h1]
theorem getT_yes {w a n : Int} (h1 : fld a n = true) : getT w a n = (getN w.toNat a.toNat n.toNat : Int) := by simp [getT, h1]
theorem getT_no {w a n : Int} (h1 : fld a n = false) : getT w a n = 0 := by simp [getT, h1]
end Go.Proofs.YtilannincbcgkaaDoor
