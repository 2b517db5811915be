/- Plain facts on how many bits are set. -/
import Derived.Test.YtdngpjgpomjncabDoorW2
namespace Go.Proofs.YtdngpjgpomjncabDoor
open Go.RowKit

def cnt (x k : Nat) : Nat := (upto x k).length
theorem cnt_succ (x k : Nat) : cnt x (k + 1) = cnt x k + if x.testBit k then 1 else 0 := by
  unfold cnt
  cases h : x.testBit k with
  | true => rw [upto_yes h]; simp
  | false => rw [upto_no h]; simp
theorem cnt_le (x k : Nat) : cnt x k ≤ k := upto_length x k
theorem cnt_not (x : Nat) (hx : x < 18446744073709551616) : ∀ k, k ≤ 64 → cnt x k + cnt (18446744073709551615 - x) k = k := by
  intro k
  induction k with
  | zero => intro _; rfl
  | succ k ih =>
    intro hk
    have := ih (by omega)
    have e : 18446744073709551615 - x = 2 ^ 64 - (x + 1) := by omega
    have hb : (18446744073709551615 - x).testBit k = !x.testBit k := by
      rw [e, Nat.testBit_two_pow_sub_succ (by omega)]
      simp; omega
    rw [cnt_succ, cnt_succ, hb]
    cases x.testBit k <;> simp <;> omega
theorem cnt_and_or (x y k : Nat) : cnt (x &&& y) k + cnt (x ||| y) k = cnt x k + cnt y k := by
  induction k with
  | zero => rfl
  | succ k ih =>
    rw [cnt_succ, cnt_succ, cnt_succ, cnt_succ, Nat.testBit_and, Nat.testBit_or]
    cases x.testBit k <;> cases y.testBit k <;> simp <;> omega
theorem cnt_xor (x y k : Nat) : cnt (x ^^^ y) k + cnt (x &&& y) k = cnt (x ||| y) k := by
  induction k with
  | zero => rfl
  | succ k ih =>
    rw [cnt_succ, cnt_succ, cnt_succ, Nat.testBit_and, Nat.testBit_or, Nat.testBit_xor]
    cases x.testBit k <;> cases y.testBit k <;> simp <;> omega

theorem xor_all (x : Nat) (hx : x < 18446744073709551616) : 18446744073709551615 ^^^ x = 18446744073709551615 - x := by
  have e : 18446744073709551615 - x = 2 ^ 64 - (x + 1) := by omega
  have e2 : (18446744073709551615 : Nat) = 2 ^ 64 - 1 := by omega
  apply Nat.eq_of_testBit_eq
  intro i
  rw [e, Nat.testBit_two_pow_sub_succ (by omega), Nat.testBit_xor, e2, Nat.testBit_two_pow_sub_one]
  by_cases h : i < 64
  · simp [h]
  · have : x.testBit i = false := Nat.testBit_lt_two_pow (Nat.lt_of_lt_of_le (show x < 2 ^ 64 by omega) (Nat.pow_le_pow_right (by omega) (by omega)))
    simp [h, this]
theorem not_eq (x : Nat) (hx : x < 18446744073709551616) : bits .xor .u64 IntKind.u64.max (x : Int) = ((18446744073709551615 - x : Nat) : Int) := by
  have e : IntKind.u64.max = ((18446744073709551615 : Nat) : Int) := by kernel_rfl
  rw [e, u64_xor_nat _ _ (by omega) hx, xor_all x hx]

end Go.Proofs.YtdngpjgpomjncabDoor
