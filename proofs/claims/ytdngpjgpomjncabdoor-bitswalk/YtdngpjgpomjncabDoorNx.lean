/- Plain facts on the bits that are set: which one is next, how many lie below, the last one. -/
import Derived.Test.YtdngpjgpomjncabDoorW6
import Derived.Test.YtdngpjgpomjncabDoorCntM
namespace Go.Proofs.YtdngpjgpomjncabDoor
open Go.RowKit

theorem firstGe_snoc (a : Int) (m : Nat) : ∀ l : List Nat, firstGe a (l ++ [m]) = match firstGe a l with | some k => some k | none => if a ≤ (m : Int) then some m else none
  | [] => by simp [firstGe]
  | k :: r => by
    rw [List.cons_append, firstGe, firstGe]
    by_cases h : a ≤ (k : Int)
    · rw [if_pos h, if_pos h]
    · rw [if_neg h, if_neg h]; exact firstGe_snoc a m r

/-- WHAT IS NEXT FROM a ON, among the bits below m. -/
theorem next_is (x : Nat) (a : Int) (m : Nat) :
    (∃ k : Nat, firstGe a (upto x m) = some k ∧ a ≤ (k : Int) ∧ k < m ∧ x.testBit k = true ∧ ∀ i : Nat, a ≤ (i : Int) → i < k → x.testBit i = false) ∨
    (firstGe a (upto x m) = none ∧ ∀ i : Nat, a ≤ (i : Int) → i < m → x.testBit i = false) := by
  induction m with
  | zero => exact .inr ⟨rfl, fun i _ hi => absurd hi (by omega)⟩
  | succ m ih =>
    cases hb : x.testBit m with
    | true =>
      rw [upto_yes hb, firstGe_snoc]
      rcases ih with ⟨k, hk, h1, h2, h3, h4⟩ | ⟨hn, h4⟩
      · rw [hk]; exact .inl ⟨k, rfl, h1, by omega, h3, h4⟩
      · rw [hn]
        by_cases ha : a ≤ (m : Int)
        · exact .inl ⟨m, by simp [ha], ha, by omega, hb, h4⟩
        · exact .inr ⟨by simp [ha], fun i h1 h2 => h4 i h1 (by omega)⟩
    | false =>
      rw [upto_no hb]
      rcases ih with ⟨k, hk, h1, h2, h3, h4⟩ | ⟨hn, h4⟩
      · exact .inl ⟨k, hk, h1, by omega, h3, h4⟩
      · refine .inr ⟨hn, fun i h1 h2 => ?_⟩
        by_cases e : i = m
        · subst e; exact hb
        · exact h4 i h1 (by omega)

theorem upto_skip (x a : Nat) : ∀ m, a ≤ m → (∀ i, a ≤ i → i < m → x.testBit i = false) → upto x m = upto x a := by
  intro m
  induction m with
  | zero => intro h _; obtain rfl : a = 0 := by omega
            rfl
  | succ m ih =>
    intro h hz
    by_cases e : a = m + 1
    · subst e; rfl
    · rw [upto_no (hz m (by omega) (by omega))]
      exact ih (by omega) fun i h1 h2 => hz i h1 (by omega)

/-- The word without its bits below a. -/
def clr (x a : Nat) : Nat := x / 2 ^ a * 2 ^ a
theorem clr_bit (x a i : Nat) : (clr x a).testBit i = (decide (a ≤ i) && x.testBit i) := by
  unfold clr
  rw [Nat.testBit_mul_two_pow, Nat.testBit_div_two_pow]
  by_cases h : a ≤ i
  · simp [h, show i - a + a = i by omega]
  · simp [h]
theorem clr_lt (x a : Nat) (hx : x < 18446744073709551616) : clr x a < 18446744073709551616 := Nat.lt_of_le_of_lt (Nat.div_mul_le_self _ _) hx
theorem clr_zero (x : Nat) : clr x 0 = x := by simp [clr]
theorem clr_step (x a k : Nat) (hk : a ≤ k) (hb : x.testBit k = true) (hz : ∀ i, a ≤ i → i < k → x.testBit i = false) : clr x a ^^^ 2 ^ k = clr x (k + 1) := by
  apply Nat.eq_of_testBit_eq
  intro i
  rw [Nat.testBit_xor, clr_bit, clr_bit, Nat.testBit_two_pow]
  by_cases h1 : a ≤ i
  · by_cases h2 : i < k
    · have := hz i h1 h2
      simp [this, show k ≠ i by omega]
    · by_cases h3 : k = i
      · subst h3; simp [h1, hb]
      · simp [h1, h3, show k + 1 ≤ i by omega]
  · simp [h1, show k ≠ i by omega, show ¬ k + 1 ≤ i by omega]
theorem clr_none (x a : Nat) (hx : x < 18446744073709551616) (hz : ∀ i, a ≤ i → i < 64 → x.testBit i = false) : clr x a = 0 := by
  apply Nat.eq_of_testBit_eq
  intro i
  rw [clr_bit, Nat.zero_testBit]
  by_cases h1 : a ≤ i
  · by_cases h2 : i < 64
    · simp [hz i h1 h2]
    · rw [Nat.testBit_lt_two_pow (Nat.lt_of_lt_of_le (show x < 2 ^ 64 by omega) (Nat.pow_le_pow_right (by omega) (by omega)))]; simp
  · simp [h1]
theorem xor_pow (y k : Nat) (hy : y < 18446744073709551616) (hk : k < 64) : bits .xor .u64 (y : Int) (IntKind.u64.wrap (2 ^ k)) = ((y ^^^ 2 ^ k : Nat) : Int) := by
  have hp : 2 ^ k < 2 ^ 64 := Nat.pow_lt_pow_right (by omega) hk
  have e : ((2 : Int) ^ k) = ((2 ^ k : Nat) : Int) := by simp
  rw [e]
  generalize 2 ^ k = z at hp ⊢
  have e2 : IntKind.u64.wrap (z : Int) = (z : Int) := by rw [IntKind.wrap_u64]; omega
  rw [e2, u64_xor_nat y z hy (by omega)]
theorem zero_of_bits (x : Nat) (hx : x < 18446744073709551616) (hz : ∀ i, i < 64 → x.testBit i = false) : x = 0 := by
  have := clr_none x 0 hx (fun i _ h => hz i h)
  rwa [clr_zero] at this
/-- The last one, where nothing follows behind a. -/
theorem last_is (x a : Nat) (ha : a + 1 ≤ 64) (hb : x.testBit a = true) (hz : ∀ i, a + 1 ≤ i → i < 64 → x.testBit i = false) : lastI (upto x 64) = a ∧ lastB (upto x 64) = true := by
  rw [upto_skip x (a + 1) 64 ha hz, upto_yes hb, lastI_snoc, lastB_snoc]
  exact ⟨rfl, rfl⟩
theorem last_none (x : Nat) (hz : ∀ i, i < 64 → x.testBit i = false) : lastI (upto x 64) = 0 ∧ lastB (upto x 64) = false := by
  rw [upto_skip x 0 64 (by omega) fun i _ h => hz i h]
  exact ⟨rfl, rfl⟩
end Go.Proofs.YtdngpjgpomjncabDoor
