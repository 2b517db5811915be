/- Plain facts on calls: no program. -/
import Derived.Test.YtilannincbcgkaaDoorPutMc
import Derived.Test.YtilannincbcgkaaDoorRtFacts
import Derived.Test.YtilannincbcgkaaDoorAdMath
namespace Go.Proofs.YtilannincbcgkaaDoor.Kl
open Rt (isR isR_iff isR_not)

/-- A CALL's EIGHT NUMBERS. -/
structure C where
  k : Int
  a : Int
  b : Int
  r : Int
  g : Int
  t : Int
  s : Int
  v : Int
def C.zero : C := ⟨0, 0, 0, 0, 0, 0, 0, 0⟩
theorem C.ext' {c d : C} (h0 : c.k = d.k) (h1 : c.a = d.a) (h2 : c.b = d.b) (h3 : c.r = d.r) (h4 : c.g = d.g) (h5 : c.t = d.t) (h6 : c.s = d.s) (h7 : c.v = d.v) : c = d := by
  cases c; cases d; simp_all
/-- Whether two are alike. -/
def eqC (c d : C) : Bool := c.k == d.k && (c.a == d.a && (c.b == d.b && (c.r == d.r && (c.g == d.g && (c.t == d.t && (c.s == d.s && c.v == d.v))))))
theorem eqC_iff {c d : C} : eqC c d = true ↔ c = d := by
  constructor
  · intro h
    simp only [eqC, Bool.and_eq_true, beq_iff_eq] at h
    exact C.ext' h.1 h.2.1 h.2.2.1 h.2.2.2.1 h.2.2.2.2.1 h.2.2.2.2.2.1 h.2.2.2.2.2.2.1 h.2.2.2.2.2.2.2
  · rintro rfl
    simp [eqC]
theorem eqC_self (c : C) : eqC c c = true := eqC_iff.2 rfl
theorem eqC_not {c d : C} (h : c ≠ d) : eqC c d = false := by
  cases e : eqC c d with
  | false => rfl
  | true => exact absurd (eqC_iff.1 e) h
/-- The numbers are those that a call can have. -/
structure Wf (c : C) : Prop where
  a : U64 c.a
  b : U64 c.b
  v : -9223372036854775808 ≤ c.v ∧ c.v ≤ 9223372036854775807

/-- An address word. -/
def adB (x : Int) : Bool := Ad.parB x.toNat
def inB (v a b : Int) : Bool := decide (a ≤ v ∧ v ≤ b)
theorem inB_iff {v a b : Int} : inB v a b = true ↔ (a ≤ v ∧ v ≤ b) := by simp [inB]
theorem inB_not {v a b : Int} : inB v a b = false ↔ ¬ (a ≤ v ∧ v ≤ b) := by simp [inB]
def kdB (k : Int) : Bool := inB k 1 12
/-- What the kind may have. -/
def mhB (c : C) : Bool :=
  if c.k = 1 then isR c.r && (inB c.g 0 65535 && (adB c.b && (c.t == 0 && (c.s == 0 && c.v == 0))))
  else if c.k = 2 then adB c.b && (c.r == 0 && (c.g == 0 && (c.t == 0 && (c.s == 0 && c.v == 0))))
  else if c.k = 5 then adB c.b && (inB c.t 1 5 && (inB c.s 0 1048576 && (c.r == 0 && (c.g == 0 && c.v == 0))))
  else if c.k = 8 then (c.b == 0 || adB c.b) && (c.r == 0 && (c.g == 0 && (c.t == 0 && c.s == 0)))
  else if c.k = 9 then (c.b == 0 || adB c.b) && (c.r == 0 && (c.g == 0 && (c.t == 0 && (c.s == 0 && c.v == 0))))
  else if c.k = 7 then c.b == 0 && (c.r == 0 && (c.g == 0 && (c.t == 0 && c.s == 0)))
  else c.b == 0 && (c.r == 0 && (c.g == 0 && (c.t == 0 && (c.s == 0 && c.v == 0))))
theorem mh1 {c : C} (h : c.k = 1) : mhB c = (isR c.r && (inB c.g 0 65535 && (adB c.b && (c.t == 0 && (c.s == 0 && c.v == 0))))) := by simp [mhB, h]
theorem mh2 {c : C} (h : c.k = 2) : mhB c = (adB c.b && (c.r == 0 && (c.g == 0 && (c.t == 0 && (c.s == 0 && c.v == 0))))) := by simp [mhB, h]
theorem mh5 {c : C} (h : c.k = 5) : mhB c = (adB c.b && (inB c.t 1 5 && (inB c.s 0 1048576 && (c.r == 0 && (c.g == 0 && c.v == 0))))) := by simp [mhB, h]
theorem mh8 {c : C} (h : c.k = 8) : mhB c = ((c.b == 0 || adB c.b) && (c.r == 0 && (c.g == 0 && (c.t == 0 && c.s == 0)))) := by simp [mhB, h]
theorem mh9 {c : C} (h : c.k = 9) : mhB c = ((c.b == 0 || adB c.b) && (c.r == 0 && (c.g == 0 && (c.t == 0 && (c.s == 0 && c.v == 0))))) := by simp [mhB, h]
theorem mh7 {c : C} (h : c.k = 7) : mhB c = (c.b == 0 && (c.r == 0 && (c.g == 0 && (c.t == 0 && c.s == 0)))) := by simp [mhB, h]
theorem mh0 {c : C} (h1 : c.k ≠ 1) (h2 : c.k ≠ 2) (h5 : c.k ≠ 5) (h8 : c.k ≠ 8) (h9 : c.k ≠ 9) (h7 : c.k ≠ 7) : mhB c = (c.b == 0 && (c.r == 0 && (c.g == 0 && (c.t == 0 && (c.s == 0 && c.v == 0))))) := by simp [mhB, h1, h2, h5, h8, h9, h7]
/-- WHETHER A CALL MAY BE. -/
def okC (c : C) : Bool := kdB c.k && (adB c.a && mhB c)
def chE (c : C) : Int := if okC c then 0 else 150

/-! ### The first word -/
def fldAt (i : Nat) : Int := match i with | 0 => 0 | 1 => 4 | 2 => 8 | 3 => 12 | _ => 28
def fldW (i : Nat) : Int := match i with | 0 => 4 | 1 => 4 | 2 => 4 | 3 => 16 | _ => 21
/-- The part that the field i holds. -/
def part (c : C) (i : Nat) : Int := match i with | 0 => c.k | 1 => c.r | 2 => c.t | 3 => c.g | _ => c.s
/-- What is put behind i fields. -/
def acc (c : C) : Nat → Int
  | 0 => 0
  | i + 1 => putT (acc c i) (fldAt i) (fldW i) (part c i)
theorem isR_range {r : Int} (h : isR r = true) : 0 ≤ r ∧ r ≤ 15 := by
  have := isR_iff.1 h
  omega
/-- What a call that may be has. -/
theorem ok_range {c : C} (h : okC c = true) : (1 ≤ c.k ∧ c.k ≤ 12) ∧ (0 ≤ c.r ∧ c.r ≤ 15) ∧ (0 ≤ c.t ∧ c.t ≤ 5) ∧ (0 ≤ c.g ∧ c.g ≤ 65535) ∧ (0 ≤ c.s ∧ c.s ≤ 1048576) := by
  simp only [okC, Bool.and_eq_true] at h
  obtain ⟨hk, _, hm⟩ := h
  refine ⟨inB_iff.1 hk, ?_⟩
  by_cases h1 : c.k = 1
  · rw [mh1 h1] at hm
    simp only [Bool.and_eq_true, beq_iff_eq] at hm
    obtain ⟨e1, e2, _, e4, e5, _⟩ := hm
    have := isR_range e1; have := inB_iff.1 e2
    omega
  by_cases h2 : c.k = 2
  · rw [mh2 h2] at hm
    simp only [Bool.and_eq_true, beq_iff_eq] at hm
    omega
  by_cases h5 : c.k = 5
  · rw [mh5 h5] at hm
    simp only [Bool.and_eq_true, beq_iff_eq] at hm
    obtain ⟨_, e2, e3, e4, e5, _⟩ := hm
    have := inB_iff.1 e2; have := inB_iff.1 e3
    omega
  by_cases h8 : c.k = 8
  · rw [mh8 h8] at hm
    simp only [Bool.and_eq_true, beq_iff_eq] at hm
    omega
  by_cases h9 : c.k = 9
  · rw [mh9 h9] at hm
    simp only [Bool.and_eq_true, beq_iff_eq] at hm
    omega
  by_cases h7 : c.k = 7
  · rw [mh7 h7] at hm
    simp only [Bool.and_eq_true, beq_iff_eq] at hm
    omega
  rw [mh0 h1 h2 h5 h8 h9 h7] at hm
  simp only [Bool.and_eq_true, beq_iff_eq] at hm
  omega
theorem part_ok {c : C} (h : okC c = true) (i : Nat) : 0 ≤ part c i ∧ part c i ≤ 1048576 := by
  have := ok_range h
  unfold part
  split <;> omega
theorem acc_u64 {c : C} (h : okC c = true) : ∀ i, U64 (acc c i)
  | 0 => u64_of 0 (by omega)
  | i + 1 => putT_u64 (acc_u64 h i) (by have := part_ok h i; exact ⟨by omega, by omega⟩)
theorem wrap_u64 {x : Int} (h0 : 0 ≤ x) (h1 : x < 18446744073709551616) : IntKind.u64.wrap x = x := by
  simp [IntKind.wrap, IntKind.bits, IntKind.signed]
  omega
theorem wrap_i64 {x : Int} (h0 : -9223372036854775808 ≤ x) (h1 : x ≤ 9223372036854775807) : IntKind.i64.wrap x = x := by
  simp [IntKind.wrap, IntKind.bits, IntKind.signed]
  omega
/-- The words. -/
def wds (c : C) : List Int := [acc c 5, c.a, c.b, IntKind.u64.wrap c.v]
def putL (c : C) : List Int := if okC c then wds c else []
theorem put_no {c : C} (h : okC c = false) : putL c = [] ∧ chE c = 150 := by simp [putL, chE, h]
theorem put_yes {c : C} (h : okC c = true) : putL c = wds c ∧ chE c = 0 := by simp [putL, chE, h]

/-! ### Words as a call -/
def gp (x : Int) (i : Nat) : Int := getT x (fldAt i) (fldW i)
def parK (x a b v : Int) : C := ⟨gp x 0, a, b, gp x 1, gp x 3, gp x 2, gp x 4, IntKind.i64.wrap v⟩
/-- The call that words would be. -/
def parW (l : List Int) : C := parK (l.getD 0 0) (l.getD 1 0) (l.getD 2 0) (l.getD 3 0)
def parB (l : List Int) : Bool := l.length == 4 && (okC (parW l) && acc (parW l) 5 == l.getD 0 0)
def parC (l : List Int) : C := if parB l then parW l else C.zero
def parE (l : List Int) : Int := if parB l then 0 else 150
theorem par_no {l : List Int} (h : parB l = false) : parC l = C.zero ∧ parE l = 150 := by simp [parC, parE, h]
theorem par_yes {l : List Int} (h : parB l = true) : parC l = parW l ∧ parE l = 0 := by simp [parC, parE, h]
theorem fld_ok (i : Nat) : fld (fldAt i) (fldW i) = true := by
  unfold fldAt fldW
  split <;> rfl
theorem fldW_le (i : Nat) : (fldW i).toNat ≤ 21 := by
  unfold fldW
  split <;> decide
theorem gp_range (x : Int) (i : Nat) : 0 ≤ gp x i ∧ gp x i < 2097152 := by
  unfold gp
  rw [getT_yes (fld_ok i)]
  unfold getN
  have h1 : x.toNat / 2 ^ (fldAt i).toNat % 2 ^ (fldW i).toNat < 2 ^ (fldW i).toNat := Nat.mod_lt _ (Nat.two_pow_pos _)
  have h2 : 2 ^ (fldW i).toNat ≤ 2 ^ 21 := Nat.pow_le_pow_right (by omega) (fldW_le i)
  omega
end Go.Proofs.YtilannincbcgkaaDoor.Kl
