/- Plain facts on capabilities: no program. -/
import Derived.Test.YtilannincbcgkaaDoorPutMc
import Derived.Test.YtilannincbcgkaaDoorRtFacts
namespace Go.Proofs.YtilannincbcgkaaDoor.Cp
open Rt (isR isR_iff isR_not wiB)

/-- A CAPABILITY's FIVE NUMBERS. -/
structure K where
  t : Int
  r : Int
  b : Int
  o : Int
  g : Int

def K.zero : K := ⟨0, 0, 0, 0, 0⟩
theorem K.ext' {c d : K} (h0 : c.t = d.t) (h1 : c.r = d.r) (h2 : c.b = d.b) (h3 : c.o = d.o) (h4 : c.g = d.g) : c = d := by
  cases c; cases d; simp_all

/-- Whether it is none. -/
def noneB (c : K) : Bool := c.t == 0 && (c.r == 0 && (c.b == 0 && (c.o == 0 && c.g == 0)))
theorem noneB_iff {c : K} : noneB c = true ↔ (c.t = 0 ∧ c.r = 0 ∧ c.b = 0 ∧ c.o = 0 ∧ c.g = 0) := by simp [noneB]
/-- Whether two are alike. -/
def eqK (c d : K) : Bool := c.t == d.t && (c.r == d.r && (c.b == d.b && (c.o == d.o && c.g == d.g)))
theorem eqK_iff {c d : K} : eqK c d = true ↔ c = d := by
  constructor
  · intro h
    simp [eqK] at h
    exact K.ext' h.1 h.2.1 h.2.2.1 h.2.2.2.1 h.2.2.2.2
  · rintro rfl
    simp [eqK]
theorem noneB_zero {c : K} : noneB c = true ↔ c = K.zero := by
  rw [noneB_iff]
  constructor
  · rintro ⟨h0, h1, h2, h3, h4⟩; exact K.ext' h0 h1 h2 h3 h4
  · rintro rfl; exact ⟨rfl, rfl, rfl, rfl, rfl⟩

/-- The greatest Badge of a Type. -/
def most (t : Int) : Int := if t = 2 then 7 else if t = 4 ∨ t = 5 then 65535 else 0
def up (v m : Int) : Bool := decide (0 ≤ v ∧ v ≤ m)
theorem up_iff {v m : Int} : up v m = true ↔ (0 ≤ v ∧ v ≤ m) := by simp [up]
theorem up_not {v m : Int} : up v m = false ↔ ¬ (0 ≤ v ∧ v ≤ m) := by simp [up]
/-- Whether a capability that is not none may be. -/
def someB (c : K) : Bool := decide (1 ≤ c.t ∧ c.t ≤ 5) && (isR c.r && up c.b (most c.t) && up c.o 1023 && up c.g 4095)
def okB (c : K) : Bool := noneB c || someB c
def chkE (c : K) : Int := if okB c then 0 else 30
theorem some_not_none {c : K} (h : someB c = true) : noneB c = false := by
  cases hn : noneB c with
  | false => rfl
  | true =>
    have := (noneB_iff.1 hn).1
    simp [someB, this] at h
end Go.Proofs.YtilannincbcgkaaDoor.Cp
