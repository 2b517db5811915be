/- Plain facts on rights: no program. -/
import Derived.Laws.BitsAllLaws
import Derived.Laws.ShiftsVarLaws
namespace Go.Proofs.YtilannincbcgkaaDoor.Rt

theorem ret_int {k : IntKind} {a b : Int} (h : a = b) : Ending.returned (.int k a) = .returned (.int k b) := by rw [h]
theorem ret_bool {a b : Bool} (h : a = b) : Ending.returned (.bool a) = .returned (.bool b) := by rw [h]
theorem ret_int2 {k l : IntKind} {a b c d : Int} (h : a = b) (h2 : c = d) : Ending.returned (.tuple #[.int k a, .int l c]) = .returned (.tuple #[.int k b, .int l d]) := by rw [h, h2]

/-- WHETHER A NUMBER IS RIGHTS. -/
def isR (r : Int) : Bool := decide (0 ≤ r ∧ r ≤ 15)
theorem isR_iff {r : Int} : isR r = true ↔ (0 ≤ r ∧ r ≤ 15) := by simp [isR]
theorem isR_not {r : Int} : isR r = false ↔ ¬ (0 ≤ r ∧ r ≤ 15) := by simp [isR]
theorem isR_nat {r : Int} (h : isR r = true) : ∃ n : Nat, n < 16 ∧ r = n := by
  obtain ⟨h1, h2⟩ := isR_iff.1 h
  exact ⟨r.toNat, by omega, by omega⟩
theorem isR_of (n : Nat) (h : n < 16) : isR (n : Int) = true := isR_iff.2 ⟨by omega, by omega⟩

abbrev band (a b : Int) : Int := bits .and .i64 a b
abbrev bor (a b : Int) : Int := bits .or .i64 a b
abbrev bless (a b : Int) : Int := bits .andNot .i64 a b

theorem band_fin : ∀ a b : Fin 16, bits .and .i64 (a.val : Int) (b.val : Int) = ((a.val &&& b.val : Nat) : Int) := by decide +kernel
theorem bor_fin : ∀ a b : Fin 16, bits .or .i64 (a.val : Int) (b.val : Int) = ((a.val ||| b.val : Nat) : Int) := by decide +kernel
theorem bless_fin : ∀ a b : Fin 16, bits .andNot .i64 (a.val : Int) (b.val : Int) = ((a.val &&& (15 - b.val) : Nat) : Int) := by decide +kernel

/-! What the calls answer. -/
def wiB (a b : Int) : Bool := isR a && isR b && (bits .andNot .i64 a b == 0)
def lessT (a b : Int) : Int := if isR a && isR b then bits .andNot .i64 a b else 0
def lessE (a b : Int) : Int := if isR a && isR b then 0 else 20
def meetF (m : Int) (l : List Int) : Int := l.foldl (fun x r => bits .and .i64 x r) m
def joinF (m : Int) (l : List Int) : Int := l.foldl (fun x r => bits .or .i64 x r) m
def meetT (l : List Int) : Int := if l.all isR then meetF 15 l else 0
def joinT (l : List Int) : Int := if l.all isR then joinF 0 l else 0
def listE (l : List Int) : Int := if l.all isR then 0 else 20
end Go.Proofs.YtilannincbcgkaaDoor.Rt
