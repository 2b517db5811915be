/- What Zero, Values, Recs do; '==' of records. -/
import Derived.Test.YtaihabkacjbfjaaCeW5
import Derived.Laws.StructEq
namespace Go.Proofs.Ytaihabkacjbfjaa.Ce
open Go.RowKit

def eqO (c d : O) : Bool := c.k == d.k && (c.c == d.c && (c.a == d.a && (c.v == d.v && c.w == d.w)))
def eqRc (c d : Rc) : Bool := eqO c.o d.o && (c.got == d.got && c.ok == d.ok)
theorem eqO_iff {c d : O} : eqO c d = true ↔ c = d := by
  constructor
  · intro h
    simp [eqO] at h
    exact O.ext' h.1 h.2.1 h.2.2.1 h.2.2.2.1 h.2.2.2.2
  · rintro rfl
    simp [eqO]
theorem eqRc_iff {c d : Rc} : eqRc c d = true ↔ c = d := by
  constructor
  · intro h
    simp only [eqRc, Bool.and_eq_true, eqO_iff, beq_iff_eq] at h
    exact Rc.ext' h.1 h.2.1 h.2.2
  · rintro rfl
    simp [eqRc, eqO]

theorem eq5 (m : Nat) (c d : O) (w : World) : (Op.equalIn (m + 2) 35 (.agg #[.int .i64 c.k, .int .i64 c.c, .int .i64 c.a, .int .i64 c.v, .int .i64 c.w]) (.agg #[.int .i64 d.k, .int .i64 d.c, .int .i64 d.a, .int .i64 d.v, .int .i64 d.w])).run Try.prog w = .ok (eqO c d) w := by
  have u3 := Try.underlying3
  have a3 := Try.isAgg3
  have z3 := Try.sizeOf3
  have u2 := Try.underlying2
  have a2 := Try.isAgg2
  have z2 := Try.sizeOf2
  have hS : Try.prog.underlying 35 = some (.struct (Try.prog.fieldsOf 35)) := by kernel_rfl
  rw [show m + 2 = (m + 1) + 1 from rfl, run_equalIn_agg w (m + 1) 35 _ _ hS (by kernel_rfl)]
  simp only [Program.fieldsOf, Try.underlying35]
  go_simp
  unfold eqO
  by_cases h1 : c.k = d.k <;> by_cases h2 : c.c = d.c <;> by_cases h3 : c.a = d.a <;> by_cases h4 : c.v = d.v <;> by_cases h5 : c.w = d.w <;> simp [h1, h2, h3, h4, h5]
theorem eq7 (c d : Rc) (w : World) : (Op.equalIn 10000 70 (.agg #[.int .i64 c.o.k, .int .i64 c.o.c, .int .i64 c.o.a, .int .i64 c.o.v, .int .i64 c.o.w, .int .i64 c.got, .bool c.ok]) (.agg #[.int .i64 d.o.k, .int .i64 d.o.c, .int .i64 d.o.a, .int .i64 d.o.v, .int .i64 d.o.w, .int .i64 d.got, .bool d.ok])).run Try.prog w = .ok (eqRc c d) w := by
  have u3 := Try.underlying3
  have u2 := Try.underlying2
  have a2 := Try.isAgg2
  have z2 := Try.sizeOf2
  have u4 := Try.underlying4
  have a4 := Try.isAgg4
  have z4 := Try.sizeOf4
  have hS : Try.prog.underlying 70 = some (.struct (Try.prog.fieldsOf 70)) := by kernel_rfl
  rw [show (10000 : Nat) = 9999 + 1 from rfl, run_equalIn_agg w 9999 70 _ _ hS (by kernel_rfl)]
  simp only [Program.fieldsOf, Try.underlying70]
  have h5 := eq5 9997 c.o d.o
  go_simp
  unfold eqRc
  cases h : eqO c.o d.o <;> by_cases h1 : c.got = d.got <;> by_cases h2 : c.ok = d.ok <;> simp [h1, h2]

theorem one_row (x : Int) (w : World) : Row (w.alloc (.cells #[.int .i64 x] 2)) (some ⟨w.heap.size, 0, none⟩) (vals [x]) := by
  refine ⟨fun j u hu => ⟨_, rfl, ?_⟩⟩
  have hj : j = 0 := by have := (List.getElem?_eq_some_iff.1 hu).1; simp at this; omega
  subst hj
  simp at hu
  subst hu
  simp [Addr.add]
theorem drewN_add (w : World) (a b : Nat) : (w.drewN a).drewN b = w.drewN (a + b) := by simp [World.drewN, Nat.add_assoc]
/-- Whether two lists are the same. -/
def eqL {α : Type} [DecidableEq α] (a b : List α) : Bool := decide (a = b)
theorem eqL_iff {α : Type} [DecidableEq α] {a b : List α} : eqL a b = true ↔ a = b := by simp [eqL]
theorem eqL_not {α : Type} [DecidableEq α] {a b : List α} (h : ¬ a = b) : eqL a b = false := by simp [eqL, h]
theorem take_full {α : Type} {a b : List α} (h : a.length = b.length) (e : a.take a.length = b.take a.length) : a = b := by
  rwa [List.take_length, h, List.take_length] at e

theorem drewN_below (w : World) (n : Nat) : Below w.heap.size w (w.drewN n) := ⟨rfl, rfl, rfl, Nat.le_refl _, fun _ _ => rfl⟩
end Go.Proofs.Ytaihabkacjbfjaa.Ce
