/- What the document's Same does. -/
import Derived.Test.YtejghoncihdfkabEpWst
namespace Go.Proofs.Ytejghoncihdfkab.Ep
open Go.RowKit

/-- Whether two are the same. -/
def sameB (e f : E) : Bool := decide (e.now = f.now) && (decide (e.pins = f.pins) && decide (e.lim = f.lim))
theorem same_iff {e f : E} : sameB e f = true ↔ e = f := by
  obtain ⟨n, p, l⟩ := e
  obtain ⟨n', p', l'⟩ := f
  simp [sameB]
theorem same_not {e f : E} (h : e ≠ f) : sameB e f = false := by
  cases hh : sameB e f with
  | false => rfl
  | true => exact absurd (same_iff.1 hh) h
theorem same_self (e : E) : sameB e e = true := same_iff.2 rfl
theorem list_eq {α : Type} {a b : List α} (d : α) (hl : a.length = b.length) (h : ∀ j, j < a.length → a.getD j d = b.getD j d) : a = b := by
  apply List.ext_getElem hl
  intro i h1 h2
  have := h i h1
  rwa [get_lt h1, get_lt h2] at this
/-- Two boxes of arguments, in each world. -/
structure B2 (w wr : World) (n m : Int) (y z : WE) : Prop where
  low : Below w.heap.size w wr
  a : InE wr w.heap.size n y
  b : InE wr (w.heap.size + 1) m z
theorem b2_start (w : World) (n m : Int) (y z : WE) (T : TypeId) : B2 w ((w.alloc (.cells #[.int .i64 n, .slice y.p.o y.p.n y.p.c, .slice y.l.o y.l.n y.l.c] T)).alloc (.cells #[.int .i64 m, .slice z.p.o z.p.n z.p.c, .slice z.l.o z.l.n z.l.c] T)) n m y z := by
  refine ⟨q_alloc (alloc_below _ _) _, (inE_new w n y T).below (alloc_below _ _), ?_⟩
  have := inE_new (w.alloc (.cells #[.int .i64 n, .slice y.p.o y.p.n y.p.c, .slice y.l.o y.l.n y.l.c] T)) m z T
  simpa using this
theorem B2.below {w wr w' : World} {n m : Int} {y z : WE} (h : B2 w wr n m y z) (k : Below wr.heap.size wr w') : B2 w w' n m y z := ⟨q_trans h.low k, h.a.below k, h.b.below k⟩
theorem InE.always {w : World} {b : Nat} {n : Int} {y : WE} (h : InE w b n y) : (∀ g : Later w, g.now.cell? ⟨b, 0, none⟩ = some (.int .i64 n)) ∧ (∀ g : Later w, g.now.cell? ⟨b, 1, none⟩ = some (.slice y.p.o y.p.n y.p.c)) ∧ (∀ g : Later w, g.now.cell? ⟨b, 2, none⟩ = some (.slice y.l.o y.l.n y.l.c)) := ⟨fun g => g.cell h.c0, fun g => g.cell h.c1, fun g => g.cell h.c2⟩
section
variable {w : World}
theorem HasW.later {ao : Option Addr} {n cap : Nat} {l : List W} (h : HasW w ao n cap l) (g : Later w) : HasW g.now ao n cap l := h.below g.low
end
end Go.Proofs.Ytejghoncihdfkab.Ep
