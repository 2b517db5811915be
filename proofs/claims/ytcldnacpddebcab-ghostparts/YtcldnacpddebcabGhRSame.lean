/- What the document's Same (of ghosts) does. -/
import Derived.Test.YtcldnacpddebcabGhRInts
namespace Go.Proofs.Ytcldnacpddebcab.Gh
open Go.RowKit
open Go.Proofs.Ytcldnacpddebcab.Tr

/-- Whether two ghosts are the same. -/
def sgB (g h : Gt) : Bool := decide (g.ks = h.ks) && (decide (g.is = h.is) && decide (g.fr = h.fr))
theorem sgB_iff {g h : Gt} : sgB g h = true ↔ g = h := by
  simp only [sgB, Bool.and_eq_true, decide_eq_true_eq]
  exact ⟨fun ⟨a, b, c⟩ => gt_eq a b c, fun e => by rw [e]; exact ⟨rfl, rfl, rfl⟩⟩
theorem sgB_refl (g : Gt) : sgB g g = true := sgB_iff.2 rfl
/-- Two ghosts' boxes. -/
theorem gg_new (w : World) (y z : Gv) (t u : TypeId) : InG ((w.alloc (.cells #[.slice y.k.o y.k.n y.k.c, .slice y.i.o y.i.n y.i.c, .slice y.f.o y.f.n y.f.c] t)).alloc (.cells #[.slice z.k.o z.k.n z.k.c, .slice z.i.o z.i.n z.i.c, .slice z.f.o z.f.n z.f.c] u)) w.heap.size y ∧ InG ((w.alloc (.cells #[.slice y.k.o y.k.n y.k.c, .slice y.i.o y.i.n y.i.c, .slice y.f.o y.f.n y.f.c] t)).alloc (.cells #[.slice z.k.o z.k.n z.k.c, .slice z.i.o z.i.n z.i.c, .slice z.f.o z.f.n z.f.c] u)) (w.heap.size + 1) z ∧ Below w.heap.size w ((w.alloc (.cells #[.slice y.k.o y.k.n y.k.c, .slice y.i.o y.i.n y.i.c, .slice y.f.o y.f.n y.f.c] t)).alloc (.cells #[.slice z.k.o z.k.n z.k.c, .slice z.i.o z.i.n z.i.c, .slice z.f.o z.f.n z.f.c] u)) := by
  refine ⟨(inG_new w y t).below (alloc_below _ _), ?_, q_alloc (alloc_below _ _) _⟩
  have h := inG_new (w.alloc (.cells #[.slice y.k.o y.k.n y.k.c, .slice y.i.o y.i.n y.i.c, .slice y.f.o y.f.n y.f.c] t)) z u
  rwa [show (w.alloc (.cells #[.slice y.k.o y.k.n y.k.c, .slice y.i.o y.i.n y.i.c, .slice y.f.o y.f.n y.f.c] t)).heap.size = w.heap.size + 1 by simp] at h
end Go.Proofs.Ytcldnacpddebcab.Gh
