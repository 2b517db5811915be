/- What the document's find and Who (of ghosts) do. -/
import Derived.Test.YtcldnacpddebcabPkB
import Derived.Test.YtcldnacpddebcabPkA
namespace Go.Proofs.Ytcldnacpddebcab.Gh
open Go.RowKit
open Go.Proofs.Ytcldnacpddebcab.Tr

/-- The place of a key, or -1. -/
def fkI (k : P) (l : List P) : Int := match fk k l with
  | some i => (i : Int)
  | none => -1
theorem fkI_some {k : P} {l : List P} {i : Nat} (h : fk k l = some i) : fkI k l = i := by simp [fkI, h]
theorem fkI_none {k : P} {l : List P} (h : fk k l = none) : fkI k l = -1 := by simp [fkI, h]
/-- Two boxes, one behind the other: a ghost's and a key's. -/
theorem gk_new (w : World) (y : Gv) (k : P) (t u : TypeId) : InG ((w.alloc (.cells #[.slice y.k.o y.k.n y.k.c, .slice y.i.o y.i.n y.i.c, .slice y.f.o y.f.n y.f.c] t)).alloc (.cells #[.int .i64 k.1, .int .i64 k.2] u)) w.heap.size y ∧ AtP ((w.alloc (.cells #[.slice y.k.o y.k.n y.k.c, .slice y.i.o y.i.n y.i.c, .slice y.f.o y.f.n y.f.c] t)).alloc (.cells #[.int .i64 k.1, .int .i64 k.2] u)) ⟨w.heap.size + 1, 0, none⟩ k ∧ Below w.heap.size w ((w.alloc (.cells #[.slice y.k.o y.k.n y.k.c, .slice y.i.o y.i.n y.i.c, .slice y.f.o y.f.n y.f.c] t)).alloc (.cells #[.int .i64 k.1, .int .i64 k.2] u)) := by
  refine ⟨(inG_new w y t).below (alloc_below _ _), ?_, q_alloc (alloc_below _ _) _⟩
  have h := at_new (w.alloc (.cells #[.slice y.k.o y.k.n y.k.c, .slice y.i.o y.i.n y.i.c, .slice y.f.o y.f.n y.f.c] t)) k u
  rwa [show (w.alloc (.cells #[.slice y.k.o y.k.n y.k.c, .slice y.i.o y.i.n y.i.c, .slice y.f.o y.f.n y.f.c] t)).heap.size = w.heap.size + 1 by simp] at h
end Go.Proofs.Ytcldnacpddebcab.Gh
