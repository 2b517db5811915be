/- A key's box that may be written; a box of one cell. -/
import Derived.Test.YtcldnacpddebcaaPkB
namespace Go.Proofs.Ytcldnacpddebcaa.Tr
open Go.RowKit

structure Bp (w : World) (b : Nat) (k : P) : Prop where
  c0 : w.cell? ⟨b, 0, none⟩ = some (.int .i64 k.1)
  c1 : w.cell? ⟨b, 1, none⟩ = some (.int .i64 k.2)
  f0 : w.frozen? ⟨b, 0, none⟩ = false
  f1 : w.frozen? ⟨b, 1, none⟩ = false
theorem Bp.lt {w : World} {b : Nat} {k : P} (h : Bp w b k) : b < w.heap.size := World.block_lt_of_cell? w _ h.c0
theorem Bp.below {w w' : World} {b : Nat} {k : P} (h : Bp w b k) (q : Below w.heap.size w w') : Bp w' b k :=
  ⟨(q.cell (p := ⟨b, 0, none⟩) h.lt).trans h.c0, (q.cell (p := ⟨b, 1, none⟩) h.lt).trans h.c1, (q.frozen (p := ⟨b, 0, none⟩) h.lt).trans h.f0, (q.frozen (p := ⟨b, 1, none⟩) h.lt).trans h.f1⟩
theorem bp_new (w : World) (x : P) (t : TypeId) : Bp (w.alloc (.cells #[.int .i64 x.1, .int .i64 x.2] t)) w.heap.size x := by constructor <;> simp
theorem bp_two (w : World) (o : Obj) (x : P) (t : TypeId) : Bp ((w.alloc o).alloc (.cells #[.int .i64 x.1, .int .i64 x.2] t)) (w.heap.size + 1) x := by
  have := bp_new (w.alloc o) x t
  simpa using this
theorem far0 {b i c j : Nat} (h : b ≠ c ∨ i ≠ j) : (⟨b, i, none⟩ : Addr) ≠ ⟨c, j, none⟩ := by
  intro e
  injection e with e1 e2
  omega
theorem bp_put {w : World} {b : Nat} {k : P} (h : Bp w b k) (x : P) : Bp ((w.setCell ⟨b, 0, none⟩ (.int .i64 x.1)).setCell ⟨b, 1, none⟩ (.int .i64 x.2)) b x :=
  ⟨(World.cell?_setCell_other _ _ _ _ (far0 (.inr (by omega)))).trans (World.cell?_setCell_same' _ _ _ (by rw [h.c0]; rfl)),
   World.cell?_setCell_same' _ _ _ (by rw [World.cell?_setCell_other _ _ _ _ (far0 (.inr (by omega))), h.c1]; rfl),
   by rw [World.frozen?_setCell, World.frozen?_setCell]; exact h.f0, by rw [World.frozen?_setCell, World.frozen?_setCell]; exact h.f1⟩
/-- A box of one cell that may be written. -/
structure B1 (w : World) (b : Nat) (v : Value) : Prop where
  c : w.cell? ⟨b, 0, none⟩ = some v
  f : w.frozen? ⟨b, 0, none⟩ = false
theorem B1.lt {w : World} {b : Nat} {v : Value} (h : B1 w b v) : b < w.heap.size := World.block_lt_of_cell? w _ h.c
theorem B1.below {w w' : World} {b : Nat} {v : Value} (h : B1 w b v) (q : Below w.heap.size w w') : B1 w' b v :=
  ⟨(q.cell (p := ⟨b, 0, none⟩) h.lt).trans h.c, (q.frozen (p := ⟨b, 0, none⟩) h.lt).trans h.f⟩
theorem b1_new (w : World) (v : Value) (t : TypeId) : B1 (w.alloc (.cells #[v] t)) w.heap.size v := by constructor <;> simp
theorem b1_put {w : World} {b : Nat} {v : Value} (h : B1 w b v) (u : Value) : B1 (w.setCell ⟨b, 0, none⟩ u) b u :=
  ⟨World.cell?_setCell_same' _ _ _ (by rw [h.c]; rfl), by rw [World.frozen?_setCell]; exact h.f⟩
theorem B1.other {w : World} {b c j : Nat} {v : Value} (h : B1 w b v) (u : Value) (hne : b ≠ c) : B1 (w.setCell ⟨c, j, none⟩ u) b v :=
  ⟨(World.cell?_setCell_other _ _ _ _ (far0 (.inl (Ne.symm hne)))).trans h.c, by rw [World.frozen?_setCell]; exact h.f⟩
theorem Bp.other {w : World} {b c j : Nat} {k : P} (h : Bp w b k) (u : Value) (hne : b ≠ c) : Bp (w.setCell ⟨c, j, none⟩ u) b k :=
  ⟨(World.cell?_setCell_other _ _ _ _ (far0 (.inl (Ne.symm hne)))).trans h.c0, (World.cell?_setCell_other _ _ _ _ (far0 (.inl (Ne.symm hne)))).trans h.c1, by rw [World.frozen?_setCell]; exact h.f0, by rw [World.frozen?_setCell]; exact h.f1⟩
end Go.Proofs.Ytcldnacpddebcaa.Tr
