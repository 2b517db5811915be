/- What the document's Insert does. -/
import Derived.Test.YtcldnacpddebcaaTrRRoot
namespace Go.Proofs.Ytcldnacpddebcaa.Tr
open Go.RowKit

theorem at_two0 (w : World) (a b : P) (t : TypeId) : AtP ((w.alloc (.cells #[.int .i64 a.1, .int .i64 a.2] t)).alloc (.cells #[.int .i64 b.1, .int .i64 b.2] t)) ⟨w.heap.size, 0, none⟩ a := (at_new w a t).below (alloc_below _ _)
/-- A key's box, and one depth. -/
abbrev SI (c : Nat) (k : P) (a : Addr) (x : Int) (w : World) : Prop := w.cell? ⟨c, 0, none⟩ = some (.int .i64 k.1) ∧ w.cell? ⟨c, 1, none⟩ = some (.int .i64 k.2) ∧ w.cell? ⟨a.block, a.off + 2, none⟩ = some (.int .i64 x)
theorem si_drew {c : Nat} {k : P} {a : Addr} {x : Int} {w : World} (h : SI c k a x w) : SI c k a x w.drew := h
theorem si_keep {c : Nat} {k : P} {a : Addr} {x : Int} {w w' : World} (h : SI c k a x w) (q : Below w.heap.size w w') : SI c k a x w' :=
  ⟨(q.cell (World.block_lt_of_cell? w _ h.1)).trans h.1, (q.cell (World.block_lt_of_cell? w _ h.2.1)).trans h.2.1, (q.cell (World.block_lt_of_cell? w _ h.2.2)).trans h.2.2⟩
theorem tree_D {t : List Br} (h : Tree t) {i : Nat} (hi : i < t.length) : 0 ≤ D t i ∧ D t i ≤ 511 := by
  have := gd_bound t.length (tree_gd.1 h).2 i hi
  have := h.len
  omega
end Go.Proofs.Ytcldnacpddebcaa.Tr
