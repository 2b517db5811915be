/- What the document's Below, Descends do. -/
import Derived.Test.YtcldnacpddebcaaTrRCnt
import Derived.Test.YtcldnacpddebcaaPkA
import Derived.Test.YtcldnacpddebcaaPkB
import Derived.Deep.RegionHeld3
namespace Go.Proofs.Ytcldnacpddebcaa.Tr
open Go.RowKit

/-- Two keys' boxes. -/
abbrev SK (c : Nat) (x : P) (d : Nat) (y : P) (w : World) : Prop := w.cell? ⟨c, 0, none⟩ = some (.int .i64 x.1) ∧ w.cell? ⟨c, 1, none⟩ = some (.int .i64 x.2) ∧ w.cell? ⟨d, 0, none⟩ = some (.int .i64 y.1) ∧ w.cell? ⟨d, 1, none⟩ = some (.int .i64 y.2)
theorem sk_keep {c d : Nat} {x y : P} {w w' : World} (h : SK c x d y w) (q : Below w.heap.size w w') : SK c x d y w' :=
  ⟨(q.cell (World.block_lt_of_cell? w _ h.1)).trans h.1, (q.cell (World.block_lt_of_cell? w _ h.2.1)).trans h.2.1, (q.cell (World.block_lt_of_cell? w _ h.2.2.1)).trans h.2.2.1, (q.cell (World.block_lt_of_cell? w _ h.2.2.2)).trans h.2.2.2⟩
theorem sk_drew {c d : Nat} {x y : P} {w : World} (h : SK c x d y w) : SK c x d y w.drew := h
theorem sk_new (w : World) (x y : P) (t : TypeId) : SK w.heap.size x (w.heap.size + 1) y ((w.alloc (.cells #[.int .i64 x.1, .int .i64 x.2] t)).alloc (.cells #[.int .i64 y.1, .int .i64 y.2] t)) := by
  have h1 := (at_new w x t).below (alloc_below _ (.cells #[.int .i64 y.1, .int .i64 y.2] t))
  have h2 := at_new2 w x y t
  exact ⟨h1.c0, h1.c1, h2.c0, h2.c1⟩
end Go.Proofs.Ytcldnacpddebcaa.Tr
