/- What an act does: the program's, over its contracts. -/
import Derived.Test.YtejghoncihdfkabEpCon
namespace Go.Proofs.Ytejghoncihdfkab.Ep
open Go.RowKit

/-- The three cells of a box of epochs: what a region holds. -/
abbrev SB (b : Nat) (n : Int) (y : WE) (w : World) : Prop := w.cell? ⟨b, 0, none⟩ = some (.int .i64 n) ∧ w.cell? ⟨b, 1, none⟩ = some (.slice y.p.o y.p.n y.p.c) ∧ w.cell? ⟨b, 2, none⟩ = some (.slice y.l.o y.l.n y.l.c)
section
variable {w w' : World} {b c : Nat} {n : Int} {y : WE}
theorem sb_keep (hb : Below w.heap.size w w') (h : SB b n y w) : SB b n y w' :=
  ⟨(hb.cell (World.block_lt_of_cell? w _ h.1)).trans h.1, (hb.cell (World.block_lt_of_cell? w _ h.2.1)).trans h.2.1, (hb.cell (World.block_lt_of_cell? w _ h.2.2)).trans h.2.2⟩
theorem sb_drew (h : SB b n y w) : SB b n y w.drew := h
theorem sb_alloc {x : Obj} (h : SB b n y w) : SB b n y (w.alloc x) := sb_keep (alloc_below _ _) h
theorem sb_put {i : Nat} {u : Value} (h : SB b n y w) (hb : b ≠ c) : SB b n y (w.setCell ⟨c, i, none⟩ u) := by
  have hk : ∀ j, (w.setCell ⟨c, i, none⟩ u).cell? ⟨b, j, none⟩ = w.cell? ⟨b, j, none⟩ := fun j => World.cell?_setCell_other w _ _ u (by intro e; exact hb (congrArg Addr.block e).symm)
  exact ⟨(hk 0).trans h.1, (hk 1).trans h.2.1, (hk 2).trans h.2.2⟩
theorem sb_three {u v x : Value} (h : SB b n y w) (hb : b ≠ c) : SB b n y (((w.setCell ⟨c, 0, none⟩ u).setCell ⟨c, 1, none⟩ v).setCell ⟨c, 2, none⟩ x) := sb_put (sb_put (sb_put h hb) hb) hb
end
end Go.Proofs.Ytejghoncihdfkab.Ep
