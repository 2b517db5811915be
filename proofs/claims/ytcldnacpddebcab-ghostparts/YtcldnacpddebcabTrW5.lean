/- What the program's below tells: the contract of its iterator. -/
import Derived.RangeFuncNested
import Derived.RangeFuncBound
import Derived.RangeFuncCalls
import Derived.RangeFuncLeaves
import Derived.Shelf.Abstract
import Derived.Shelf.RegionOpen
import Derived.WalkKit
import Derived.OwnWalkIn
import Derived.TacticsInMore
import Derived.LoopNIn
import Derived.LoopIn
import Derived.Test.YtcldnacpddebcabTrW4
import Derived.Test.YtcldnacpddebcabTrRBel
namespace Go.Proofs.Ytcldnacpddebcab.Tr
open Go.RowKit Go.Shelf
attribute [local go_sem] Oper.semAt_some

theorem grown_below {w w' : World} (h : Below w.heap.size w w') : w.grownBy w' none := ⟨h.os, h.tape, h.output, h.size, fun k hk _ => h.block k hk⟩
theorem keeps_below {W W' : World} (h : Below W.heap.size W W') : KeepsOthers W W' := ⟨h.size, fun k _ hk _ => (h.block k (Array.getElem?_eq_some_iff.1 hk).1).trans hk⟩
theorem abide {β : Type} {B : Nat} {J : β → World → Prop} (h : AbidesFrom B J) {s : β} {W W' : World} (hs : J s W) (hb : Below W.heap.size W W') : J s W' := h s W W' none hs (grown_below hb) (fun r e => by cases e)
/-- WHAT A ROUND KEEPS: all below n0, and the box B. -/
def KB (n0 B : Nat) (W W' : World) : Prop := Below n0 W W' ∧ ∀ v, W.cell? ⟨B, 0, none⟩ = some v → W'.cell? ⟨B, 0, none⟩ = some v
theorem kb_t {n0 B : Nat} {a b c : World} (h : KB n0 B a b) (k : KB n0 B b c) : KB n0 B a c := ⟨h.1.trans k.1, fun v hv => k.2 v (h.2 v hv)⟩
theorem kb_b {n0 B : Nat} {w : World} (hn : n0 ≤ w.heap.size) (W : World) (l : Nat) (o o' : Obj) (hl : w.heap.size ≤ l) (h : W.heap[l]? = some o) (ho : o.isCells = false) (hw : o.isWalk = false) : KB n0 B W (W.putObj l o') :=
  ⟨belowK_b (w := w) hn W l o o' hl h ho hw, fun _ hv => cell_kept hv (grownBy_putObj' W l o') (fun r e => by cases e; exact ⟨o, h, ho⟩)⟩
theorem kb_below {n0 B : Nat} {W W' : World} (hn : n0 ≤ W.heap.size) (h : Below W.heap.size W W') : KB n0 B W W' :=
  ⟨h.mono hn, fun _ hv => (h.cell (World.block_lt_of_cell? W _ hv)).trans hv⟩
theorem kb_set {n0 B c j : Nat} (W : World) (u : Value) (hc : n0 ≤ c) (hne : c ≠ B) : KB n0 B W (W.setCell ⟨c, j, none⟩ u) :=
  ⟨(Below.refl n0 W).setCell (p := ⟨c, j, none⟩) hc u, fun _ hv => (World.cell?_setCell_other _ _ _ _ (far0 (.inl hne))).trans hv⟩
theorem bl_at {t : List Br} {k : P} {i q : Nat} (h : fd k t = some i) (hq : q < ct t i) : i + 1 + q < t.length ∧ D t i < D t (i + 1 + q) ∧ (blL t k).take (q + 1) = (blL t k).take q ++ [Ky t (i + 1 + q)] := by
  have h1 := bl_get h (n := q) (by rw [len_bl h]; exact hq)
  refine ⟨h1.1, ?_, ?_⟩
  · have := (ds_ct (t := t) (i := i) (j := i + 1 + q)).2 ⟨by omega, by omega⟩
    exact this.2.2 _ this.1 (Nat.le_refl _)
  · rw [xtake_snoc _ _ (by rw [len_bl h]; exact hq), h1.2]
theorem ct_stop {t : List Br} {i : Nat} (h : i + 1 + ct t i < t.length) : ¬ D t i < D t (i + 1 + ct t i) := fun hd => by
  have h1 : Ds t i (i + 1 + ct t i) := by
    refine ⟨by omega, h, fun m h1 h2 => ?_⟩
    rcases Nat.lt_or_ge m (i + 1 + ct t i) with y | y
    · have := (ds_ct (t := t) (i := i) (j := m)).2 ⟨h1, by omega⟩
      exact this.2.2 m this.1 (Nat.le_refl _)
    · obtain rfl : m = i + 1 + ct t i := by omega
      exact hd
  have := (ds_ct.1 h1).2
  omega
end Go.Proofs.Ytcldnacpddebcab.Tr
