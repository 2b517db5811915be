/- What the document's Retire does. -/
import Derived.Test.YtejghoncihdfkabEpApp
namespace Go.Proofs.Ytejghoncihdfkab.Ep
open Go.RowKit

/-- What the last row reads. -/
abbrev SR (b0 : Nat) (n : Int) (po lo : Option Addr) (P L pc lc : Nat) (q : Addr) (o : Option Addr) (m c : Nat) (w : World) : Prop :=
  w.cell? ⟨b0, 0, none⟩ = some (.int .i64 n) ∧ w.cell? ⟨b0, 1, none⟩ = some (.slice po P pc) ∧ w.cell? ⟨b0, 2, none⟩ = some (.slice lo L lc) ∧ w.cell? q = some (.slice o m c)
section
variable {b0 : Nat} {n : Int} {po lo : Option Addr} {P L pc lc : Nat} {q : Addr} {o : Option Addr} {m c : Nat} {w w' : World}
theorem sr_keep (hb : Below w.heap.size w w') (h : SR b0 n po lo P L pc lc q o m c w) : SR b0 n po lo P L pc lc q o m c w' :=
  ⟨(hb.cell (World.block_lt_of_cell? w _ h.1)).trans h.1, (hb.cell (World.block_lt_of_cell? w _ h.2.1)).trans h.2.1, (hb.cell (World.block_lt_of_cell? w _ h.2.2.1)).trans h.2.2.1, (hb.cell (World.block_lt_of_cell? w _ h.2.2.2)).trans h.2.2.2⟩
theorem sr_drew (h : SR b0 n po lo P L pc lc q o m c w) : SR b0 n po lo P L pc lc q o m c w.drew := h
theorem sr_alloc {x : Obj} (h : SR b0 n po lo P L pc lc q o m c w) : SR b0 n po lo P L pc lc q o m c (w.alloc x) := sr_keep (alloc_below _ _) h
theorem sr_put {d i : Nat} {u : Value} (h : SR b0 n po lo P L pc lc q o m c w) (h1 : b0 ≠ d) (h2 : q.block ≠ d) : SR b0 n po lo P L pc lc q o m c (w.setCell ⟨d, i, none⟩ u) := by
  have k := fun (j : Nat) => World.cell?_setCell_other w ⟨d, i, none⟩ ⟨b0, j, none⟩ u (by intro e; exact h1 (congrArg Addr.block e).symm)
  exact ⟨(k 0).trans h.1, (k 1).trans h.2.1, (k 2).trans h.2.2.1, (World.cell?_setCell_other w ⟨d, i, none⟩ q u (by intro e; exact h2 (congrArg Addr.block e).symm)).trans h.2.2.2⟩
theorem sr_three {d : Nat} {u v x : Value} (h : SR b0 n po lo P L pc lc q o m c w) (h1 : b0 ≠ d) (h2 : q.block ≠ d) : SR b0 n po lo P L pc lc q o m c (((w.setCell ⟨d, 0, none⟩ u).setCell ⟨d, 1, none⟩ v).setCell ⟨d, 2, none⟩ x) := sr_put (sr_put (sr_put h h1 h2) h1 h2) h1 h2
end
theorem reE_arg {e : E} {c o : Int} (h : (coB e c && (decide (0 ≤ o) && decide (o ≤ 63))) = false) : reE e c o = 2 ∧ reA e c o = e := by
  have h2 : reE e c o = 2 := by unfold reE; rw [h]; rfl
  exact ⟨h2, re_same (by rw [h2]; decide)⟩
theorem reE_full {e : E} {c o : Int} (h : (coB e c && (decide (0 ≤ o) && decide (o ≤ 63))) = true) (k : ¬ (limOf e c).length < 8) : reE e c o = 5 ∧ reA e c o = e := by
  have h2 : reE e c o = 5 := by unfold reE; rw [h, if_neg k]; rfl
  exact ⟨h2, re_same (by rw [h2]; decide)⟩
theorem reE_ok {e : E} {c o : Int} (h : (coB e c && (decide (0 ≤ o) && decide (o ≤ 63))) = true) (k : (limOf e c).length < 8) : reE e c o = 0 ∧ reA e c o = setL e c (limOf e c ++ [(o, e.now)]) := by
  have h2 : reE e c o = 0 := by unfold reE; rw [h, if_pos k]; rfl
  exact ⟨h2, by unfold reA; rw [if_pos h2]⟩
end Go.Proofs.Ytejghoncihdfkab.Ep
