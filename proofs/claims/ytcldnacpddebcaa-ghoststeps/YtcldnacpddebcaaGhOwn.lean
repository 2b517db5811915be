/- Lists of keys that a call has made, written into. -/
import Derived.Test.YtcldnacpddebcaaGhBox
import Derived.Test.YtcldnacpddebcaaTrWA
namespace Go.Proofs.Ytcldnacpddebcaa.Gh
open Go.RowKit
open Go.Proofs.Ytcldnacpddebcaa.Tr

theorem ownK_some {w : World} {B n cap : Nat} {ao : Option Addr} {l : List P} (h : MineP 27 w B ao n cap l) (hn : 0 < n) : ∃ g, ao = some ⟨g, 0, none⟩ := by
  rcases h.2.2 with ⟨_, h0⟩ | ⟨g, cap', cur, e, _⟩
  · omega
  · cases e
    exact ⟨g, rfl⟩
theorem ownK_low {w : World} {B n cap g : Nat} {l : List P} (h : MineP 27 w B (some ⟨g, 0, none⟩) n cap l) : B ≤ g := (World.ownsRow.lt h.2 g rfl).1
theorem ownK_cell {w : World} {B n cap g i : Nat} {l : List P} (h : MineP 27 w B (some ⟨g, 0, none⟩) n cap l) (hi : i < l.length) : w.cell? ⟨g, i * 2, none⟩ = some (.int .i64 (l.getD i (0, 0)).1) ∧ w.cell? ⟨g, i * 2 + 1, none⟩ = some (.int .i64 (l.getD i (0, 0)).2) := by
  obtain ⟨a, e, c0, c1⟩ := atP_of (own_row h.2).1 i hi
  cases e
  have ea : (Addr.add ⟨g, 0, none⟩ (i * 2)) = ⟨g, i * 2, none⟩ := by
    unfold Addr.add
    split
    · simp
    · simp
  rw [ea] at c0 c1
  exact ⟨c0, c1⟩
theorem setK_at (l : List P) (i : Nat) (k : P) : ((prs l).set (i * 2) (.int .i64 k.1)).set (i * 2 + 1) (.int .i64 k.2) = prs (l.set i k) := by
  induction l generalizing i with
  | nil => simp [prs]
  | cons x l ih =>
    cases i with
    | zero => simp [prs, pC]
    | succ i =>
      have := ih i
      simp only [prs, List.flatMap_cons, pC, List.set_cons_succ] at this ⊢
      rw [show (i + 1) * 2 = i * 2 + 1 + 1 by omega]
      simp only [List.cons_append, List.nil_append, List.set_cons_succ]
      rw [this]
theorem ownK_set {w : World} {B n cap g i : Nat} {l : List P} (h : MineP 27 w B (some ⟨g, 0, none⟩) n cap l) (k : P) : MineP 27 ((w.setCell ⟨g, i * 2, none⟩ (.int .i64 k.1)).setCell ⟨g, i * 2 + 1, none⟩ (.int .i64 k.2)) B (some ⟨g, 0, none⟩) n cap (l.set i k) := by
  have h1 := own_setS (j := i * 2 + 1) (.int .i64 k.2) (own_setS (j := i * 2) (.int .i64 k.1) h.2)
  rw [setK_at] at h1
  exact ⟨by rw [List.length_set]; exact h.1, h1⟩
theorem own_off {w : World} {B n size : Nat} {E : TypeId} {v : Value} {cs : List Value} (h : w.ownsRow B E size v n cs) (p : Addr) (u : Value) (hp : p.block < B) : (w.setCell p u).ownsRow B E size v n cs :=
  own_kept (S := fun i => i = p.block) h (kept_set _ w p u rfl) (fun i e hi => by have := (World.ownsRow.lt h i e).1; omega)
theorem mineP_off {w : World} {B n cap : Nat} {ao : Option Addr} {l : List P} (h : MineP 27 w B ao n cap l) (p : Addr) (u : Value) (hp : p.block < B) : MineP 27 (w.setCell p u) B ao n cap l := ⟨h.1, own_off h.2 p u hp⟩
theorem MineI.off {w : World} {B n cap : Nat} {ao : Option Addr} {l : List Int} (h : MineI w B ao n cap l) (p : Addr) (u : Value) (hp : p.block < B) : MineI (w.setCell p u) B ao n cap l := ⟨h.1, own_off h.2 p u hp⟩
/-- The answer's box, behind a list of keys written into. -/
theorem fin_move {w w3 : World} {B n cap gb j : Nat} {l : List P} {key : P} (hb : Below w.heap.size w w3) (hL : w.heap.size + 2 < B) (h : MineP 27 w3 B (some ⟨gb, 0, none⟩) n cap l) (a u v x : Value) :
    HasP ((((((w3.setCell ⟨gb, j * 2, none⟩ (.int .i64 key.1)).setCell ⟨gb, j * 2 + 1, none⟩ (.int .i64 key.2)).setCell ⟨w.heap.size, 0, none⟩ a).setCell ⟨w.heap.size + 2, 0, none⟩ u).setCell ⟨w.heap.size + 2, 1, none⟩ v).setCell ⟨w.heap.size + 2, 2, none⟩ x) (some ⟨gb, 0, none⟩) n cap (l.set j key) ∧ Below w.heap.size w ((((((w3.setCell ⟨gb, j * 2, none⟩ (.int .i64 key.1)).setCell ⟨gb, j * 2 + 1, none⟩ (.int .i64 key.2)).setCell ⟨w.heap.size, 0, none⟩ a).setCell ⟨w.heap.size + 2, 0, none⟩ u).setCell ⟨w.heap.size + 2, 1, none⟩ v).setCell ⟨w.heap.size + 2, 2, none⟩ x) := by
  have hg := ownK_low h
  have k1 : ∀ i, w.heap.size ≤ (⟨gb, i, none⟩ : Addr).block := fun i => by show w.heap.size ≤ gb; omega
  have k2 : ∀ i, w.heap.size ≤ (⟨w.heap.size + 2, i, none⟩ : Addr).block := fun i => Nat.le_add_right _ _
  refine ⟨Tr.MineP.has (mineP_off (mineP_off (mineP_off (mineP_off (ownK_set h key) _ a ?_) _ u ?_) _ v ?_) _ x ?_), q_set (q_set (q_set (q_set (q_set (q_set hb (k1 _) _) (k1 _) _) (Nat.le_refl _) a) (k2 _) u) (k2 _) v) (k2 _) x⟩
  · show w.heap.size < B; omega
  · exact hL
  · exact hL
  · exact hL
end Go.Proofs.Ytcldnacpddebcaa.Gh
