/- Boxes of capabilities and of pairs, while a row of one's own grows and while they are stored into. -/
import Derived.Test.YthnfekdoibhnpaaDoorAdRFind
namespace Go.Proofs.YthnfekdoibhnpaaDoor.Ad
open Go.RowKit
open Cp (K)

theorem Kept.frozen {S : Nat → Prop} {a b : World} (h : Kept S a b) {p : Addr} (hl : p.block < a.heap.size) (hn : ¬ S p.block) : b.frozen? p = a.frozen? p := by
  unfold World.frozen?
  rw [h.block p.block hl hn]
theorem Bk.kept {S : Nat → Prop} {w w' : World} {b : Nat} {k : K} (h : Bk w b k) (q : Kept S w w') (hn : ¬ S b) : Bk w' b k :=
  ⟨q.cell h.c0 hn, q.cell h.c1 hn, q.cell h.c2 hn, q.cell h.c3 hn, q.cell h.c4 hn, (q.frozen (p := ⟨b, 0, none⟩) h.lt hn).trans h.f0, (q.frozen (p := ⟨b, 1, none⟩) h.lt hn).trans h.f1, (q.frozen (p := ⟨b, 2, none⟩) h.lt hn).trans h.f2, (q.frozen (p := ⟨b, 3, none⟩) h.lt hn).trans h.f3, (q.frozen (p := ⟨b, 4, none⟩) h.lt hn).trans h.f4⟩
theorem Bp.kept {S : Nat → Prop} {w w' : World} {b : Nat} {k : P} (h : Bp w b k) (q : Kept S w w') (hn : ¬ S b) : Bp w' b k :=
  ⟨q.cell h.c0 hn, q.cell h.c1 hn, (q.frozen (p := ⟨b, 0, none⟩) h.lt hn).trans h.f0, (q.frozen (p := ⟨b, 1, none⟩) h.lt hn).trans h.f1⟩
theorem AtP.kept {S : Nat → Prop} {w w' : World} {a : Addr} {k : P} (h : AtP w a k) (q : Kept S w w') (hn : ¬ S a.block) : AtP w' a k := ⟨q.cell h.c0 hn, q.cell h.c1 hn⟩
theorem kept5 (w : World) (d : Nat) (u0 u1 u2 u3 u4 : Value) : Kept (fun i => i = d) w (((((w.setCell ⟨d, 0, none⟩ u0).setCell ⟨d, 1, none⟩ u1).setCell ⟨d, 2, none⟩ u2).setCell ⟨d, 3, none⟩ u3).setCell ⟨d, 4, none⟩ u4) := by
  refine Kept.setCell ?_ ⟨d, 4, none⟩ u4 (fun _ => rfl)
  refine Kept.setCell ?_ ⟨d, 3, none⟩ u3 (fun _ => rfl)
  refine Kept.setCell ?_ ⟨d, 2, none⟩ u2 (fun _ => rfl)
  refine Kept.setCell ?_ ⟨d, 1, none⟩ u1 (fun _ => rfl)
  exact kept_set _ w ⟨d, 0, none⟩ u0 rfl
theorem cell_set {w : World} {b i j : Nat} {v u : Value} (h : w.cell? ⟨b, j, none⟩ = some u) : (w.setCell ⟨b, i, none⟩ v).cell? ⟨b, j, none⟩ = some (if i = j then v else u) := by
  by_cases e : i = j
  · subst e
    rw [if_pos rfl]
    exact World.cell?_setCell_same _ _ _ h
  · rw [if_neg e]
    exact (World.cell?_setCell_other _ _ _ _ (fun h => e (congrArg Addr.off h))).trans h
theorem Bk.set5 {w : World} {b : Nat} {c : K} (h : Bk w b c) (d : K) : Bk (((((w.setCell ⟨b, 0, none⟩ (.int .i64 d.t)).setCell ⟨b, 1, none⟩ (.int .i64 d.r)).setCell ⟨b, 2, none⟩ (.int .i64 d.b)).setCell ⟨b, 3, none⟩ (.int .i64 d.o)).setCell ⟨b, 4, none⟩ (.int .i64 d.g)) b d := by
  obtain ⟨c0, c1, c2, c3, c4, f0, f1, f2, f3, f4⟩ := h
  have e : ∀ {j : Nat} {u : Value}, w.cell? ⟨b, j, none⟩ = some u → (((((w.setCell ⟨b, 0, none⟩ (.int .i64 d.t)).setCell ⟨b, 1, none⟩ (.int .i64 d.r)).setCell ⟨b, 2, none⟩ (.int .i64 d.b)).setCell ⟨b, 3, none⟩ (.int .i64 d.o)).setCell ⟨b, 4, none⟩ (.int .i64 d.g)).cell? ⟨b, j, none⟩ = some (if 4 = j then .int .i64 d.g else if 3 = j then .int .i64 d.o else if 2 = j then .int .i64 d.b else if 1 = j then .int .i64 d.r else if 0 = j then .int .i64 d.t else u) :=
    fun h => cell_set (cell_set (cell_set (cell_set (cell_set h))))
  have g : ∀ {j : Nat}, w.frozen? ⟨b, j, none⟩ = false → (((((w.setCell ⟨b, 0, none⟩ (.int .i64 d.t)).setCell ⟨b, 1, none⟩ (.int .i64 d.r)).setCell ⟨b, 2, none⟩ (.int .i64 d.b)).setCell ⟨b, 3, none⟩ (.int .i64 d.o)).setCell ⟨b, 4, none⟩ (.int .i64 d.g)).frozen? ⟨b, j, none⟩ = false := fun h => by
    rw [World.frozen?_setCell, World.frozen?_setCell, World.frozen?_setCell, World.frozen?_setCell, World.frozen?_setCell]; exact h
  exact ⟨e c0, e c1, e c2, e c3, e c4, g f0, g f1, g f2, g f3, g f4⟩
theorem Bk.atK {w : World} {b : Nat} {c : K} (h : Bk w b c) : AtK w ⟨b, 0, none⟩ c := ⟨h.c0, h.c1, h.c2, h.c3, h.c4⟩
/-- A row of one's own grows: what lies in another block stays. -/
theorem grown_kept {w w' : World} {B n cap : Nat} {E : TypeId} {ao : Option Addr} {l : List P} (hm : MineP E w B ao n cap l) (hg : w.grownBy w' (Value.ownBlock (.slice ao n cap))) : Kept (fun i => B ≤ i ∧ i < w.heap.size) w w' :=
  (kept_grown hg).mono fun i _ e => World.ownsRow.lt hm.2 i e.symm
theorem MineP.kept {S : Nat → Prop} {E : TypeId} {w w' : World} {B n cap : Nat} {ao : Option Addr} {l : List P} (h : MineP E w B ao n cap l) (k : Kept S w w') (hs : ∀ i, B ≤ i → ¬ S i) : MineP E w' B ao n cap l :=
  ⟨h.1, own_kept h.2 k (fun i e => hs i (World.ownsRow.lt h.2 i e).1)⟩
theorem way_take {t : List (List K)} {r : K} {l : List P} {k : Nat} (hk : k < l.length) : wayB t r (l.take (k + 1)) = (wayB t r (l.take k) && goB t (wayC t r (l.take k)) (l.getD k (0, 0))) ∧ wayL t r (l.take (k + 1)) = wayL t r (l.take k) ++ [((wayC t r (l.take k)).o, (l.getD k (0, 0)).2)] ∧ wayC t r (l.take (k + 1)) = slC t ((wayC t r (l.take k)).o, (l.getD k (0, 0)).2) := by
  rw [take_at l k hk, wayB_app, wayL_app, wayC_app]
  simp [wayB, wayL, wayC]
theorem way_stop {t : List (List K)} {r : K} {l : List P} {k : Nat} (h : wayB t r (l.take k) = false) : wayB t r l = false := by
  rw [← List.take_append_drop k l, wayB_app, h]; rfl
end Go.Proofs.YthnfekdoibhnpaaDoor.Ad
