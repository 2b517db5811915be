/- What EpochSteps does, over the program's contracts. -/
import Derived.Test.YtejghoncihdfkabEpLive
namespace Go.Proofs.Ytejghoncihdfkab.Ep
open Go.RowKit

/-- Behind the door: the boxes. -/
structure Sp (w W : World) (y z : WE) (n m : Int) (a : Ac) : Prop where
  low : Below w.heap.size w W
  e : InE W w.heap.size n y
  f : InE W (w.heap.size + 1) m z
  k0 : W.cell? ⟨w.heap.size + 1 + 1, 0, none⟩ = some (.int .i64 a.kind)
  k1 : W.cell? ⟨w.heap.size + 1 + 1, 1, none⟩ = some (.int .i64 a.core)
  k2 : W.cell? ⟨w.heap.size + 1 + 1, 2, none⟩ = some (.int .i64 a.obj)
theorem ac_new (w : World) (a : Ac) (T : TypeId) : (w.alloc (.cells #[.int .i64 a.kind, .int .i64 a.core, .int .i64 a.obj] T)).cell? ⟨w.heap.size, 0, none⟩ = some (.int .i64 a.kind) ∧ (w.alloc (.cells #[.int .i64 a.kind, .int .i64 a.core, .int .i64 a.obj] T)).cell? ⟨w.heap.size, 1, none⟩ = some (.int .i64 a.core) ∧ (w.alloc (.cells #[.int .i64 a.kind, .int .i64 a.core, .int .i64 a.obj] T)).cell? ⟨w.heap.size, 2, none⟩ = some (.int .i64 a.obj) := by
  refine ⟨?_, ?_, ?_⟩ <;> simp
theorem sp_start (w : World) (y z : WE) (n m : Int) (a : Ac) (T T' : TypeId) : Sp w (((w.alloc (.cells #[.int .i64 n, .slice y.p.o y.p.n y.p.c, .slice y.l.o y.l.n y.l.c] T)).alloc (.cells #[.int .i64 m, .slice z.p.o z.p.n z.p.c, .slice z.l.o z.l.n z.l.c] T)).alloc (.cells #[.int .i64 a.kind, .int .i64 a.core, .int .i64 a.obj] T')) y z n m a := by
  have h := ac_new ((w.alloc (.cells #[.int .i64 n, .slice y.p.o y.p.n y.p.c, .slice y.l.o y.l.n y.l.c] T)).alloc (.cells #[.int .i64 m, .slice z.p.o z.p.n z.p.c, .slice z.l.o z.l.n z.l.c] T)) a T'
  rw [show ((w.alloc (.cells #[.int .i64 n, .slice y.p.o y.p.n y.p.c, .slice y.l.o y.l.n y.l.c] T)).alloc (.cells #[.int .i64 m, .slice z.p.o z.p.n z.p.c, .slice z.l.o z.l.n z.l.c] T)).heap.size = w.heap.size + 1 + 1 by simp] at h
  refine ⟨q_alloc (q_alloc (alloc_below _ _) _) _, ((inE_new w n y T).below (alloc_below _ _)).below (alloc_below _ _), ?_, h.1, h.2.1, h.2.2⟩
  · have h := inE_new (w.alloc (.cells #[.int .i64 n, .slice y.p.o y.p.n y.p.c, .slice y.l.o y.l.n y.l.c] T)) m z T
    rw [show (w.alloc (.cells #[.int .i64 n, .slice y.p.o y.p.n y.p.c, .slice y.l.o y.l.n y.l.c] T)).heap.size = w.heap.size + 1 by simp] at h
    exact h.below (alloc_below _ _)
theorem Sp.below {w W W' : World} {y z : WE} {n m : Int} {a : Ac} (h : Sp w W y z n m a) (b : Below W.heap.size W W') : Sp w W' y z n m a :=
  ⟨q_trans h.low b, h.e.below b, h.f.below b, (b.cell (World.block_lt_of_cell? W _ h.k0)).trans h.k0, (b.cell (World.block_lt_of_cell? W _ h.k1)).trans h.k1, (b.cell (World.block_lt_of_cell? W _ h.k2)).trans h.k2⟩
/-- Six boxes: what a region holds. -/
abbrev S6 (b0 b1 b2 b3 b4 b5 : Nat) (n0 n1 n2 n3 n4 n5 : Int) (y0 y1 y2 y3 y4 y5 : WE) (w : World) : Prop := SB b0 n0 y0 w ∧ SB b1 n1 y1 w ∧ SB b2 n2 y2 w ∧ SB b3 n3 y3 w ∧ SB b4 n4 y4 w ∧ SB b5 n5 y5 w
section
variable {b0 b1 b2 b3 b4 b5 : Nat} {n0 n1 n2 n3 n4 n5 : Int} {y0 y1 y2 y3 y4 y5 : WE} {w w' : World}
theorem s6_keep (hb : Below w.heap.size w w') (h : S6 b0 b1 b2 b3 b4 b5 n0 n1 n2 n3 n4 n5 y0 y1 y2 y3 y4 y5 w) : Hid (S6 b0 b1 b2 b3 b4 b5 n0 n1 n2 n3 n4 n5 y0 y1 y2 y3 y4 y5 w') :=
  ⟨sb_keep hb h.1, sb_keep hb h.2.1, sb_keep hb h.2.2.1, sb_keep hb h.2.2.2.1, sb_keep hb h.2.2.2.2.1, sb_keep hb h.2.2.2.2.2⟩
theorem sb6_drew (h : S6 b0 b1 b2 b3 b4 b5 n0 n1 n2 n3 n4 n5 y0 y1 y2 y3 y4 y5 w) : S6 b0 b1 b2 b3 b4 b5 n0 n1 n2 n3 n4 n5 y0 y1 y2 y3 y4 y5 w.drew := h
end
theorem beq_dec (k : Int) : (k == 0) = decide (k = 0) := by by_cases h : k = 0 <;> simp [h]
theorem q_drew {w w' : World} {N : Nat} (h : Below N w w') : Below N w w'.drew := h.drew
abbrev No : Nat → Prop := fun _ => False
theorem no_lt (w : World) : Hid (∀ i, No i → i < w.heap.size) := fun _ h => h.elim
theorem do_no {e : E} (h : okE e = false) (a : Ac) : doE e a = e ∧ doL e a = [] := by
  have hc : ∀ c, coB e c = false := fun c => by simp [coB, h]
  have hp : ∀ c, pinA e c = e := fun c => by simp [pinA, pinE, hc]
  have hu : ∀ c, unA e c = e := fun c => by simp [unA, unE, hc]
  have hr : ∀ c o, reA e c o = e := fun c o => by simp [reA, reE, hc]
  have ha : adA e = e := by simp [adA, adB, h]
  have hq : ∀ c, rpA e c = e ∧ rpL e c = [] := fun c => by simp [rpA, rpL, hc]
  refine ⟨?_, ?_⟩
  · unfold doE; simp [hp, hu, hr, ha, hq]
  · unfold doL; simp [hq]
theorem do_sm {e : E} (h : Sm e) {a : Ac} : Hid (Sm (doE e a)) := by
  cases ho : okE e with
  | false => rw [(do_no ho a).1]; exact h
  | true => exact sm_ok (do_ok a (ok_iff.1 ho))
theorem do_short {e : E} (h : Sm e) {a : Ac} : Hid ((doL e a).length ≤ 30) := by
  have h30 : ∀ c, (limOf e c).length ≤ 30 := by
    intro c
    unfold limOf
    by_cases hc : c.toNat < e.lim.length
    · exact h.each _ hc
    · rw [show e.lim.getD c.toNat [] = [] by simp [List.getD, List.getElem?_eq_none (Nat.le_of_not_lt hc)]]; simp
  have hr : (rpL e a.core).length ≤ 30 := by
    unfold rpL
    split
    · rw [List.length_map]
      exact Nat.le_trans (List.length_filter_le _ _) (h30 _)
    · simp
  unfold doL Hid
  repeat' split
  all_goals first | exact hr | simp
theorem new_sm (c : Int) : Hid (Sm (newA c)) := by
  by_cases h : 1 ≤ c ∧ c ≤ 64
  · have e : newA c = ⟨1, List.replicate c.toNat 0, List.replicate c.toNat []⟩ := if_pos h
    rw [e]
    refine ⟨by simp; omega, by simp; omega, fun i hi => ?_⟩
    simp [List.getD] at hi ⊢
    simp [hi]
  · have e : newA c = ⟨0, [], []⟩ := if_neg h
    rw [e]
    exact ⟨by simp, by simp, fun i hi => absurd hi (by simp)⟩
end Go.Proofs.Ytejghoncihdfkab.Ep
