/- What EpochSteps does, over the program's contracts. -/
import Derived.Test.YtejghoncihdfkaaEpLive
namespace Go.Proofs.Ytejghoncihdfkaa.Ep
open Go.RowKit

/-- Behind the door: the boxes. -/
structure Sp (w W : World) (y z : WE) (n m : Int) (a : Ac) : Prop where
  low : Below w.heap.size w W
  e : InE W w.heap.size n y
  f : InE W (w.heap.size + 1) m z
  k0 : W.cell? ⟨w.heap.size + 1 + 1, 0, none⟩ = some (.int .i64 a.kind)
  k1 : W.cell? ⟨w.heap.size + 1 + 1, 1, none⟩ = some (.int .i64 a.core)
  k2 : W.cell? ⟨w.heap.size + 1 + 1, 2, none⟩ = some (.int .i64 a.obj)
theorem ac_new (w : World) (a : Ac) (T : TypeId) : (w.alloc (.cells #[.int .i64 a.kind, .int .i64 a.core, .int .i64 a.obj] T)).cell? ⟨w.heap.size, 0, none⟩ = some (.int .i64 a.kind) ∧ (w.alloc (.cells #[.int .i64 a.kind, .int .i64 a.core, .int .i64 a.obj] T)).cell? ⟨w.heap.size, 1, none⟩ = some (.int .i64 a.core) ∧ (w.alloc (.cells #[.int .i64 a.kind, .int .i64 a.core, .int .i64 a.obj] T)).cell? ⟨w.heap.size, 2, none⟩ = some (.int .i64 a.obj) := by
  refine ⟨?_, ?_, ?_⟩ <;> simp
theorem sp_start (w : World) (y z : WE) (n m : Int) (a : Ac) (T T' : TypeId) : Sp w (((w.alloc (.cells #[.int .i64 n, .slice y.p.o y.p.n y.p.c, .slice y.l.o y.l.n y.l.c] T)).alloc (.cells #[.int .i64 m, .slice z.p.o z.p.n z.p.c, .slice z.l.o z.l.n z.l.c] T)).alloc (.cells #[.int .i64 a.kind, .int .i64 a.core, .int .i64 a.obj] T')) y z n m a := by
  have h := ac_new ((w.alloc (.cells #[.int .i64 n, .slice y.p.o y.p.n y.p.c, .slice y.l.o y.l.n y.l.c] T)).alloc (.cells #[.int .i64 m, .slice z.p.o z.p.n z.p.c, .slice z.l.o z.l.n z.l.c] T)) a T'
  rw [show ((w.alloc (.cells #[.int .i64 n, .slice y.p.o y.p.n y.p.c, .slice y.l.o y.l.n y.l.c] T)).alloc (.cells #[.int .i64 m, .slice z.p.o z.p.n z.p.c, .slice z.l.o z.l.n z.l.c] T)).heap.size = w.heap.size + 1 + 1 by simp] at h
  refine ⟨q_alloc (q_alloc (alloc_below _ _) _) _, ((inE_new w n y T).below (alloc_below _ _)).below (alloc_below _ _), ?_, h.1, h.2.1, h.2.2⟩
  · have h := inE_new (w.alloc (.cells #[.int .i64 n, .slice y.p.o y.p.n y.p.c, .slice y.l.o y.l.n y.l.c] T)) m z T
    rw [show (w.alloc (.cells #[.int .i64 n, .slice y.p.o y.p.n y.p.c, .slice y.l.o y.l.n y.l.c] T)).heap.size = w.heap.size + 1 by simp] at h
    exact h.below (alloc_below _ _)
theorem Sp.below {w W W' : World} {y z : WE} {n m : Int} {a : Ac} (h : Sp w W y z n m a) (b : Below W.heap.size W W') : Sp w W' y z n m a :=
  ⟨q_trans h.low b, h.e.below b, h.f.below b, (b.cell (World.block_lt_of_cell? W _ h.k0)).trans h.k0, (b.cell (World.block_lt_of_cell? W _ h.k1)).trans h.k1, (b.cell (World.block_lt_of_cell? W _ h.k2)).trans h.k2⟩
/-- Six boxes: what a region holds. -/
abbrev S6 (b0 b1 b2 b3 b4 b5 : Nat) (n0 n1 n2 n3 n4 n5 : Int) (y0 y1 y2 y3 y4 y5 : WE) (w : World) : Prop := SB b0 n0 y0 w ∧ SB b1 n1 y1 w ∧ SB b2 n2 y2 w ∧ SB b3 n3 y3 w ∧ SB b4 n4 y4 w ∧ SB b5 n5 y5 w
section
variable {b0 b1 b2 b3 b4 b5 : Nat} {n0 n1 n2 n3 n4 n5 : Int} {y0 y1 y2 y3 y4 y5 : WE} {w w' : World}
theorem s6_keep (hb : Below w.heap.size w w') (h : S6 b0 b1 b2 b3 b4 b5 n0 n1 n2 n3 n4 n5 y0 y1 y2 y3 y4 y5 w) : Hid (S6 b0 b1 b2 b3 b4 b5 n0 n1 n2 n3 n4 n5 y0 y1 y2 y3 y4 y5 w') :=
  ⟨sb_keep hb h.1, sb_keep hb h.2.1, sb_keep hb h.2.2.1, sb_keep hb h.2.2.2.1, sb_keep hb h.2.2.2.2.1, sb_keep hb h.2.2.2.2.2⟩
theorem sb6_drew (h : S6 b0 b1 b2 b3 b4 b5 n0 n1 n2 n3 n4 n5 y0 y1 y2 y3 y4 y5 w) : S6 b0 b1 b2 b3 b4 b5 n0 n1 n2 n3 n4 n5 y0 y1 y2 y3 y4 y5 w.drew := h
end
theorem beq_dec (k : Int) : (k == 0) = decide (k = 0) := by by_cases h : k = 0 <;> simp [h]
theorem q_drew {w w' : World} {N : Nat} (h : Below N w w') : Below N w w'.drew := h.drew
abbrev No : Nat → Prop := fun _ => False
theorem no_lt (w : World) : Hid (∀ i, No i → i < w.heap.size) := fun _ h => h.elim
theorem k_rsame {e f : E} {n m : Int} {b : Bool} (hn : e.now = n) (hm : f.now = m) (hb : sameB e f = b) (y z : WE) (Av Av' : Nat → Prop) (w : World) (HS : Hid (Sm e)) (HE : Hid (HasE w Av y e)) (HF : Hid (HasE w Av' z f)) :
    Calls Try.prog 15 #[(.agg #[.int .i64 n, .slice y.p.o y.p.n y.p.c, .slice y.l.o y.l.n y.l.c]), (.agg #[.int .i64 m, .slice z.p.o z.p.n z.p.c, .slice z.l.o z.l.n z.l.c])] w fun r w' => r = .returned (.bool b) ∧ Below w.heap.size w w' := by
  subst hn hm hb; exact rsame_any y z e f Av Av' w HS HE HF
theorem do_no {e : E} (h : okE e = false) (a : Ac) : doE e a = e ∧ doL e a = [] := by
  have hc : ∀ c, coB e c = false := fun c => by simp [coB, h]
  have hp : ∀ c, pinA e c = e := fun c => by simp [pinA, pinE, hc]
  have hu : ∀ c, unA e c = e := fun c => by simp [unA, unE, hc]
  have hr : ∀ c o, reA e c o = e := fun c o => by simp [reA, reE, hc]
  have ha : adA e = e := by simp [adA, adB, h]
  have hq : ∀ c, rpA e c = e ∧ rpL e c = [] := fun c => by simp [rpA, rpL, hc]
  refine ⟨?_, ?_⟩
  · unfold doE; simp [hp, hu, hr, ha, hq]
  · unfold doL; simp [hq]
theorem do_sm {e : E} (h : Sm e) {a : Ac} : Hid (Sm (doE e a)) := by
  cases ho : okE e with
  | false => rw [(do_no ho a).1]; exact h
  | true => exact sm_ok (do_ok a (ok_iff.1 ho))
theorem do_short {e : E} (h : Sm e) {a : Ac} : Hid ((doL e a).length ≤ 30) := by
  have h30 : ∀ c, (limOf e c).length ≤ 30 := by
    intro c
    unfold limOf
    by_cases hc : c.toNat < e.lim.length
    · exact h.each _ hc
    · rw [show e.lim.getD c.toNat [] = [] by simp [List.getD, List.getElem?_eq_none (Nat.le_of_not_lt hc)]]; simp
  have hr : (rpL e a.core).length ≤ 30 := by
    unfold rpL
    split
    · rw [List.length_map]
      exact Nat.le_trans (List.length_filter_le _ _) (h30 _)
    · simp
  unfold doL Hid
  repeat' split
  all_goals first | exact hr | simp
theorem new_sm (c : Int) : Hid (Sm (newA c)) := by
  by_cases h : 1 ≤ c ∧ c ≤ 64
  · have e : newA c = ⟨1, List.replicate c.toNat 0, List.replicate c.toNat []⟩ := if_pos h
    rw [e]
    refine ⟨by simp; omega, by simp; omega, fun i hi => ?_⟩
    simp [List.getD] at hi ⊢
    simp [hi]
  · have e : newA c = ⟨0, [], []⟩ := if_neg h
    rw [e]
    exact ⟨by simp, by simp, fun i hi => absurd hi (by simp)⟩
set_option maxRecDepth 100000 in
set_option maxHeartbeats 4000000 in
/-- EPOCHSTEPS IS TRUE. -/
theorem steps_any (K : Con) (y z : WE) (e f : E) (a : Ac) (c : Int) (w : World) (HE : Hid (HasE w No y e)) (HF : Hid (HasE w No z f)) :
    Calls Try.prog 3 #[(.agg #[.int .i64 e.now, .slice y.p.o y.p.n y.p.c, .slice y.l.o y.l.n y.l.c]), (.agg #[.int .i64 f.now, .slice z.p.o z.p.n z.p.c, .slice z.l.o z.l.n z.l.c]), (.agg #[.int .i64 a.kind, .int .i64 a.core, .int .i64 a.obj]), .int .i64 c] w fun r w' => r = .returned (.bool true) ∧ Below w.heap.size w w' := by
  have C1 := hid (fun (W : World) (h : HasE W No y e) => small_any y e No W h)
  have C2 := hid (fun (W : World) (h : HasE W No z f) => small_any z f No W h)
  have C3 := hid (fun (W : World) (h : HasE W No y e) (hs : Hid (Sm e)) => does_any K y e a No W (no_lt W) hs h)
  have C4 := hid (fun (W : World) (h : HasE W No y e) (hs : Hid (Sm e)) => model_any y e a No W (no_lt W) hs h)
  have C5 := hid (fun (W : World) (h : HasE W No y e) (hs : Hid (Sm e)) => K.check y e No W hs h)
  have C6 := hid (fun (W : World) (h : HasE W No y e) (hs : Hid (Sm e)) => ris_any y e No W hs h)
  have C7 := hid (fun (W : World) (h : HasE W No y e) (g : HasE W No z f) (hs : Hid (Sm e)) (ht : Hid (Sm f)) => K.same y z e f No No W hs ht h g)
  have C8 := hid (fun (W : World) (h : HasE W No y e) (g : HasE W No z f) (hs : Hid (Sm e)) => rsame_any y z e f No No W hs h g)
  generalize hn : e.now = n at C1 C3 C4 C5 C6 C7 C8 ⊢
  generalize hm : f.now = m at C2 C7 C8 ⊢
  clear hn hm
  go_enter Try.func3, Try.ntmps3
  go_wp2_with fail
  have HB := hid (sp_start w y z n m a 25 27)
  generalize (((w.alloc (.cells #[.int .i64 n, .slice y.p.o y.p.n y.p.c, .slice y.l.o y.l.n y.l.c] 25)).alloc (.cells #[.int .i64 m, .slice z.p.o z.p.n z.p.c, .slice z.l.o z.l.n z.l.c] 25)).alloc (.cells #[.int .i64 a.kind, .int .i64 a.core, .int .i64 a.obj] 27)) = W at HB ⊢
  refine (C1.out _ (HE.out.below HB.out.low)).mono ?_
  rintro r w1 ⟨⟨b1, rfl, hb1⟩, b⟩
  replace HB := hid (HB.out.below b)
  clear b W
  obtain ⟨x0, x1, x2, xf⟩ := HB.out.e
  obtain ⟨z0, z1, z2, zf⟩ := HB.out.f
  cases b1 with
  | false =>
    go_wp2_with fail
    refine (live_any K _).mono ?_
    rintro r w' ⟨rfl, bl⟩
    have HBl := hid (q_trans HB.out.low bl)
    clear bl
    go_wp2_with fail
    go_ret
    exact ⟨rfl, HBl.out⟩
  | true =>
    have HS : Hid (Sm e) := hb1 rfl
    go_wp2_with fail
    refine (C2.out _ (HF.out.below HB.out.low)).mono ?_
    rintro r w2 ⟨⟨b2, rfl, hb2⟩, b⟩
    replace HB := hid (HB.out.below b)
    clear b x0 x1 x2 xf z0 z1 z2 zf w1 hb1
    obtain ⟨x0, x1, x2, xf⟩ := HB.out.e
    obtain ⟨z0, z1, z2, zf⟩ := HB.out.f
    cases b2 with
    | false =>
      go_wp2_with fail
      refine (live_any K _).mono ?_
      rintro r w' ⟨rfl, bl⟩
      have HBl := hid (q_trans HB.out.low bl)
      clear bl
      go_wp2_with fail
      go_ret
      exact ⟨rfl, HBl.out⟩
    | true =>
      have HT : Hid (Sm f) := hb2 rfl
      have k0 := HB.out.k0
      have k1 := HB.out.k1
      have k2 := HB.out.k2
      go_wp2_with fail
      refine (C3.out _ (HE.out.below HB.out.low) HS).mono ?_
      have HSd : Hid (Sm (doE e a)) := do_sm HS.out
      have HLd : Hid ((doL e a).length ≤ 30) := do_short HS.out
      generalize hd : doE e a = d at C3 C4 HSd ⊢
      generalize hdl : doL e a = l at C3 C4 HLd ⊢
      generalize hdn : doN e a = i at C3 C4 ⊢
      clear hd hdl hdn k0 k1 k2 x0 x1 x2 xf z0 z1 z2 zf
      rintro r w3 ⟨p1, o1, q1, rfl, hx, hl, b⟩
      replace HB := hid (HB.out.below b)
      have HX := hid hx
      have HL := hid hl
      obtain ⟨x0, x1, x2, xf⟩ := HB.out.e
      obtain ⟨z0, z1, z2, zf⟩ := HB.out.f
      have k0 := HB.out.k0
      have k1 := HB.out.k1
      have k2 := HB.out.k2
      have l0 : w.heap.size < w3.heap.size := HB.out.e.lt
      have l1 : w.heap.size + 1 < w3.heap.size := HB.out.f.lt
      have l2 : w.heap.size + 1 + 1 < w3.heap.size := World.block_lt_of_cell? _ _ HB.out.k0
      go_wp2_with fail
      clear x0 x1 x2 xf z0 z1 z2 zf k0 k1 k2 l0 l1 l2
      replace HB := hid (HB.out.below (alloc_below w3 (.cells #[.int .i64 d.now, .slice p1.p.o p1.p.n p1.p.c, .slice p1.l.o p1.l.n p1.l.c] 25)))
      replace HX := hid (HX.out.below (alloc_below w3 (.cells #[.int .i64 d.now, .slice p1.p.o p1.p.n p1.p.c, .slice p1.l.o p1.l.n p1.l.c] 25)))
      replace HL := hid (HL.out.below (alloc_below w3 (.cells #[.int .i64 d.now, .slice p1.p.o p1.p.n p1.p.c, .slice p1.l.o p1.l.n p1.l.c] 25)))
      have QX := hid (inE_new w3 d.now p1 25)
      generalize w3.heap.size = qx at QX ⊢
      generalize w3.alloc (.cells #[.int .i64 d.now, .slice p1.p.o p1.p.n p1.p.c, .slice p1.l.o p1.l.n p1.l.c] 25) = WQX at HB HX HL QX ⊢
      clear b hx hl w2 hb2
      refine (C4.out _ (HE.out.below HB.out.low) HS).mono ?_
      rintro r w4 ⟨p2, o2, q2, rfl, hy, hk, b⟩
      replace HB := hid (HB.out.below b)
      replace HX := hid (HX.out.below b)
      replace HL := hid (HL.out.below b)
      replace QX := hid (QX.out.below b)
      have HY := hid hy
      have HK := hid hk
      obtain ⟨x0, x1, x2, xf⟩ := HB.out.e
      obtain ⟨z0, z1, z2, zf⟩ := HB.out.f
      have k0 := HB.out.k0
      have k1 := HB.out.k1
      have k2 := HB.out.k2
      have l0 : w.heap.size < w4.heap.size := HB.out.e.lt
      have l1 : w.heap.size + 1 < w4.heap.size := HB.out.f.lt
      have l2 : w.heap.size + 1 + 1 < w4.heap.size := World.block_lt_of_cell? _ _ HB.out.k0
      go_wp2_with fail
      clear x0 x1 x2 xf z0 z1 z2 zf k0 k1 k2 l0 l1 l2
      replace HB := hid (HB.out.below (alloc_below w4 (.cells #[.int .i64 d.now, .slice p2.p.o p2.p.n p2.p.c, .slice p2.l.o p2.l.n p2.l.c] 25)))
      replace HX := hid (HX.out.below (alloc_below w4 (.cells #[.int .i64 d.now, .slice p2.p.o p2.p.n p2.p.c, .slice p2.l.o p2.l.n p2.l.c] 25)))
      replace HL := hid (HL.out.below (alloc_below w4 (.cells #[.int .i64 d.now, .slice p2.p.o p2.p.n p2.p.c, .slice p2.l.o p2.l.n p2.l.c] 25)))
      replace QX := hid (QX.out.below (alloc_below w4 (.cells #[.int .i64 d.now, .slice p2.p.o p2.p.n p2.p.c, .slice p2.l.o p2.l.n p2.l.c] 25)))
      replace HY := hid (HY.out.below (alloc_below w4 (.cells #[.int .i64 d.now, .slice p2.p.o p2.p.n p2.p.c, .slice p2.l.o p2.l.n p2.l.c] 25)))
      replace HK := hid (HK.out.below (alloc_below w4 (.cells #[.int .i64 d.now, .slice p2.p.o p2.p.n p2.p.c, .slice p2.l.o p2.l.n p2.l.c] 25)))
      have QY := hid (inE_new w4 d.now p2 25)
      generalize w4.heap.size = qy at QY ⊢
      generalize w4.alloc (.cells #[.int .i64 d.now, .slice p2.p.o p2.p.n p2.p.c, .slice p2.l.o p2.l.n p2.l.c] 25) = WQY at HB HX HL QX HY HK QY ⊢
      clear b hy hk w3
      have C9 := hid (fun (W : World) => K.new c No W (no_lt W))
      have C10 := hid (fun (W : World) => rNew_any c No W (no_lt W))
      have HSg : Hid (Sm (newA c)) := new_sm c
      generalize newA c = g at C9 C10 HSg
      generalize newE c = j at C9 C10
      refine (C9.out _).mono ?_
      rintro r w5 ⟨p3, rfl, hp, b⟩
      replace HB := hid (HB.out.below b)
      replace HX := hid (HX.out.below b)
      replace HL := hid (HL.out.below b)
      replace QX := hid (QX.out.below b)
      replace HY := hid (HY.out.below b)
      replace HK := hid (HK.out.below b)
      replace QY := hid (QY.out.below b)
      have HP := hid hp
      obtain ⟨x0, x1, x2, xf⟩ := HB.out.e
      obtain ⟨z0, z1, z2, zf⟩ := HB.out.f
      have k0 := HB.out.k0
      have k1 := HB.out.k1
      have k2 := HB.out.k2
      have l0 : w.heap.size < w5.heap.size := HB.out.e.lt
      have l1 : w.heap.size + 1 < w5.heap.size := HB.out.f.lt
      have l2 : w.heap.size + 1 + 1 < w5.heap.size := World.block_lt_of_cell? _ _ HB.out.k0
      go_wp2_with fail
      clear x0 x1 x2 xf z0 z1 z2 zf k0 k1 k2 l0 l1 l2
      replace HB := hid (HB.out.below (alloc_below w5 (.cells #[.int .i64 g.now, .slice p3.p.o p3.p.n p3.p.c, .slice p3.l.o p3.l.n p3.l.c] 25)))
      replace HX := hid (HX.out.below (alloc_below w5 (.cells #[.int .i64 g.now, .slice p3.p.o p3.p.n p3.p.c, .slice p3.l.o p3.l.n p3.l.c] 25)))
      replace HL := hid (HL.out.below (alloc_below w5 (.cells #[.int .i64 g.now, .slice p3.p.o p3.p.n p3.p.c, .slice p3.l.o p3.l.n p3.l.c] 25)))
      replace QX := hid (QX.out.below (alloc_below w5 (.cells #[.int .i64 g.now, .slice p3.p.o p3.p.n p3.p.c, .slice p3.l.o p3.l.n p3.l.c] 25)))
      replace HY := hid (HY.out.below (alloc_below w5 (.cells #[.int .i64 g.now, .slice p3.p.o p3.p.n p3.p.c, .slice p3.l.o p3.l.n p3.l.c] 25)))
      replace HK := hid (HK.out.below (alloc_below w5 (.cells #[.int .i64 g.now, .slice p3.p.o p3.p.n p3.p.c, .slice p3.l.o p3.l.n p3.l.c] 25)))
      replace QY := hid (QY.out.below (alloc_below w5 (.cells #[.int .i64 g.now, .slice p3.p.o p3.p.n p3.p.c, .slice p3.l.o p3.l.n p3.l.c] 25)))
      replace HP := hid (HP.out.below (alloc_below w5 (.cells #[.int .i64 g.now, .slice p3.p.o p3.p.n p3.p.c, .slice p3.l.o p3.l.n p3.l.c] 25)))
      have QP := hid (inE_new w5 g.now p3 25)
      generalize w5.heap.size = qp at QP ⊢
      generalize w5.alloc (.cells #[.int .i64 g.now, .slice p3.p.o p3.p.n p3.p.c, .slice p3.l.o p3.l.n p3.l.c] 25) = WQP at HB HX HL QX HY HK QY HP QP ⊢
      clear b hp w4
      refine (C10.out _).mono ?_
      rintro r w6 ⟨p4, rfl, hq, b⟩
      replace HB := hid (HB.out.below b)
      replace HX := hid (HX.out.below b)
      replace HL := hid (HL.out.below b)
      replace QX := hid (QX.out.below b)
      replace HY := hid (HY.out.below b)
      replace HK := hid (HK.out.below b)
      replace QY := hid (QY.out.below b)
      replace HP := hid (HP.out.below b)
      replace QP := hid (QP.out.below b)
      have HQ := hid hq
      obtain ⟨x0, x1, x2, xf⟩ := HB.out.e
      obtain ⟨z0, z1, z2, zf⟩ := HB.out.f
      have k0 := HB.out.k0
      have k1 := HB.out.k1
      have k2 := HB.out.k2
      have l0 : w.heap.size < w6.heap.size := HB.out.e.lt
      have l1 : w.heap.size + 1 < w6.heap.size := HB.out.f.lt
      have l2 : w.heap.size + 1 + 1 < w6.heap.size := World.block_lt_of_cell? _ _ HB.out.k0
      go_wp2_with fail
      clear x0 x1 x2 xf z0 z1 z2 zf k0 k1 k2 l0 l1 l2
      replace HB := hid (HB.out.below (alloc_below w6 (.cells #[.int .i64 g.now, .slice p4.p.o p4.p.n p4.p.c, .slice p4.l.o p4.l.n p4.l.c] 25)))
      replace HX := hid (HX.out.below (alloc_below w6 (.cells #[.int .i64 g.now, .slice p4.p.o p4.p.n p4.p.c, .slice p4.l.o p4.l.n p4.l.c] 25)))
      replace HL := hid (HL.out.below (alloc_below w6 (.cells #[.int .i64 g.now, .slice p4.p.o p4.p.n p4.p.c, .slice p4.l.o p4.l.n p4.l.c] 25)))
      replace QX := hid (QX.out.below (alloc_below w6 (.cells #[.int .i64 g.now, .slice p4.p.o p4.p.n p4.p.c, .slice p4.l.o p4.l.n p4.l.c] 25)))
      replace HY := hid (HY.out.below (alloc_below w6 (.cells #[.int .i64 g.now, .slice p4.p.o p4.p.n p4.p.c, .slice p4.l.o p4.l.n p4.l.c] 25)))
      replace HK := hid (HK.out.below (alloc_below w6 (.cells #[.int .i64 g.now, .slice p4.p.o p4.p.n p4.p.c, .slice p4.l.o p4.l.n p4.l.c] 25)))
      replace QY := hid (QY.out.below (alloc_below w6 (.cells #[.int .i64 g.now, .slice p4.p.o p4.p.n p4.p.c, .slice p4.l.o p4.l.n p4.l.c] 25)))
      replace HP := hid (HP.out.below (alloc_below w6 (.cells #[.int .i64 g.now, .slice p4.p.o p4.p.n p4.p.c, .slice p4.l.o p4.l.n p4.l.c] 25)))
      replace QP := hid (QP.out.below (alloc_below w6 (.cells #[.int .i64 g.now, .slice p4.p.o p4.p.n p4.p.c, .slice p4.l.o p4.l.n p4.l.c] 25)))
      replace HQ := hid (HQ.out.below (alloc_below w6 (.cells #[.int .i64 g.now, .slice p4.p.o p4.p.n p4.p.c, .slice p4.l.o p4.l.n p4.l.c] 25)))
      have QN := hid (inE_new w6 g.now p4 25)
      generalize w6.heap.size = qn at QN ⊢
      generalize w6.alloc (.cells #[.int .i64 g.now, .slice p4.p.o p4.p.n p4.p.c, .slice p4.l.o p4.l.n p4.l.c] 25) = WQN at HB HX HL QX HY HK QY HP QP HQ QN ⊢
      clear b hq w5
      clear C1 C2 C3 C4 C9 C10 w6
      generalize sameB e f = s at C7 C8
      obtain ⟨x0, x1, x2, xf⟩ := HB.out.e
      obtain ⟨z0, z1, z2, zf⟩ := HB.out.f
      obtain ⟨a0, a1, a2, af⟩ := QX.out
      obtain ⟨b0, b1, b2, bf⟩ := QY.out
      obtain ⟨c0, c1, c2, cf⟩ := QP.out
      obtain ⟨d0, d1, d2, df⟩ := QN.out
      have hS : S6 w.heap.size (w.heap.size + 1) qx qy qp qn n m d.now d.now g.now g.now y z p1 p2 p3 p4 WQN := ⟨⟨x0, x1, x2⟩, ⟨z0, z1, z2⟩, ⟨a0, a1, a2⟩, ⟨b0, b1, b2⟩, ⟨c0, c1, c2⟩, ⟨d0, d1, d2⟩⟩
      go_region_held3 (S6 w.heap.size (w.heap.size + 1) qx qy qp qn n m d.now d.now g.now g.now y z p1 p2 p3 p4) (first | with_reducible assumption | with_reducible exact sb6_drew hS | with_reducible exact HS1.out | with_reducible exact HS2.out | with_reducible exact HS3.out | with_reducible exact HS5.out | with_reducible exact HS6.out | with_reducible exact HS7.out | with_reducible exact HS8.out | with_reducible exact HS9.out | with_reducible exact sb6_drew HS1.out | with_reducible exact sb6_drew HS2.out | with_reducible exact sb6_drew HS3.out | with_reducible exact sb6_drew HS5.out | with_reducible exact sb6_drew HS6.out | with_reducible exact sb6_drew HS7.out | with_reducible exact sb6_drew HS8.out | with_reducible exact sb6_drew HS9.out)
        (first
          | (go_at_call 15; have hh := HC7; clear hh; refine (k_rsame (e := g) (f := g) (b := true) rfl rfl (same_iff.2 rfl) p3 p4 No No _ HSg (HP.out.below (by first | exact HC7.out | exact q_drew HC7.out)) (HQ.out.below (by first | exact HC7.out | exact q_drew HC7.out))).mono ?_; rintro r v8 ⟨rfl, b⟩; have HC8 : Hid (Below WQN.heap.size WQN v8) := (by first | exact b | exact q_trans HC7.out b | exact q_trans (q_drew HC7.out) b); have HS8 : Hid (S6 w.heap.size (w.heap.size + 1) qx qy qp qn n m d.now d.now g.now g.now y z p1 p2 p3 p4 v8) := s6_keep HC8.out hS; clear b)
          | (go_at_call 15; have hh := HC6; clear hh; refine (C8.out _ (HE.out.below (by first | exact q_trans HB.out.low HC6.out | exact q_trans HB.out.low (q_drew HC6.out))) (HF.out.below (by first | exact q_trans HB.out.low HC6.out | exact q_trans HB.out.low (q_drew HC6.out))) HS).mono ?_; rintro r v7 ⟨rfl, b⟩; have HC7 : Hid (Below WQN.heap.size WQN v7) := (by first | exact b | exact q_trans HC6.out b | exact q_trans (q_drew HC6.out) b); have HS7 : Hid (S6 w.heap.size (w.heap.size + 1) qx qy qp qn n m d.now d.now g.now g.now y z p1 p2 p3 p4 v7) := s6_keep HC7.out hS; clear b)
          | (go_at_call 15; refine (k_rsame (e := d) (f := d) (b := true) rfl rfl (same_iff.2 rfl) p1 p2 No No _ HSd (HX.out.below (by first | exact (Below.refl _ WQN) | exact q_drew (Below.refl _ WQN))) (HY.out.below (by first | exact (Below.refl _ WQN) | exact q_drew (Below.refl _ WQN)))).mono ?_; rintro r v1 ⟨rfl, b⟩; have HC1 : Hid (Below WQN.heap.size WQN v1) := (by first | exact b | exact q_trans (Below.refl _ WQN) b | exact q_trans (q_drew (Below.refl _ WQN)) b); have HS1 : Hid (S6 w.heap.size (w.heap.size + 1) qx qy qp qn n m d.now d.now g.now g.now y z p1 p2 p3 p4 v1) := s6_keep HC1.out hS; clear b)
          | (go_at_call 16; refine (ints_yes _ _ _ _ _ l _ (Nat.le_trans HLd.out (by decide)) (HL.out.below (by first | exact HC1.out | exact q_drew HC1.out)) (HK.out.below (by first | exact HC1.out | exact q_drew HC1.out))).mono ?_; rintro r v2 ⟨rfl, b⟩; have HC2 : Hid (Below WQN.heap.size WQN v2) := (by first | exact b | exact q_trans HC1.out b | exact q_trans (q_drew HC1.out) b); have HS2 : Hid (S6 w.heap.size (w.heap.size + 1) qx qy qp qn n m d.now d.now g.now g.now y z p1 p2 p3 p4 v2) := s6_keep HC2.out hS; clear b)
          | (go_at_call 18; refine (C5.out _ (HE.out.below (by first | exact q_trans HB.out.low HC2.out | exact q_trans HB.out.low (q_drew HC2.out))) HS).mono ?_; rintro r v3 ⟨⟨k, rfl, hk⟩, b⟩; have hk0 : (k == 0) = okE e := ((beq_dec k).trans hk); clear hk; have HC3 : Hid (Below WQN.heap.size WQN v3) := (by first | exact b | exact q_trans HC2.out b | exact q_trans (q_drew HC2.out) b); have HS3 : Hid (S6 w.heap.size (w.heap.size + 1) qx qy qp qn n m d.now d.now g.now g.now y z p1 p2 p3 p4 v3) := s6_keep HC3.out hS; clear b)
          | (go_at_call 19; refine (C6.out _ (HE.out.below (by first | exact q_trans HB.out.low HC3.out | exact q_trans HB.out.low (q_drew HC3.out))) HS).mono ?_; rintro r v5 ⟨rfl, b⟩; have HC5 : Hid (Below WQN.heap.size WQN v5) := (by first | exact b | exact q_trans HC3.out b | exact q_trans (q_drew HC3.out) b); have HS5 : Hid (S6 w.heap.size (w.heap.size + 1) qx qy qp qn n m d.now d.now g.now g.now y z p1 p2 p3 p4 v5) := s6_keep HC5.out hS; clear b)
          | (go_at_call 20; refine (C7.out _ (HE.out.below (by first | exact q_trans HB.out.low HC5.out | exact q_trans HB.out.low (q_drew HC5.out))) (HF.out.below (by first | exact q_trans HB.out.low HC5.out | exact q_trans HB.out.low (q_drew HC5.out))) HS HT).mono ?_; rintro r v6 ⟨rfl, b⟩; have HC6 : Hid (Below WQN.heap.size WQN v6) := (by first | exact b | exact q_trans HC5.out b | exact q_trans (q_drew HC5.out) b); have HS6 : Hid (S6 w.heap.size (w.heap.size + 1) qx qy qp qn n m d.now d.now g.now g.now y z p1 p2 p3 p4 v6) := s6_keep HC6.out hS; clear b)
          | (go_at_call 10; refine (live_any K _).mono ?_; rintro r v9 ⟨rfl, b⟩; have HC9 : Hid (Below WQN.heap.size WQN v9) := (by first | exact b | exact q_trans HC8.out b | exact q_trans (q_drew HC8.out) b); have HS9 : Hid (S6 w.heap.size (w.heap.size + 1) qx qy qp qn n m d.now d.now g.now g.now y z p1 p2 p3 p4 v9) := s6_keep HC9.out hS; clear b)
          | (go_at_call 17; refine (num_any _ _).mono ?_; rintro r w8 ⟨rfl, hw⟩; rw [hw]; clear hw w8))
      go_wp2_with fail
      go_ret
      exact ⟨rfl, q_trans HB.out.low HC9.out⟩
end Go.Proofs.Ytejghoncihdfkaa.Ep
