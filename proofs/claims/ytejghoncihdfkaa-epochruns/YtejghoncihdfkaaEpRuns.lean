/- What EpochRuns does, over the program's contracts. -/
import Derived.Test.YtejghoncihdfkaaEpOff
namespace Go.Proofs.Ytejghoncihdfkaa.Ep
open Go.RowKit

/-- One of two boxes. -/
abbrev Bc (B C : Nat) : Nat → Prop := fun i => i = B ∨ i = C
/-- The program's epochs in the box B, the document's in the box C: the same. -/
structure Ru (w wr : World) (B C : Nat) (z u : WE) (f : E) : Prop where
  low : Below w.heap.size w wr
  eb : InE wr B f.now z
  mb : InE wr C f.now u
  e : HasE wr (Bc B C) z f
  m : HasE wr (Bc B C) u f
  b : w.heap.size ≤ B
  c : w.heap.size ≤ C
  ne : B ≠ C
section
variable {w wr W : World} {B C : Nat} {z u z' u' : WE} {f d : E} {n : Int}
theorem Ru.below (h : Ru w wr B C z u f) (b : Below wr.heap.size wr W) : Ru w W B C z u f := ⟨q_trans h.low b, h.eb.below b, h.mb.below b, h.e.below b, h.m.below b, h.b, h.c, h.ne⟩
theorem Ru.lt (h : Ru w wr B C z u f) : ∀ i, Bc B C i → i < wr.heap.size := by
  intro i s
  rcases s with s | s
  · rw [s]; exact h.eb.lt
  · rw [s]; exact h.mb.lt
theorem Ru.put1 (h : Ru w wr B C z u f) (hn : d.now = n) (hz : HasE wr (Bc B C) z' d) (hu : HasE wr (Bc B C) u' d) :
    Ru w ((((((wr.setCell ⟨B, 0, none⟩ (.int .i64 n)).setCell ⟨B, 1, none⟩ (.slice z'.p.o z'.p.n z'.p.c)).setCell ⟨B, 2, none⟩ (.slice z'.l.o z'.l.n z'.l.c)).setCell ⟨C, 0, none⟩ (.int .i64 n)).setCell ⟨C, 1, none⟩ (.slice u'.p.o u'.p.n u'.p.c)).setCell ⟨C, 2, none⟩ (.slice u'.l.o u'.l.n u'.l.c)) B C z' u' d := by
  subst hn
  have k1 := kept_store wr B (.int .i64 d.now) (.slice z'.p.o z'.p.n z'.p.c) (.slice z'.l.o z'.l.n z'.l.c)
  generalize hV : (((wr.setCell ⟨B, 0, none⟩ (.int .i64 d.now)).setCell ⟨B, 1, none⟩ (.slice z'.p.o z'.p.n z'.p.c)).setCell ⟨B, 2, none⟩ (.slice z'.l.o z'.l.n z'.l.c)) = V at k1
  have i1 : InE V B d.now z' := by rw [← hV]; exact h.eb.store d.now z'
  have i2 : InE V C f.now u := h.mb.kept k1 (fun e => h.ne e.symm)
  have k2 := kept_store V C (.int .i64 d.now) (.slice u'.p.o u'.p.n u'.p.c) (.slice u'.l.o u'.l.n u'.l.c)
  have lo := fin_lowR h.low h.b (.int .i64 d.now) (.slice z'.p.o z'.p.n z'.p.c) (.slice z'.l.o z'.l.n z'.l.c)
  rw [hV] at lo
  exact ⟨fin_lowR lo h.c _ _ _, i1.kept k2 h.ne, i2.store d.now u', (hz.kept k1 (fun _ s => .inl s)).kept k2 (fun _ s => .inr s), (hu.kept k1 (fun _ s => .inl s)).kept k2 (fun _ s => .inr s), h.b, h.c, h.ne⟩
end
/-- Behind both turns: the two answers in their boxes. -/
structure Rx (w wr : World) (B C : Nat) (z u : WE) (f : E) (X Y : Nat) (t : Int) (v v2 : WE) (d : E) (L : Nat) (o3 o4 : Option Addr) (c3 c4 : Nat) (dl : List Int) : Prop where
  r : Ru w wr B C z u f
  x : InE wr X t v
  y : InE wr Y t v2
  hv : HasE wr (Bc B C) v d
  hv2 : HasE wr (Bc B C) v2 d
  l3 : Has wr o3 L c3 dl
  l4 : Has wr o4 L c4 dl
theorem Rx.below {w wr W : World} {B C : Nat} {z u : WE} {f : E} {X Y : Nat} {t : Int} {v v2 : WE} {d : E} {L : Nat} {o3 o4 : Option Addr} {c3 c4 : Nat} {dl : List Int} (h : Rx w wr B C z u f X Y t v v2 d L o3 o4 c3 c4 dl) (b : Below wr.heap.size wr W) : Rx w W B C z u f X Y t v v2 d L o3 o4 c3 c4 dl := ⟨h.r.below b, h.x.below b, h.y.below b, h.hv.below b, h.hv2.below b, h.l3.below b, h.l4.below b⟩
/-- Two boxes of epochs, in a region. -/
abbrev S2 (X Y : Nat) (n m : Int) (y z : WE) (w : World) : Prop := SB X n y w ∧ SB Y m z w
theorem s2_drew {w : World} {X Y : Nat} {n m : Int} {y z : WE} (h : S2 X Y n m y z w) : S2 X Y n m y z w.drew := h
theorem s2_three {w : World} {X Y c : Nat} {n m : Int} {y z : WE} {u v x : Value} (h : S2 X Y n m y z w) (h1 : X ≠ c) (h2 : Y ≠ c) : S2 X Y n m y z (((w.setCell ⟨c, 0, none⟩ u).setCell ⟨c, 1, none⟩ v).setCell ⟨c, 2, none⟩ x) := ⟨sb_three h.1 h1, sb_three h.2 h2⟩
theorem new_now1 {n : Int} (h : newE n = 0) : (newA n).now = 1 := (fu_start (c := 0) h 0).now
set_option maxRecDepth 100000 in
set_option maxHeartbeats 1000000 in
theorem runs_in (K : Con) (n : Int) (ao : Option Addr) (N cap : Nat) (l : List Ac) (w : World) (h1 : 1 ≤ n) (h2 : n ≤ 64) (h3 : N ≤ 120) (HC : Hid (HasC w ao N l)) :
    Calls Try.prog 4 #[.int .i64 n, .slice ao N cap] w fun r w' => r = .returned (.bool true) ∧ Below w.heap.size w w' := by
  have hn : newE n = 0 := if_pos ⟨h1, h2⟩
  have i0 : (N : Int) ≤ 120 := by omega
  have HK0 := hid (ok_new hn)
  have C0 := hid (fun (W : World) => k_new K (n := n) (m := 1) (q := 0) (f := newA n) (new_now1 hn) hn rfl No W (no_lt W))
  have C1 := hid (fun (W : World) (Av : Nat → Prop) (hA : ∀ i, Av i → i < W.heap.size) => rNew_any n Av W hA)
  have HN0 := hid (new_now1 hn)
  rw [HN0.out, hn] at C1
  generalize newA n = A0 at C0 C1 HK0 HN0
  clear hn
  go_enter Try.func4, Try.ntmps4
  go_wp2_with fail
  refine (C0.out _).mono ?_
  rintro r w1 ⟨y, rfl, h0, b0⟩
  have HE := hid (Fl.mk (q_alloc b0 (.cells #[.int .i64 1, .slice y.p.o y.p.n y.p.c, .slice y.l.o y.l.n y.l.c] 25)) (be_at HN0.out 25 h0) b0.size)
  clear h0 b0
  go_wp2_with fail
  generalize w1.heap.size = B at HE ⊢
  generalize w1.alloc (.cells #[.int .i64 1, .slice y.p.o y.p.n y.p.c, .slice y.l.o y.l.n y.l.c] 25) = W at HE ⊢
  clear w1
  refine (num_any _ _).mono ?_
  rintro r w' ⟨rfl, hw⟩
  rw [hw]
  clear hw w'
  go_wp2_with fail
  refine (C1.out _ (fun i => False ∨ i = B) (av_lt HE.out.be.box).out).mono ?_
  rintro r w2 ⟨u, rfl, hu, b⟩
  replace HE := hid (HE.out.below b)
  have HR : Hid (Ru w (w2.alloc (.cells #[.int .i64 1, .slice u.p.o u.p.n u.p.c, .slice u.l.o u.l.n u.l.c] 25)) B w2.heap.size y u A0) := by
    have hb := alloc_below w2 (.cells #[.int .i64 1, .slice u.p.o u.p.n u.p.c, .slice u.l.o u.l.n u.l.c] 25)
    have hx : InE (w2.alloc (.cells #[.int .i64 1, .slice u.p.o u.p.n u.p.c, .slice u.l.o u.l.n u.l.c] 25)) w2.heap.size A0.now u := by rw [HN0.out]; exact inE_new w2 1 u 25
    refine ⟨q_trans HE.out.low hb, HE.out.be.box.below hb, hx, ?_, ?_, HE.out.b, HE.out.low.size, Nat.ne_of_lt HE.out.be.box.lt⟩
    · exact (HE.out.be.has.beside hb w2.heap.size (Nat.le_refl _)).less (fun i s => by rcases s with s | s; exact .inl (.inr s); exact .inr s)
    · exact (hu.beside hb w2.heap.size (Nat.le_refl _)).less (fun i s => by rcases s with s | s; exact .inl (.inr s); exact .inr s)
  clear hu b HE
  go_wp2_with fail
  generalize w2.heap.size = C at HR ⊢
  generalize w2.alloc (.cells #[.int .i64 1, .slice u.p.o u.p.n u.p.c, .slice u.l.o u.l.n u.l.c] 25) = W2 at HR ⊢
  clear w2 W
  go_loopw [9] (fun i wr => ∃ (j : Nat) (z u : WE) (f : E), j ≤ N ∧ i = .int .i64 j ∧ Hid (Ru w wr B C z u f) ∧ Hid (Ok f)) (fun i _ => N - (intOf i).toNat)
  case atStart => exact ⟨0, y, u, A0, Nat.zero_le _, rfl, HR, HK0⟩
  case round =>
    clear HR HK0 HN0 C0 C1
    obtain ⟨W0, rfl⟩ : ∃ W0, W0 = wr := ⟨_, rfl⟩
    obtain ⟨j, z, u, f, hj, rfl, HG, HO⟩ := hrel
    by_cases hlt : j < N
    · have i1 : (0 : Int) ≤ (j : Int) := by omega
      have i2 : (j : Int) < (N : Int) := by omega
      obtain ⟨la, rfl, hz⟩ := HC.out.at_ j hlt
      obtain ⟨a, ha⟩ : ∃ a, l.getD j Ac.zero = a := ⟨_, rfl⟩
      rw [ha] at hz
      have HBL := hid (World.block_lt_of_cell? w _ hz.1)
      have HZ := hid (atC_below hz HG.out.low)
      clear hz ha
      obtain ⟨m, hm⟩ : ∃ m, f.now = m := ⟨_, rfl⟩
      have HSm := hid (sm_ok HO.out)
      have CA := hid (fun (W' : World) (b : Below W0.heap.size W0 W') => does_off K z f a (Bc B C) W' (HG.out.below b).lt HSm (HG.out.e.below b))
      have CB := hid (fun (W' : World) (b : Below W0.heap.size W0 W') (hx : W0.heap.size < W'.heap.size) => does_off K z f a (fun i => Bc B C i ∨ i = W0.heap.size) W' (fun i s => by rcases s with s | s; exact (HG.out.below b).lt i s; exact s ▸ hx) HSm (HG.out.e.beside b W0.heap.size (Nat.le_refl _)))
      have DA := hid (fun (W1 W' : World) (h : Ru w W1 B C z u f) (b : Below W1.heap.size W1 W') => model_off u f a (Bc B C) W' (h.below b).lt HSm (h.m.below b))
      have DB := hid (fun (W1 W' : World) (h : Ru w W1 B C z u f) (b : Below W1.heap.size W1 W') (hx : W1.heap.size < W'.heap.size) => model_off u f a (fun i => Bc B C i ∨ i = W1.heap.size) W' (fun i s => by rcases s with s | s; exact (h.below b).lt i s; exact s ▸ hx) HSm (h.m.beside b W1.heap.size (Nat.le_refl _)))
      have HK2 := hid (do_ok a HO.out)
      have HLs := hid (do_short (sm_ok HO.out) (a := a)).out
      generalize doE f a = d at CA CB DA DB HK2
      generalize hdl : (doL f a).length = L at CA CB DA DB HLs
      generalize doL f a = dl at CA CB DA DB hdl
      generalize doN f a = q at CA CB DA DB
      have HDL := hid hdl
      clear hdl
      rw [hm] at CA CB DA DB
      obtain ⟨p0, p1, p2, pf⟩ := HG.out.eb
      rw [hm] at p0
      obtain ⟨t, ht⟩ : ∃ t, d.now = t := ⟨_, rfl⟩
      rw [ht] at CA CB DA DB
      have HBW : Hid (B < W0.heap.size ∧ C < W0.heap.size) := ⟨HG.out.eb.lt, HG.out.mb.lt⟩
      have HNC : Hid (B ≠ W0.heap.size ∧ (la.add (j * 3)).block ≠ W0.heap.size) := ⟨Nat.ne_of_lt HBW.out.1, Nat.ne_of_lt (Nat.lt_of_lt_of_le HBL.out HG.out.low.size)⟩
      obtain ⟨z0, z1, z2⟩ := HZ.out
      go_upto_region 10 with fail
      go_cut [10, 11, 12] from 48 to 57 (fun s8 s9 s10 wx => ∃ (b : Nat) (v : WE) (o : Option Addr) (cp : Nat), s8 = .pointer (some ⟨b, 0, none⟩) ∧ s9 = .slice o L cp ∧ s10 = .int .i64 q ∧ Hid (W0.heap.size ≤ b ∧ InE wx b t v ∧ HasE wx (Bc B C) v d ∧ Has wx o L cp dl ∧ Below W0.heap.size W0 wx))
      case first =>
        have hS : SX B m z (la.add (j * 3)) a W0 := ⟨⟨p0, p1, p2⟩, HZ.out⟩
        go_region_held3 (SX B m z (la.add (j * 3)) a) (first | with_reducible assumption | with_reducible exact HS3.out | with_reducible exact sx_alloc HS3.out | with_reducible exact sx_three HS3.out HNC.out | with_reducible exact sx_drew hS | with_reducible exact sx_alloc (sx_drew hS) | exact sx_alloc hS)
          (first
            | (go_at_call 11; refine (CB.out _ (by exact q_alloc (Below.refl _ W0).drew _) (by exact (inE_new W0.drew 0 WE.zero 25).lt)).mono ?_; rintro r w3 ⟨v, o3, c3, rfl, h3, hl3, b, of3⟩; have HO3 := hid h3; have HL3 := hid hl3; have HF3 := hid of3; have HB3 : Hid (Below W0.heap.size W0 w3) := (q_trans (q_alloc (Below.refl _ W0).drew _) b); have HS3 : Hid (SX B m z (la.add (j * 3)) a w3) := (sx_keep HB3.out hS); have HI3 : Hid (InE w3 W0.heap.size 0 WE.zero) := ((inE_new W0.drew 0 WE.zero 25).below b); obtain ⟨y0, y1, y2, yf⟩ := HI3.out; clear h3 hl3 of3)
            | (go_at_call 11; refine (CA.out _ (by exact (Below.refl _ W0).drew)).mono ?_; rintro r w3 ⟨v, o3, c3, rfl, h3, hl3, b, of3⟩; have HO3 := hid h3; have HL3 := hid hl3; have HF3 := hid of3; have HB3 : Hid (Below W0.heap.size W0 w3) := (q_trans (Below.refl _ W0).drew b); have HS3 : Hid (SX B m z (la.add (j * 3)) a w3) := (sx_keep HB3.out hS); clear h3 hl3 of3))
        all_goals (try go_wp2_with fail)
        all_goals go_meet
        all_goals first
          | exact ⟨_, v, o3, c3, rfl, rfl, rfl, HB3.out.size, inE_new w3 t v _, HO3.out.below (alloc_below _ _), HL3.out.below (alloc_below _ _), q_alloc HB3.out _⟩
          | exact ⟨_, v, o3, c3, rfl, rfl, rfl, Nat.le_refl _, HI3.out.store t v, fin_hasR HO3.out _ _ _, has_store HL3.out (fun a ea h0 s => HF3.out (by rw [len_vals]; exact h0) a ea (.inr s)) _ _ _, fin_lowR HB3.out (Nat.le_refl _) _ _ _⟩
      case rest =>
        obtain ⟨X, v, o3, c3, rfl, rfl, rfl, HX⟩ := hcut
        obtain ⟨W1, rfl⟩ : ∃ W1, W1 = wc := ⟨_, rfl⟩
        obtain ⟨hX1, hX2, hX3, hX4, hX5⟩ := HX.out
        have HG1 := hid (HG.out.below hX5)
        have HZ1 := hid (atC_below HZ.out hX5)
        have HX2 := hid hX2
        have HX3 := hid hX3
        have HX4 := hid hX4
        have HXn : Hid (X ≠ B ∧ X ≠ C) := ⟨Nat.ne_of_gt (Nat.lt_of_lt_of_le HBW.out.1 hX1), Nat.ne_of_gt (Nat.lt_of_lt_of_le HBW.out.2 hX1)⟩
        have HBW1 : Hid (B < W1.heap.size ∧ C < W1.heap.size) := ⟨HG1.out.eb.lt, HG1.out.mb.lt⟩
        have HNC1 : Hid (C ≠ W1.heap.size ∧ (la.add (j * 3)).block ≠ W1.heap.size) := ⟨Nat.ne_of_lt HBW1.out.2, Nat.ne_of_lt (Nat.lt_of_lt_of_le HBL.out HG1.out.low.size)⟩
        clear CA CB HX hX1 hX2 hX3 hX4 hX5 HG HZ HBW HNC p0 p1 p2 pf z0 z1 z2 W0
        obtain ⟨p0, p1, p2, pf⟩ := HG1.out.mb
        rw [hm] at p0
        obtain ⟨z0, z1, z2⟩ := HZ1.out
        go_upto_region 11 with fail
        go_cut [13, 14, 15] from 58 to 67 (fun s8 s9 s10 wx => ∃ (b : Nat) (v : WE) (o : Option Addr) (cp : Nat), s8 = .pointer (some ⟨b, 0, none⟩) ∧ s9 = .slice o L cp ∧ s10 = .int .i64 q ∧ Hid (W1.heap.size ≤ b ∧ InE wx b t v ∧ HasE wx (Bc B C) v d ∧ Has wx o L cp dl ∧ Below W1.heap.size W1 wx))
        case first =>
          have hS : SX C m u (la.add (j * 3)) a W1 := ⟨⟨p0, p1, p2⟩, HZ1.out⟩
          go_region_held3 (SX C m u (la.add (j * 3)) a) (first | with_reducible assumption | with_reducible exact HS3.out | with_reducible exact sx_alloc HS3.out | with_reducible exact sx_three HS3.out HNC1.out | with_reducible exact sx_drew hS | with_reducible exact sx_alloc (sx_drew hS) | exact sx_alloc hS)
            (first
              | (go_at_call 12; refine (DB.out W1 _ HG1.out (by exact q_alloc (Below.refl _ W1).drew _) (by exact (inE_new W1.drew 0 WE.zero 25).lt)).mono ?_; rintro r w3 ⟨v, o3, c3, rfl, h3, hl3, b, of3⟩; have HO3 := hid h3; have HL3 := hid hl3; have HF3 := hid of3; have HB3 : Hid (Below W1.heap.size W1 w3) := (q_trans (q_alloc (Below.refl _ W1).drew _) b); have HS3 : Hid (SX C m u (la.add (j * 3)) a w3) := (sx_keep HB3.out hS); have HI3 : Hid (InE w3 W1.heap.size 0 WE.zero) := ((inE_new W1.drew 0 WE.zero 25).below b); obtain ⟨y0, y1, y2, yf⟩ := HI3.out; clear h3 hl3 of3)
              | (go_at_call 12; refine (DA.out W1 _ HG1.out (by exact (Below.refl _ W1).drew)).mono ?_; rintro r w3 ⟨v, o3, c3, rfl, h3, hl3, b, of3⟩; have HO3 := hid h3; have HL3 := hid hl3; have HF3 := hid of3; have HB3 : Hid (Below W1.heap.size W1 w3) := (q_trans (Below.refl _ W1).drew b); have HS3 : Hid (SX C m u (la.add (j * 3)) a w3) := (sx_keep HB3.out hS); clear h3 hl3 of3))
          all_goals (try go_wp2_with fail)
          all_goals go_meet
          all_goals first
            | exact ⟨_, v, o3, c3, rfl, rfl, rfl, HB3.out.size, inE_new w3 t v _, HO3.out.below (alloc_below _ _), HL3.out.below (alloc_below _ _), q_alloc HB3.out _⟩
            | exact ⟨_, v, o3, c3, rfl, rfl, rfl, Nat.le_refl _, HI3.out.store t v, fin_hasR HO3.out _ _ _, has_store HL3.out (fun a ea h0 s => HF3.out (by rw [len_vals]; exact h0) a ea (.inr s)) _ _ _, fin_lowR HB3.out (Nat.le_refl _) _ _ _⟩
        case rest =>
          obtain ⟨Y, v2, o4, c4, rfl, rfl, rfl, HY⟩ := hcut
          obtain ⟨hY1, hY2, hY3, hY4, hY5⟩ := HY.out
          have HR := hid (Rx.mk (HG1.out.below hY5) (HX2.out.below hY5) hY2 (HX3.out.below hY5) hY3 (HX4.out.below hY5) hY4)
          have HYn : Hid (Y ≠ B ∧ Y ≠ C) := ⟨Nat.ne_of_gt (Nat.lt_of_lt_of_le HBW1.out.1 hY1), Nat.ne_of_gt (Nat.lt_of_lt_of_le HBW1.out.2 hY1)⟩
          have HSd : Hid (Sm d) := sm_ok HK2.out
          clear DA DB HX2 HX3 HX4 HY hY1 hY2 hY3 hY4 hY5 HG1 HZ1 HBW1 HNC1 p0 p1 p2 pf z0 z1 z2 W1
          have eq : (q != q) = false := by simp
          obtain ⟨x0, x1, x2, xf⟩ := HR.out.x
          obtain ⟨y0, y1, y2, yf⟩ := HR.out.y
          go_wp2_with fail
          refine (k_rsame (e := d) (f := d) (b := true) ht ht (same_iff.2 rfl) v v2 _ _ _ HSd HR.out.hv HR.out.hv2).mono ?_
          rintro r w3 ⟨rfl, b⟩
          replace HR := hid (HR.out.below b)
          clear b x0 x1 x2 xf y0 y1 y2 yf
          go_wp2_with fail
          refine (ints_yes _ _ _ _ _ dl _ (Nat.le_trans HLs.out (by decide)) HR.out.l3 HR.out.l4).mono ?_
          rintro r w4 ⟨rfl, b⟩
          replace HR := hid (HR.out.below b)
          clear b
          obtain ⟨x0, x1, x2, xf⟩ := HR.out.x
          go_wp2_with fail
          refine (k_check K (e := d) ht (ok_iff.2 HK2.out) v _ _ HSd HR.out.hv).mono ?_
          rintro r w5 ⟨rfl, b⟩
          replace HR := hid (HR.out.below b)
          clear b x0 x1 x2 xf
          obtain ⟨x0, x1, x2, xf⟩ := HR.out.x
          obtain ⟨y0, y1, y2, yf⟩ := HR.out.y
          obtain ⟨p0, p1, p2, pf⟩ := HR.out.r.eb
          obtain ⟨m0, m1, m2, mf⟩ := HR.out.r.mb
          have hne1 : B ≠ C := HR.out.r.ne
          have hne2 : C ≠ B := fun e => HR.out.r.ne e.symm
          go_wp2_with (first | (go_at_call 17; refine (num_any _ _).mono ?_; rintro r w8 ⟨rfl, hw⟩; rw [hw]; clear hw w8))
          have hS : S2 X Y t t v v2 w5 := ⟨⟨x0, x1, x2⟩, ⟨y0, y1, y2⟩⟩
          have HA1 := hid (s2_three (u := .int .i64 t) (v := .slice v.p.o v.p.n v.p.c) (x := .slice v.l.o v.l.n v.l.c) hS HXn.out.1 HYn.out.1)
          have HA2 := hid (s2_three (u := .int .i64 t) (v := .slice v2.p.o v2.p.n v2.p.c) (x := .slice v2.l.o v2.l.n v2.l.c) hS HXn.out.2 HYn.out.2)
          have HA3 := hid (s2_three (u := .int .i64 t) (v := .slice v2.p.o v2.p.n v2.p.c) (x := .slice v2.l.o v2.l.n v2.l.c) HA1.out HXn.out.2 HYn.out.2)
          have HA4 := hid (s2_three (u := .int .i64 t) (v := .slice v.p.o v.p.n v.p.c) (x := .slice v.l.o v.l.n v.l.c) HA2.out HXn.out.1 HYn.out.1)
          go_region_held3 (S2 X Y t t v v2) (first | with_reducible assumption | with_reducible exact s2_drew hS | with_reducible exact s2_drew HA1.out | with_reducible exact s2_drew HA2.out | with_reducible exact s2_drew HA3.out | with_reducible exact s2_drew HA4.out | with_reducible exact HA1.out | with_reducible exact HA2.out | with_reducible exact HA3.out | with_reducible exact HA4.out | fail) (fail)
          have HP := hid ((HR.out.r.put1 ht HR.out.hv HR.out.hv2).below (Below.refl _ _).drew)
          clear hS HA1 HA2 HA3 HA4 x0 x1 x2 xf y0 y1 y2 yf p0 p1 p2 pf m0 m1 m2 mf hne1 hne2
          go_wp2_with fail
          go_roundw
          case rel => exact ⟨j + 1, v, v2, d, by omega, by go_num, HP, HK2⟩
          case measure => simp [intOf]; omega
    · obtain rfl : j = N := by omega
      go_wp2_with fail
      refine (live_any K _).mono ?_
      rintro r w' ⟨rfl, bl⟩
      have HBl := hid (q_trans HG.out.low bl)
      clear bl
      go_wp2_with fail
      go_ret
      exact ⟨rfl, HBl.out⟩
set_option maxRecDepth 100000 in
set_option maxHeartbeats 1000000 in
/-- EPOCHRUNS IS TRUE. -/
theorem runs_any (K : Con) (n : Int) (ao : Option Addr) (l : List Ac) (N cap : Nat) (w : World) (hN : N ≤ 9223372036854775807) (HC : HasC w ao N l) :
    Calls Try.prog 4 #[.int .i64 n, .slice ao N cap] w fun r w' => r = .returned (.bool true) ∧ Below w.heap.size w w' := by
  by_cases h3 : N ≤ 120
  · by_cases hc : 1 ≤ n ∧ n ≤ 64
    · exact runs_in K n ao N cap l w hc.1 hc.2 h3 HC
    · have i3 : (N : Int) ≤ 120 := by omega
      by_cases h1 : 1 ≤ n
      · have h2 : 64 < n := by omega
        have hn : newE n = 2 := if_neg (fun h => hc h)
        have hm : (newA n).now = 0 := by unfold newA; rw [if_neg hc]
        have C0 := hid (fun (W : World) => k_new K (n := n) (m := 0) (q := 2) (f := newA n) hm hn rfl No W (no_lt W))
        generalize newA n = A0 at C0
        clear hn hm hc HC
        go_enter Try.func4, Try.ntmps4
        go_wp2_with fail
        refine (C0.out _).mono ?_
        rintro r w1 ⟨y, rfl, h0, b0⟩
        have HLo := hid (q_alloc b0 (.cells #[.int .i64 0, .slice y.p.o y.p.n y.p.c, .slice y.l.o y.l.n y.l.c] 25))
        clear h0 b0
        go_wp2_with (first | (go_at_call 17; refine (num_any _ _).mono ?_; rintro r w8 ⟨rfl, hw⟩; rw [hw]; clear hw w8))
        refine (live_any K _).mono ?_
        rintro r w' ⟨rfl, bl⟩
        have HBl := hid (q_trans HLo.out bl)
        clear bl
        go_wp2_with fail
        go_ret
        exact ⟨rfl, HBl.out⟩
      · have h2 : n < 1 := by omega
        have hn : newE n = 2 := if_neg (fun h => hc h)
        have hm : (newA n).now = 0 := by unfold newA; rw [if_neg hc]
        have C0 := hid (fun (W : World) => k_new K (n := n) (m := 0) (q := 2) (f := newA n) hm hn rfl No W (no_lt W))
        generalize newA n = A0 at C0
        clear hn hm hc HC
        go_enter Try.func4, Try.ntmps4
        go_wp2_with fail
        refine (C0.out _).mono ?_
        rintro r w1 ⟨y, rfl, h0, b0⟩
        have HLo := hid (q_alloc b0 (.cells #[.int .i64 0, .slice y.p.o y.p.n y.p.c, .slice y.l.o y.l.n y.l.c] 25))
        clear h0 b0
        go_wp2_with (first | (go_at_call 17; refine (num_any _ _).mono ?_; rintro r w8 ⟨rfl, hw⟩; rw [hw]; clear hw w8))
        refine (live_any K _).mono ?_
        rintro r w' ⟨rfl, bl⟩
        have HBl := hid (q_trans HLo.out bl)
        clear bl
        go_wp2_with fail
        go_ret
        exact ⟨rfl, HBl.out⟩
  · have i3 : (120 : Int) < (N : Int) := by omega
    clear h3
    go_enter Try.func4, Try.ntmps4
    go_wp2_with fail
    refine (live_any K _).mono ?_
    rintro r w' ⟨rfl, bl⟩
    have HBl := hid bl
    clear bl
    go_wp2_with fail
    go_ret
    exact ⟨rfl, HBl.out⟩
end Go.Proofs.Ytejghoncihdfkaa.Ep
