/- What num does, and live: the one run that every statement looks at. -/
import Derived.Test.YtnagpedkmfmniaaArNewW
import Derived.Test.YtnagpedkmfmniaaArRefer
import Derived.Test.YtnagpedkmfmniaaArStateW
import Derived.Test.YtnagpedkmfmniaaArSame
import Derived.Test.YtnagpedkmfmniaaArLive0
namespace Go.Proofs.Ytnagpedkmfmniaa.Ar
open Go.RowKit Go.Proofs.Ytnagpedkmfmniaa.Ha

/-- AN ARENA IN A BOX. -/
structure Bo (w : World) (b : Nat) (y : Wh) (a : Ar) : Prop where
  box : InA w b y
  has : HasO w y a
theorem Bo.below {w w' : World} {b : Nat} {y : Wh} {a : Ar} (h : Bo w b y a) (k : Below w.heap.size w w') : Bo w' b y a := ⟨h.box.below k, h.has.below k⟩
theorem bo_new {w : World} {y : Wh} {a : Ar} (h : HasO w y a) : Bo (w.alloc (.cells #[.slice y.t.o y.t.n y.t.c, .slice y.f.o y.f.n y.f.c] 25)) w.heap.size y a := ⟨inA_new w y _, h.below (alloc_below _ _)⟩
/-- The zero arena in a block. -/
def Zr (w : World) (c : Nat) : Prop := w.heap[c]? = some (.cells #[.slice none 0 0, .slice none 0 0] 25 (0, 0))
theorem zr_new (w : World) : Zr (w.alloc (.cells #[.slice none 0 0, .slice none 0 0] 25)) w.heap.size := heap_alloc_new w _
theorem zr_newd (w : World) : Zr (w.alloc (.cells #[.slice none 0 0, .slice none 0 0] 25)).drew w.heap.size := heap_alloc_new w _
theorem Zr.below {w w' : World} {c : Nat} (h : Zr w c) (b : Below w.heap.size w w') : Zr w' c := by
  unfold Zr at *
  rw [b.block _ (Array.getElem?_eq_some_iff.1 h).1]
  exact h
theorem Zr.inA {w : World} {c : Nat} (h : Zr w c) : InA w c Wh.zero := inA_heap (x := Wh.zero) h
theorem bo_put {w : World} {c : Nat} {y : Wh} {a : Ar} (h : HasO w y a) (hc : Zr w c) : Bo ((w.setCell ⟨c, 0, none⟩ (.slice y.t.o y.t.n y.t.c)).setCell ⟨c, 1, none⟩ (.slice y.f.o y.f.n y.f.c)) c y a := ⟨hc.inA.store y, h.box hc _ _⟩
theorem low_put {w W : World} {c : Nat} {u v : Value} (h : Below w.heap.size w W) (hc : w.heap.size ≤ c) : Below w.heap.size w ((W.setCell ⟨c, 0, none⟩ u).setCell ⟨c, 1, none⟩ v) := q_set (q_set h hc _) hc _
theorem sb_alloc {w : World} {b : Nat} {x : Wh} {o : Obj} (h : SB b x w) : SB b x (w.alloc o) := sb_keep (alloc_below _ _) h
theorem sb_two {w : World} {b c : Nat} {x : Wh} {u v : Value} (h : SB b x w) (hb : b ≠ c) : SB b x ((w.setCell ⟨c, 0, none⟩ u).setCell ⟨c, 1, none⟩ v) := sb_put (sb_put h hb) hb
theorem small_of {a : Ar} (h : Ok a) : Hid (Sm a) := sm_ok h
theorem take_lit (y : Wh) (a : Ar) (c : Int) (w : World) (HS : Hid (Sm a)) (HH : Hid (HasA w y a)) :
    Calls Try.prog 23 #[(.agg #[.slice y.t.o y.t.n y.t.c, .slice y.f.o y.f.n y.f.c]), .int .i64 c, .agg #[.int .i64 3, .int .i64 0, .int .i64 0, .int .i64 0, .int .i64 0, .int .i64 0, .int .i64 (-1), .int .i64 0]] w fun e w' => ∃ z : Wh, e = .returned (.tuple #[(.agg #[.slice z.t.o z.t.n z.t.c, .slice z.f.o z.f.n z.f.c]), .int .i64 (takeP a c frameT), .int .i64 (takeE a c frameT)]) ∧ HasO w' z (takeA a c frameT) ∧ Below w.heap.size w w' :=
  take_any y a c frameT w HS HH
/-- The four arenas that are looked at in the end. -/
structure Lv (w W : World) (c1 c3 cb cd : Nat) (y1 y3 yb yd : Wh) : Prop where
  low : Below w.heap.size w W
  b1 : Bo W c1 y1 L0
  b3 : Bo W c3 y3 L1
  bb : Bo W cb yb L3
  bd : Bo W cd yd L4
theorem Lv.below {w W W' : World} {c1 c3 cb cd : Nat} {y1 y3 yb yd : Wh} (h : Lv w W c1 c3 cb cd y1 y3 yb yd) (k : Below W.heap.size W W') : Lv w W' c1 c3 cb cd y1 y3 yb yd :=
  ⟨q_trans h.low k, h.b1.below k, h.b3.below k, h.bb.below k, h.bd.below k⟩
set_option maxRecDepth 100000 in
set_option maxHeartbeats 8000000 in
theorem live9_any (w : World) : Calls Try.prog 10 #[] w fun e w' => e = .returned (.bool true) ∧ Below w.heap.size w w' := by
  go_enter Try.func10, Try.ntmps10
  go_wp2_with fail
  refine (new_yes 3 2 w (by decide) (by decide) (by decide) (by decide)).mono ?_
  rintro e w1 ⟨y1, rfl, h1, b1⟩
  go_upto_region 2 with fail
  have H1 := hid (bo_new (a := L0) h1)
  have HB := hid (q_alloc b1 (.cells #[.slice y1.t.o y1.t.n y1.t.c, .slice y1.f.o y1.f.n y1.f.c] 25))
  clear h1 b1
  generalize hb : w1.heap.size = c1 at H1 ⊢
  generalize w1.alloc (.cells #[.slice y1.t.o y1.t.n y1.t.c, .slice y1.f.o y1.f.n y1.f.c] 25) = W at H1 HB ⊢
  clear hb
  have CT := hid (fun W' (b : Below W.heap.size W W') => take_lit y1 L0 0 W' (small_of l0) (H1.out.has.below b).has)
  rw [le1, lp1] at CT
  have CF := hid frame_any
  obtain ⟨p0, p1, pf⟩ := H1.out.box
  have hlt : c1 < W.heap.size := H1.out.box.lt
  go_cut [3, 4, 5] from 19 to 25 (fun s3 s4 s5 wx => ∃ (b : Nat) (y : Wh), s3 = .pointer (some ⟨b, 0, none⟩) ∧ s4 = .int .i64 0 ∧ s5 = .int .i64 0 ∧ Hid (Bo wx b y L1) ∧ Hid (Below W.heap.size W wx))
  case first =>
    have hS : SB c1 y1 W := ⟨p0, p1⟩
    go_region_held3 (SB c1 y1) (first | with_reducible assumption | with_reducible exact HS3.out | with_reducible exact sb_alloc HS3.out | with_reducible exact sb_two HS3.out HNC.out | with_reducible exact HS2.out | with_reducible exact sb_alloc HS2.out | with_reducible exact sb_drew hS | with_reducible exact sb_alloc (sb_drew hS) | exact sb_alloc hS)
      (first
        | (go_at_call 24; refine (CF.out _).mono ?_; rintro e w2 ⟨rfl, b⟩; have HB2 : Hid (Below W.heap.size W w2) := (by first | exact q_trans (Below.refl _ W).drew b | exact q_trans (q_alloc (Below.refl _ W).drew _) b); have HS2 : Hid (SB c1 y1 w2) := (sb_keep HB2.out hS); (try (have HZ2 : Hid (Zr w2 W.heap.size) := ((zr_newd W).below b))))
        | (go_at_call 23; refine (CT.out _ (by first | exact HB2.out | exact q_alloc HB2.out _)).mono ?_; rintro e w3 ⟨y3, rfl, h3, b⟩; have HO3 : Hid (HasO w3 y3 L1) := h3; have HB3 : Hid (Below w2.heap.size w2 w3) := (by first | exact b | exact q_trans (alloc_below _ _) b); have HS3 : Hid (SB c1 y1 w3) := (sb_keep HB3.out HS2.out); (try (first | (have HZ3 := hid (HZ2.out.below b); obtain ⟨z0, z1, zf⟩ := HZ3.out.inA; have HNC : Hid (c1 ≠ W.heap.size) := (Nat.ne_of_lt hlt)) | (have HZ4 : Hid (Zr w3 w2.heap.size) := ((zr_new w2).below b); obtain ⟨z0, z1, zf⟩ := HZ4.out.inA; have HNC : Hid (c1 ≠ w2.heap.size) := (Nat.ne_of_lt (Nat.lt_of_lt_of_le hlt HB2.out.size))))); clear h3))
    all_goals (try go_wp2_with fail)
    all_goals go_meet
    all_goals first
      | exact ⟨_, y3, rfl, rfl, rfl, bo_new HO3.out, q_alloc (q_trans HB2.out HB3.out) _⟩
      | exact ⟨_, y3, rfl, rfl, rfl, bo_put HO3.out HZ4.out, low_put (q_trans HB2.out HB3.out) HB2.out.size⟩
      | exact ⟨_, y3, rfl, rfl, rfl, bo_put HO3.out HZ3.out, low_put (q_trans HB2.out HB3.out) (Nat.le_refl _)⟩
  case rest =>
    obtain ⟨c3, y3, rfl, rfl, rfl, H3, HBc⟩ := hcut
    replace H1 := hid (H1.out.below HBc.out)
    replace HB := hid (q_trans HB.out HBc.out)
    clear p0 p1 pf hlt CT HBc
    have CT := hid (fun W' (b : Below wc.heap.size wc W') => take_lit y3 L1 5 W' (small_of l1) (H3.out.has.below b).has)
    rw [le5, lp5] at CT
    obtain ⟨p0, p1, pf⟩ := H3.out.box
    have hlt : c3 < wc.heap.size := H3.out.box.lt
    go_upto_region 3 with fail
    go_cut [6, 7, 8] from 26 to 32 (fun s6 s7 s8 wx => s8 = .int .i64 2 ∧ Hid (Below wc.heap.size wc wx))
    case first =>
      have hS : SB c3 y3 wc := ⟨p0, p1⟩
      go_region_held3 (SB c3 y3) (first | with_reducible assumption | with_reducible exact HS3.out | with_reducible exact sb_alloc HS3.out | with_reducible exact sb_two HS3.out HNC.out | with_reducible exact HS2.out | with_reducible exact sb_alloc HS2.out | with_reducible exact sb_drew hS | with_reducible exact sb_alloc (sb_drew hS) | exact sb_alloc hS)
        (first
          | (go_at_call 24; refine (CF.out _).mono ?_; rintro e w2 ⟨rfl, b⟩; have HB2 : Hid (Below wc.heap.size wc w2) := (by first | exact q_trans (Below.refl _ wc).drew b | exact q_trans (q_alloc (Below.refl _ wc).drew _) b); have HS2 : Hid (SB c3 y3 w2) := (sb_keep HB2.out hS); (try (have HZ2 : Hid (Zr w2 wc.heap.size) := ((zr_newd wc).below b))))
          | (go_at_call 23; refine (CT.out _ (by first | exact HB2.out | exact q_alloc HB2.out _)).mono ?_; rintro e w3 ⟨y4, rfl, h3, b⟩; have HB3 : Hid (Below w2.heap.size w2 w3) := (by first | exact b | exact q_trans (alloc_below _ _) b); have HS3 : Hid (SB c3 y3 w3) := (sb_keep HB3.out HS2.out); (try (first | (have HZ3 := hid (HZ2.out.below b); obtain ⟨z0, z1, zf⟩ := HZ3.out.inA; have HNC : Hid (c3 ≠ wc.heap.size) := (Nat.ne_of_lt hlt)) | (have HZ4 : Hid (Zr w3 w2.heap.size) := ((zr_new w2).below b); obtain ⟨z0, z1, zf⟩ := HZ4.out.inA; have HNC : Hid (c3 ≠ w2.heap.size) := (Nat.ne_of_lt (Nat.lt_of_lt_of_le hlt HB2.out.size))))); clear h3))
      all_goals (try go_wp2_with fail)
      all_goals go_meet
      all_goals first
        | exact ⟨rfl, q_alloc (q_trans HB2.out HB3.out) _⟩
        | exact ⟨rfl, low_put (q_trans HB2.out HB3.out) HB2.out.size⟩
        | exact ⟨rfl, low_put (q_trans HB2.out HB3.out) (Nat.le_refl _)⟩
    case rest =>
      obtain ⟨rfl, HBc⟩ := hcut
      replace H1 := hid (H1.out.below HBc.out)
      replace H3 := hid (H3.out.below HBc.out)
      replace HB := hid (q_trans HB.out HBc.out)
      clear p0 p1 pf hlt CT HBc CF
      obtain ⟨p0, p1, pf⟩ := H3.out.box
      go_wp2_with fail
      refine (refer_any y3 L1 0 (-1) _ (small_of l1) r1 H3.out.has.has).mono ?_
      rintro e w5 ⟨y9, rfl, h9, b5⟩
      rw [le2]
      replace H1 := hid (H1.out.below b5)
      replace H3 := hid (H3.out.below b5)
      replace HB := hid (q_trans HB.out b5)
      have H9 : Hid (HasO w5 y9 L2) := h9
      clear h9 b5 p0 p1 pf
      go_wp2_with fail
      refine (drop_any y9 L2 0 _ (small_of l2) (H9.out.below (alloc_below _ _)).has).mono ?_
      rintro e w6 ⟨yb, rfl, hb, b6⟩
      rw [le3]
      replace H1 := hid ((H1.out.below (alloc_below _ _)).below b6)
      replace H3 := hid ((H3.out.below (alloc_below _ _)).below b6)
      replace HB := hid (q_trans (q_alloc HB.out _) b6)
      have HB3 : Hid (HasO w6 yb L3) := hb
      clear hb b6 H9
      go_wp2_with fail
      refine (give_any yb L3 1 0 _ (small_of l3) (HB3.out.below (alloc_below _ _)).has).mono ?_
      rintro e w7 ⟨yd, rfl, hd, b7⟩
      rw [le4]
      have HO4 : Hid (HasO w7 yd L4) := hd
      have HL := hid ((⟨q_trans (q_alloc HB.out _) b7, (H1.out.below (alloc_below _ _)).below b7, (H3.out.below (alloc_below _ _)).below b7, (bo_new HB3.out).below b7⟩ : Below w.heap.size w w7 ∧ Bo w7 c1 y1 L0 ∧ Bo w7 c3 y3 L1 ∧ Bo w7 w6.heap.size yb L3))
      clear hd b7 H1 H3 HB HB3
      go_wp2_with fail
      have HV := hid ((⟨q_alloc HL.out.1 _, HL.out.2.1.below (alloc_below _ _), HL.out.2.2.1.below (alloc_below _ _), HL.out.2.2.2.below (alloc_below _ _), bo_new HO4.out⟩ : Lv w (w7.alloc (.cells #[.slice yd.t.o yd.t.n yd.t.c, .slice yd.f.o yd.f.n yd.f.c] 25)) c1 c3 w6.heap.size w7.heap.size y1 y3 yb yd))
      generalize w7.alloc (.cells #[.slice yd.t.o yd.t.n yd.t.c, .slice yd.f.o yd.f.n yd.f.c] 25) = V at HV ⊢
      generalize w7.heap.size = cd at HV ⊢
      generalize w6.heap.size = cb at HV ⊢
      clear HL HO4
      obtain ⟨⟨bo, bn, bc⟩, ⟨bfo, bfn, bfc⟩⟩ := yb
      have f1 : ((y1.f.n : Int) == 2) = true := by rw [HV.out.b1.has.has.fn, lf0]; rfl
      have bn3 : bn = 3 := (HV.out.bb.has.has.tn).trans ln3
      subst bn3
      obtain ⟨p0, p1, pf⟩ := HV.out.b1.box
      obtain ⟨q0, q1, qf⟩ := HV.out.b3.box
      refine (num_any 0 _).mono ?_
      rintro e w8 ⟨rfl, hw⟩; rw [hw]; clear hw w8
      go_wp2_with fail
      refine (num_any 0 _).mono ?_
      rintro e w8 ⟨rfl, hw⟩; rw [hw]; clear hw w8
      go_wp2_with fail
      refine (num_any 0 _).mono ?_
      rintro e w8 ⟨rfl, hw⟩; rw [hw]; clear hw w8
      go_wp2_with fail
      refine (num_any 0 _).mono ?_
      rintro e w8 ⟨rfl, hw⟩; rw [hw]; clear hw w8
      go_wp2_with fail
      refine (num_any 0 _).mono ?_
      rintro e w8 ⟨rfl, hw⟩; rw [hw]; clear hw w8
      go_wp2_with fail
      refine (num_any 2 _).mono ?_
      rintro e w8 ⟨rfl, hw⟩; rw [hw]; clear hw w8
      go_wp2_with fail
      refine (state_any y3 L1 0 _ l1 HV.out.b3.has.has).mono ?_
      rintro e v1 ⟨rfl, k1⟩
      rw [ls1, show stT 1 = ⟨#[108, 105, 118, 101]⟩ from rfl]
      replace HV := hid (HV.out.below k1)
      clear k1 p0 p1 pf q0 q1 qf f1
      obtain ⟨p0, p1, pf⟩ := HV.out.bb.box
      go_wp2_with fail
      refine (state_any ⟨⟨bo, 3, bc⟩, ⟨bfo, bfn, bfc⟩⟩ L3 0 _ l3 HV.out.bb.has.has).mono ?_
      rintro e v2 ⟨rfl, k1⟩
      rw [ls3, show stT 4 = ⟨#[108, 105, 109, 98, 111]⟩ from rfl]
      replace HV := hid (HV.out.below k1)
      clear k1 p0 p1 pf
      obtain ⟨p0, p1, pf⟩ := HV.out.bb.box
      obtain ⟨q0, q1, qf⟩ := HV.out.bd.box
      obtain ⟨ta, e, hAt⟩ := HV.out.bb.has.has.t.at_ 0 (by show 0 < 3; decide)
      have e : bo = some ta := e
      subst e
      have t1 := hAt.c1
      rw [lg3, show ta.add (0 * 8) = ta by simp [Addr.add]] at t1
      clear hAt
      go_wp2_with fail
      refine (state_any yd L4 0 _ l4 HV.out.bd.has.has).mono ?_
      rintro e v3 ⟨rfl, k1⟩
      rw [ls4, show stT 3 = ⟨#[102, 114, 101, 101]⟩ from rfl]
      replace HV := hid (HV.out.below k1)
      clear k1 p0 p1 pf q0 q1 qf t1
      obtain ⟨q0, q1, qf⟩ := HV.out.bd.box
      go_wp2_with fail
      refine (check_any yd L4 _ (small_of l4) HV.out.bd.has.has).mono ?_
      rintro e v4 ⟨rfl, k1⟩
      rw [lc4]
      replace HV := hid (HV.out.below k1)
      clear k1 q0 q1 qf
      obtain ⟨q0, q1, qf⟩ := HV.out.bd.box
      go_wp2_with fail
      refine (num_any 0 _).mono ?_
      rintro e w8 ⟨rfl, hw⟩; rw [hw]; clear hw w8
      go_wp2_with fail
      have HL4 : Hid (L4 = ⟨L3.ts, L4.fr⟩) := by rw [← lt4]; exact hid rfl
      refine (same_any yd yd L3.ts L4.fr L4.fr _ (by rw [← HL4.out]; exact small_of l4) (by rw [← HL4.out]; exact HV.out.bd.has.has) (by rw [← HL4.out]; exact HV.out.bd.has.has)).mono ?_
      rintro e v5 ⟨rfl, k1⟩
      rw [decide_eq_true (rfl : L4.fr = L4.fr)]
      replace HV := hid (HV.out.below k1)
      clear k1 q0 q1 qf
      obtain ⟨p0, p1, pf⟩ := HV.out.bb.box
      obtain ⟨q0, q1, qf⟩ := HV.out.bd.box
      go_wp2_with fail
      refine (same_any yd ⟨⟨some ta, 3, bc⟩, ⟨bfo, bfn, bfc⟩⟩ L3.ts L4.fr L3.fr _ (by rw [← HL4.out]; exact small_of l4) (by rw [← HL4.out]; exact HV.out.bd.has.has) HV.out.bb.has.has).mono ?_
      rintro e v6 ⟨rfl, k1⟩
      rw [decide_eq_false lf4]
      replace HV := hid (HV.out.below k1)
      clear k1 p0 p1 pf q0 q1 qf
      go_wp2_with fail
      go_ret
      exact ⟨rfl, HV.out.low⟩
end Go.Proofs.Ytnagpedkmfmniaa.Ar
