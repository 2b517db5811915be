/- What does does. -/
import Derived.Test.YtnagpedkmfmniaaArLive
namespace Go.Proofs.Ytnagpedkmfmniaa.Ar
open Go.RowKit Go.Proofs.Ytnagpedkmfmniaa.Ha

/-- The twelve cells of what is done. -/
structure InC (w : World) (b : Nat) (x : Ac) : Prop where
  k : w.cell? ⟨b, 0, none⟩ = some (.int .i64 x.kind)
  c : w.cell? ⟨b, 1, none⟩ = some (.int .i64 x.core)
  o : w.cell? ⟨b, 2, none⟩ = some (.int .i64 x.obj)
  y : w.cell? ⟨b, 3, none⟩ = some (.int .i64 x.by_)
  c0 : w.cell? ⟨b, 4, none⟩ = some (.int .i64 x.t.ty)
  c1 : w.cell? ⟨b, 5, none⟩ = some (.int .i64 x.t.gen)
  c2 : w.cell? ⟨b, 6, none⟩ = some (.int .i64 x.t.refs)
  c3 : w.cell? ⟨b, 7, none⟩ = some (.int .i64 x.t.st)
  c4 : w.cell? ⟨b, 8, none⟩ = some (.int .i64 x.t.sz)
  c5 : w.cell? ⟨b, 9, none⟩ = some (.int .i64 x.t.wa)
  c6 : w.cell? ⟨b, 10, none⟩ = some (.int .i64 x.t.fm)
  c7 : w.cell? ⟨b, 11, none⟩ = some (.int .i64 x.t.va)
theorem InC.below {w w' : World} {b : Nat} {x : Ac} (h : InC w b x) (hb : Below w.heap.size w w') : InC w' b x := by
  have k := fun {p : Addr} {v : Value} (hc : w.cell? p = some v) => (kept_below (S := fun _ => False) hb).cell hc (fun e => e)
  exact ⟨k h.k, k h.c, k h.o, k h.y, k h.c0, k h.c1, k h.c2, k h.c3, k h.c4, k h.c5, k h.c6, k h.c7⟩
/-- Behind the door: the boxes. -/
structure Dk (w W : World) (x : Wh) (z : Ac) : Prop where
  low : Below w.heap.size w W
  box : InA W w.heap.size x
  act : InC W (w.heap.size + 1) z
  res : InA W (w.heap.size + 2) Wh.zero
  zr : Zr W (w.heap.size + 2)
theorem Dk.below {w W W' : World} {x : Wh} {z : Ac} (h : Dk w W x z) (b : Below W.heap.size W W') : Dk w W' x z := ⟨q_trans h.low b, h.box.below b, h.act.below b, h.res.below b, h.zr.below b⟩
theorem inC_new (w : World) (z : Ac) (T : TypeId) : InC (w.alloc (.cells #[.int .i64 z.kind, .int .i64 z.core, .int .i64 z.obj, .int .i64 z.by_, .int .i64 z.t.ty, .int .i64 z.t.gen, .int .i64 z.t.refs, .int .i64 z.t.st, .int .i64 z.t.sz, .int .i64 z.t.wa, .int .i64 z.t.fm, .int .i64 z.t.va] T)) w.heap.size z := by constructor <;> simp
theorem dk_new (w : World) (x : Wh) (z : Ac) : Dk w (((w.alloc (.cells #[.slice x.t.o x.t.n x.t.c, .slice x.f.o x.f.n x.f.c] 25)).alloc (.cells #[.int .i64 z.kind, .int .i64 z.core, .int .i64 z.obj, .int .i64 z.by_, .int .i64 z.t.ty, .int .i64 z.t.gen, .int .i64 z.t.refs, .int .i64 z.t.st, .int .i64 z.t.sz, .int .i64 z.t.wa, .int .i64 z.t.fm, .int .i64 z.t.va] 42)).alloc (.cells #[.slice none 0 0, .slice none 0 0] 25)) x z := by
  have e : ((w.alloc (.cells #[.slice x.t.o x.t.n x.t.c, .slice x.f.o x.f.n x.f.c] 25)).alloc (.cells #[.int .i64 z.kind, .int .i64 z.core, .int .i64 z.obj, .int .i64 z.by_, .int .i64 z.t.ty, .int .i64 z.t.gen, .int .i64 z.t.refs, .int .i64 z.t.st, .int .i64 z.t.sz, .int .i64 z.t.wa, .int .i64 z.t.fm, .int .i64 z.t.va] 42)).heap.size = w.heap.size + 2 := by simp
  have hz := zr_new ((w.alloc (.cells #[.slice x.t.o x.t.n x.t.c, .slice x.f.o x.f.n x.f.c] 25)).alloc (.cells #[.int .i64 z.kind, .int .i64 z.core, .int .i64 z.obj, .int .i64 z.by_, .int .i64 z.t.ty, .int .i64 z.t.gen, .int .i64 z.t.refs, .int .i64 z.t.st, .int .i64 z.t.sz, .int .i64 z.t.wa, .int .i64 z.t.fm, .int .i64 z.t.va] 42))
  rw [e] at hz
  refine ⟨q_alloc (q_alloc (alloc_below w _) _) _, ((inA_new w x _).below (alloc_below _ _)).below (alloc_below _ _), ?_, hz.inA, hz⟩
  have h := inC_new (w.alloc (.cells #[.slice x.t.o x.t.n x.t.c, .slice x.f.o x.f.n x.f.c] 25)) z 42
  rw [show (w.alloc (.cells #[.slice x.t.o x.t.n x.t.c, .slice x.f.o x.f.n x.f.c] 25)).heap.size = w.heap.size + 1 by simp] at h
  exact h.below (alloc_below _ _)
theorem do_take {a : Ar} {z : Ac} (h : z.kind = 0) : doE a z = takeE a z.core z.t ∧ doP a z = takeP a z.core z.t ∧ doA a z = takeA a z.core z.t := ⟨if_pos h, if_pos h, if_pos h⟩
theorem do_drop {a : Ar} {z : Ac} (h0 : ¬ z.kind = 0) (h : z.kind = 1) : doE a z = dropE a z.obj ∧ doP a z = 0 ∧ doA a z = dropA a z.obj := ⟨(if_neg h0).trans (if_pos h), if_neg h0, (if_neg h0).trans (if_pos h)⟩
theorem do_give {a : Ar} {z : Ac} (h0 : ¬ z.kind = 0) (h1 : ¬ z.kind = 1) (h : z.kind = 2) : doE a z = giveE a z.core z.obj ∧ doP a z = 0 ∧ doA a z = giveA a z.core z.obj := ⟨(if_neg h0).trans ((if_neg h1).trans (if_pos h)), if_neg h0, (if_neg h0).trans ((if_neg h1).trans (if_pos h))⟩
theorem do_ref {a : Ar} {z : Ac} (h0 : ¬ z.kind = 0) (h1 : ¬ z.kind = 1) (h : ¬ z.kind = 2) : doE a z = refE a z.obj z.by_ ∧ doP a z = 0 ∧ doA a z = refA a z.obj z.by_ := ⟨(if_neg h0).trans ((if_neg h1).trans (if_neg h)), if_neg h0, (if_neg h0).trans ((if_neg h1).trans (if_neg h))⟩
set_option maxRecDepth 100000 in
set_option maxHeartbeats 4000000 in
/-- WHAT IS DONE BY THE PROGRAM. -/
theorem does_any (x : Wh) (a : Ar) (z : Ac) (w : World) (HS : Hid (Sm a)) (HRB : Hid (RefB a 1000000000000)) (HH : Hid (HasA w x a)) :
    Calls Try.prog 21 #[(.agg #[.slice x.t.o x.t.n x.t.c, .slice x.f.o x.f.n x.f.c]), (.agg #[.int .i64 z.kind, .int .i64 z.core, .int .i64 z.obj, .int .i64 z.by_, .int .i64 z.t.ty, .int .i64 z.t.gen, .int .i64 z.t.refs, .int .i64 z.t.st, .int .i64 z.t.sz, .int .i64 z.t.wa, .int .i64 z.t.fm, .int .i64 z.t.va])] w fun e w' => ∃ y : Wh, e = .returned (.tuple #[(.agg #[.slice y.t.o y.t.n y.t.c, .slice y.f.o y.f.n y.f.c]), .int .i64 (doP a z), .int .i64 (doE a z)]) ∧ HasO w' y (doA a z) ∧ Below w.heap.size w w' := by
  by_cases h0 : z.kind = 0
  · obtain ⟨g1, g2, g3⟩ := do_take (a := a) h0
    rw [g1, g2, g3]
    have e0 := beq_of h0
    clear h0
    clear g1 g2 g3
    have HD := hid (dk_new w x z)
    go_enter Try.func21, Try.ntmps21
    go_wp2_with fail
    generalize ((w.alloc (.cells #[.slice x.t.o x.t.n x.t.c, .slice x.f.o x.f.n x.f.c] 25)).alloc (.cells #[.int .i64 z.kind, .int .i64 z.core, .int .i64 z.obj, .int .i64 z.by_, .int .i64 z.t.ty, .int .i64 z.t.gen, .int .i64 z.t.refs, .int .i64 z.t.st, .int .i64 z.t.sz, .int .i64 z.t.wa, .int .i64 z.t.fm, .int .i64 z.t.va] 42)).alloc (.cells #[.slice none 0 0, .slice none 0 0] 25) = V at HD ⊢
    refine (take_any x a z.core z.t _ HS (HH.out.below HD.out.low)).mono ?_
    rintro e w2 ⟨y, rfl, hy, b2⟩
    replace HD := hid (HD.out.below b2)
    have HY := hid hy
    clear hy b2
    have HNC : Hid (w2.heap.size ≠ w.heap.size + 1 + 1) := Nat.ne_of_gt HD.out.res.lt
    go_upto_region 4 with fail
    replace HD := hid (HD.out.below (alloc_below _ (.cells #[.slice y.t.o y.t.n y.t.c, .slice y.f.o y.f.n y.f.c] 25)))
    have HBo := hid (bo_new HY.out)
    generalize hb : w2.heap.size = c at HBo HNC ⊢
    generalize w2.alloc (.cells #[.slice y.t.o y.t.n y.t.c, .slice y.f.o y.f.n y.f.c] 25) = W at HBo HD ⊢
    clear hb HY
    obtain ⟨p0, p1, pf⟩ := HBo.out.box
    obtain ⟨r0, r1, rf⟩ := HD.out.res
    have hS : SB c y W := ⟨p0, p1⟩
    go_region_held3 (SB c y) (first | with_reducible assumption | with_reducible exact sb_drew hS | with_reducible exact sb_two hS HNC.out | with_reducible exact sb_drew (sb_two hS HNC.out))
      (first
        | (go_at_call 14; refine (num_any _ _).mono ?_; rintro e w8 ⟨rfl, hw⟩; rw [hw]; clear hw))
    have HF := hid ((HBo.out.has.box HD.out.zr (.slice y.t.o y.t.n y.t.c) (.slice y.f.o y.f.n y.f.c)).below (Below.refl _ _).drew)
    have HL := hid ((low_put (u := .slice y.t.o y.t.n y.t.c) (v := .slice y.f.o y.f.n y.f.c) HD.out.low (by omega : w.heap.size ≤ w.heap.size + 2)).drew)
    clear HBo HNC
    go_wp2_with fail
    refine bodyPost_ret (v := .tuple #[(.agg #[.slice y.t.o y.t.n y.t.c, .slice y.f.o y.f.n y.f.c]), .int .i64 (takeP a z.core z.t), .int .i64 (takeE a z.core z.t)]) (by simp [results, Try.results21, go_sem, r0, r1]) rfl ⟨y, rfl, HF.out, HL.out⟩
  · by_cases h1 : z.kind = 1
    · obtain ⟨g1, g2, g3⟩ := do_drop (a := a) h0 h1
      rw [g1, g2, g3]
      have e0 := bne_of h0
      have e1 := beq_of h1
      clear h0 h1
      clear g1 g2 g3
      have HD := hid (dk_new w x z)
      go_enter Try.func21, Try.ntmps21
      go_wp2_with fail
      generalize ((w.alloc (.cells #[.slice x.t.o x.t.n x.t.c, .slice x.f.o x.f.n x.f.c] 25)).alloc (.cells #[.int .i64 z.kind, .int .i64 z.core, .int .i64 z.obj, .int .i64 z.by_, .int .i64 z.t.ty, .int .i64 z.t.gen, .int .i64 z.t.refs, .int .i64 z.t.st, .int .i64 z.t.sz, .int .i64 z.t.wa, .int .i64 z.t.fm, .int .i64 z.t.va] 42)).alloc (.cells #[.slice none 0 0, .slice none 0 0] 25) = V at HD ⊢
      refine (drop_any x a z.obj _ HS (HH.out.below HD.out.low)).mono ?_
      rintro e w2 ⟨y, rfl, hy, b2⟩
      replace HD := hid (HD.out.below b2)
      have HY := hid hy
      clear hy b2
      have HNC : Hid (w2.heap.size ≠ w.heap.size + 1 + 1) := Nat.ne_of_gt HD.out.res.lt
      go_upto_region 7 with fail
      replace HD := hid (HD.out.below (alloc_below _ (.cells #[.slice y.t.o y.t.n y.t.c, .slice y.f.o y.f.n y.f.c] 25)))
      have HBo := hid (bo_new HY.out)
      generalize hb : w2.heap.size = c at HBo HNC ⊢
      generalize w2.alloc (.cells #[.slice y.t.o y.t.n y.t.c, .slice y.f.o y.f.n y.f.c] 25) = W at HBo HD ⊢
      clear hb HY
      obtain ⟨p0, p1, pf⟩ := HBo.out.box
      obtain ⟨r0, r1, rf⟩ := HD.out.res
      have hS : SB c y W := ⟨p0, p1⟩
      go_region_held3 (SB c y) (first | with_reducible assumption | with_reducible exact sb_drew hS | with_reducible exact sb_two hS HNC.out | with_reducible exact sb_drew (sb_two hS HNC.out))
        (first
          | (go_at_call 14; refine (num_any _ _).mono ?_; rintro e w8 ⟨rfl, hw⟩; rw [hw]; clear hw))
      have HF := hid ((HBo.out.has.box HD.out.zr (.slice y.t.o y.t.n y.t.c) (.slice y.f.o y.f.n y.f.c)).below (Below.refl _ _).drew)
      have HL := hid ((low_put (u := .slice y.t.o y.t.n y.t.c) (v := .slice y.f.o y.f.n y.f.c) HD.out.low (by omega : w.heap.size ≤ w.heap.size + 2)).drew)
      clear HBo HNC
      go_wp2_with fail
      refine bodyPost_ret (v := .tuple #[(.agg #[.slice y.t.o y.t.n y.t.c, .slice y.f.o y.f.n y.f.c]), .int .i64 0, .int .i64 (dropE a z.obj)]) (by simp [results, Try.results21, go_sem, r0, r1]) rfl ⟨y, rfl, HF.out, HL.out⟩
    · by_cases h2 : z.kind = 2
      · obtain ⟨g1, g2, g3⟩ := do_give (a := a) h0 h1 h2
        rw [g1, g2, g3]
        have e0 := bne_of h0
        have e1 := bne_of h1
        have e2 := beq_of h2
        clear h0 h1 h2
        clear g1 g2 g3
        have HD := hid (dk_new w x z)
        go_enter Try.func21, Try.ntmps21
        go_wp2_with fail
        generalize ((w.alloc (.cells #[.slice x.t.o x.t.n x.t.c, .slice x.f.o x.f.n x.f.c] 25)).alloc (.cells #[.int .i64 z.kind, .int .i64 z.core, .int .i64 z.obj, .int .i64 z.by_, .int .i64 z.t.ty, .int .i64 z.t.gen, .int .i64 z.t.refs, .int .i64 z.t.st, .int .i64 z.t.sz, .int .i64 z.t.wa, .int .i64 z.t.fm, .int .i64 z.t.va] 42)).alloc (.cells #[.slice none 0 0, .slice none 0 0] 25) = V at HD ⊢
        refine (give_any x a z.core z.obj _ HS (HH.out.below HD.out.low)).mono ?_
        rintro e w2 ⟨y, rfl, hy, b2⟩
        replace HD := hid (HD.out.below b2)
        have HY := hid hy
        clear hy b2
        have HNC : Hid (w2.heap.size ≠ w.heap.size + 1 + 1) := Nat.ne_of_gt HD.out.res.lt
        go_upto_region 10 with fail
        replace HD := hid (HD.out.below (alloc_below _ (.cells #[.slice y.t.o y.t.n y.t.c, .slice y.f.o y.f.n y.f.c] 25)))
        have HBo := hid (bo_new HY.out)
        generalize hb : w2.heap.size = c at HBo HNC ⊢
        generalize w2.alloc (.cells #[.slice y.t.o y.t.n y.t.c, .slice y.f.o y.f.n y.f.c] 25) = W at HBo HD ⊢
        clear hb HY
        obtain ⟨p0, p1, pf⟩ := HBo.out.box
        obtain ⟨r0, r1, rf⟩ := HD.out.res
        have hS : SB c y W := ⟨p0, p1⟩
        go_region_held3 (SB c y) (first | with_reducible assumption | with_reducible exact sb_drew hS | with_reducible exact sb_two hS HNC.out | with_reducible exact sb_drew (sb_two hS HNC.out))
          (first
            | (go_at_call 14; refine (num_any _ _).mono ?_; rintro e w8 ⟨rfl, hw⟩; rw [hw]; clear hw))
        have HF := hid ((HBo.out.has.box HD.out.zr (.slice y.t.o y.t.n y.t.c) (.slice y.f.o y.f.n y.f.c)).below (Below.refl _ _).drew)
        have HL := hid ((low_put (u := .slice y.t.o y.t.n y.t.c) (v := .slice y.f.o y.f.n y.f.c) HD.out.low (by omega : w.heap.size ≤ w.heap.size + 2)).drew)
        clear HBo HNC
        go_wp2_with fail
        refine bodyPost_ret (v := .tuple #[(.agg #[.slice y.t.o y.t.n y.t.c, .slice y.f.o y.f.n y.f.c]), .int .i64 0, .int .i64 (giveE a z.core z.obj)]) (by simp [results, Try.results21, go_sem, r0, r1]) rfl ⟨y, rfl, HF.out, HL.out⟩
      · obtain ⟨g1, g2, g3⟩ := do_ref (a := a) h0 h1 h2
        rw [g1, g2, g3]
        have e0 := bne_of h0
        have e1 := bne_of h1
        have e2 := bne_of h2
        clear h0 h1 h2
        clear g1 g2 g3
        have HD := hid (dk_new w x z)
        go_enter Try.func21, Try.ntmps21
        go_wp2_with fail
        generalize ((w.alloc (.cells #[.slice x.t.o x.t.n x.t.c, .slice x.f.o x.f.n x.f.c] 25)).alloc (.cells #[.int .i64 z.kind, .int .i64 z.core, .int .i64 z.obj, .int .i64 z.by_, .int .i64 z.t.ty, .int .i64 z.t.gen, .int .i64 z.t.refs, .int .i64 z.t.st, .int .i64 z.t.sz, .int .i64 z.t.wa, .int .i64 z.t.fm, .int .i64 z.t.va] 42)).alloc (.cells #[.slice none 0 0, .slice none 0 0] 25) = V at HD ⊢
        refine (refer_any x a z.obj z.by_ _ HS HRB (HH.out.below HD.out.low)).mono ?_
        rintro e w2 ⟨y, rfl, hy, b2⟩
        replace HD := hid (HD.out.below b2)
        have HY := hid hy
        clear hy b2
        have HNC : Hid (w2.heap.size ≠ w.heap.size + 1 + 1) := Nat.ne_of_gt HD.out.res.lt
        go_upto_region 12 with fail
        replace HD := hid (HD.out.below (alloc_below _ (.cells #[.slice y.t.o y.t.n y.t.c, .slice y.f.o y.f.n y.f.c] 25)))
        have HBo := hid (bo_new HY.out)
        generalize hb : w2.heap.size = c at HBo HNC ⊢
        generalize w2.alloc (.cells #[.slice y.t.o y.t.n y.t.c, .slice y.f.o y.f.n y.f.c] 25) = W at HBo HD ⊢
        clear hb HY
        obtain ⟨p0, p1, pf⟩ := HBo.out.box
        obtain ⟨r0, r1, rf⟩ := HD.out.res
        have hS : SB c y W := ⟨p0, p1⟩
        go_region_held3 (SB c y) (first | with_reducible assumption | with_reducible exact sb_drew hS | with_reducible exact sb_two hS HNC.out | with_reducible exact sb_drew (sb_two hS HNC.out))
          (first
            | (go_at_call 14; refine (num_any _ _).mono ?_; rintro e w8 ⟨rfl, hw⟩; rw [hw]; clear hw))
        have HF := hid ((HBo.out.has.box HD.out.zr (.slice y.t.o y.t.n y.t.c) (.slice y.f.o y.f.n y.f.c)).below (Below.refl _ _).drew)
        have HL := hid ((low_put (u := .slice y.t.o y.t.n y.t.c) (v := .slice y.f.o y.f.n y.f.c) HD.out.low (by omega : w.heap.size ≤ w.heap.size + 2)).drew)
        clear HBo HNC
        go_wp2_with fail
        refine bodyPost_ret (v := .tuple #[(.agg #[.slice y.t.o y.t.n y.t.c, .slice y.f.o y.f.n y.f.c]), .int .i64 0, .int .i64 (refE a z.obj z.by_)]) (by simp [results, Try.results21, go_sem, r0, r1]) rfl ⟨y, rfl, HF.out, HL.out⟩
end Go.Proofs.Ytnagpedkmfmniaa.Ar
