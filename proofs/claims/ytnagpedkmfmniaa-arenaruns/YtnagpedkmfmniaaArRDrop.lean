/- What the document's Drop and Refer do. -/
import Derived.Test.YtnagpedkmfmniaaArRPl
import Derived.Test.YtnagpedkmfmniaaArRSet
import Derived.Test.YtnagpedkmfmniaaArLive
import Derived.Test.YtnagpedkmfmniaaArRefer
namespace Go.Proofs.Ytnagpedkmfmniaa.Ar
open Go.RowKit Go.Proofs.Ytnagpedkmfmniaa.Ha

theorem HasV.more {w V : World} {Av P : Nat → Prop} {x : Wh} {a : Ar} (h : HasV w Av x a) (b : Below w.heap.size w V) (hP : ∀ k, P k → w.heap.size ≤ k) : HasV V (fun k => Av k ∨ P k) x a := by
  obtain ⟨hs, h⟩ := h
  have mk : ∀ {ao : Option Addr} {cs : List Value}, Row w ao cs → Off Av ao cs → Off (fun k => Av k ∨ P k) ao cs := fun hr ho h0 a e s => s.elim (ho h0 a e) (off_row hr hP h0 a e)
  exact ⟨hs, h.t.below b, h.f.below b, mk h.t.row h.ot, mk h.f.row h.of, fun i hi => mk (h.f.each i hi).row (h.oe i hi)⟩
theorem HasV.mono {w : World} {Av Av' : Nat → Prop} {x : Wh} {a : Ar} (h : HasV w Av x a) (hA : ∀ k, Av' k → Av k) : HasV w Av' x a := by
  obtain ⟨hs, h⟩ := h
  have mk : ∀ {ao : Option Addr} {cs : List Value}, Off Av ao cs → Off Av' ao cs := fun ho h0 a e s => ho h0 a e (hA _ s)
  exact ⟨hs, h.t, h.f, mk h.ot, mk h.of, fun i hi => mk (h.oe i hi)⟩
/-- The box of what was handed in, and the answer's (in the block r). -/
structure Dw (w W : World) (x : Wh) (r : Nat) : Prop where
  low : Below w.heap.size w W
  box : InA W w.heap.size x
  zr : Zr W r
  hr : w.heap.size < r
theorem Dw.below {w W W' : World} {x : Wh} {r : Nat} (h : Dw w W x r) (b : Below W.heap.size W W') : Dw w W' x r := ⟨q_trans h.low b, h.box.below b, h.zr.below b, h.hr⟩
theorem dw_new (w : World) (x : Wh) : Dw w ((w.alloc (.cells #[.slice x.t.o x.t.n x.t.c, .slice x.f.o x.f.n x.f.c] 25)).alloc (.cells #[.slice none 0 0, .slice none 0 0] 25)) x (w.heap.size + 1) := by
  have h := do_new w x
  have hz := zr_new (w.alloc (.cells #[.slice x.t.o x.t.n x.t.c, .slice x.f.o x.f.n x.f.c] 25))
  rw [show (w.alloc (.cells #[.slice x.t.o x.t.n x.t.c, .slice x.f.o x.f.n x.f.c] 25)).heap.size = w.heap.size + 1 by simp] at hz
  exact ⟨h.low, h.box, hz, by omega⟩
/-- Behind the last store: what was handed in is answered. -/
theorem rs_keep {w W : World} {x : Wh} {r : Nat} {Av : Nat → Prop} {a : Ar} (hd : Dw w W x r) (hv : HasV w Av x a) : Rs w ((W.setCell ⟨r, 0, none⟩ (.slice x.t.o x.t.n x.t.c)).setCell ⟨r, 1, none⟩ (.slice x.f.o x.f.n x.f.c)) Av x x a a := by
  have lo : Below w.heap.size w ((W.setCell ⟨r, 0, none⟩ (.slice x.t.o x.t.n x.t.c)).setCell ⟨r, 1, none⟩ (.slice x.f.o x.f.n x.f.c)) := low_put hd.low (Nat.le_of_lt hd.hr)
  exact ⟨hv.below lo, fun h => h.below lo, lo⟩
/-- Behind the last store: what a call within has answered. -/
theorem rs_end {w W w3 : World} {x y : Wh} {r : Nat} {Av : Nat → Prop} {a a' : Ar} (hd : Dw w w3 x r) (hb : Below w.heap.size w W) (hr : Rs W w3 (fun k => Av k ∨ k = r) x y a a') : Rs w ((w3.setCell ⟨r, 0, none⟩ (.slice y.t.o y.t.n y.t.c)).setCell ⟨r, 1, none⟩ (.slice y.f.o y.f.n y.f.c)) Av x y a a' :=
  ⟨(hr.has.kept (kept_two w3 r _ _) (fun _ e => .inr e)).mono (fun _ e => .inl e), fun h => (hr.o (h.below hb)).box hd.zr _ _, low_put hd.low (Nat.le_of_lt hd.hr)⟩
theorem s3_two {w : World} {a1 a2 a3 : Addr} {u v z y y' : Value} {g : Nat} (h : S3 a1 a2 a3 u v z w) (hk : a1.block ≠ g ∧ a2.block ≠ g ∧ a3.block ≠ g) : S3 a1 a2 a3 u v z ((w.setCell ⟨g, 0, none⟩ y).setCell ⟨g, 1, none⟩ y') := s3_put (s3_put h hk) hk
set_option maxRecDepth 100000 in
set_option maxHeartbeats 4000000 in
/-- THE DOCUMENT's Drop. -/
theorem rdrop_any (Av : Nat → Prop) (x : Wh) (a : Ar) (p : Int) (w : World) (HS : Hid (Sm a)) (HV : Hid (HasV w Av x a)) (HAV : Hid (∀ k, Av k → k < w.heap.size)) :
    Calls Try.prog 44 #[(.agg #[.slice x.t.o x.t.n x.t.c, .slice x.f.o x.f.n x.f.c]), .int .i64 p] w fun e w' => ∃ y : Wh, e = .returned (.tuple #[(.agg #[.slice y.t.o y.t.n y.t.c, .slice y.f.o y.f.n y.f.c]), .int .i64 (dropE a p)]) ∧ Rs w w' Av x y a (dropA a p) := by
  have HH := hid HV.out.has
  obtain ⟨⟨xo, tn, tc⟩, ⟨fo, fn, fc⟩⟩ := x
  have HTN : Hid (tn = a.ts.length) := HH.out.tn
  have HD := hid (dw_new w ⟨⟨xo, tn, tc⟩, ⟨fo, fn, fc⟩⟩)
  dsimp only at HD
  go_enter Try.func44, Try.ntmps44
  go_wp2_with fail
  generalize (w.alloc (.cells #[.slice xo tn tc, .slice fo fn fc] 25)).alloc (.cells #[.slice none 0 0, .slice none 0 0] 25) = V at HD ⊢
  refine (rplace_any ⟨⟨xo, tn, tc⟩, ⟨fo, fn, fc⟩⟩ a p V HS (HH.out.below HD.out.low)).mono ?_
  rintro e w2 ⟨rfl, b2⟩
  replace HD := hid (HD.out.below b2)
  clear b2
  cases hb : plcB a p with
  | true =>
    obtain ⟨hok, hp0, hp1⟩ := plc_iff.1 hb
    clear hb
    obtain ⟨q, rfl⟩ : ∃ q : Nat, p = (q : Int) := ⟨p.toNat, by omega⟩
    have HO := hid hok
    have HQ : Hid (q < a.ts.length) := (by omega : q < a.ts.length)
    have q2 : (q : Int) < (tn : Int) := by have := HTN.out; omega
    clear hok hp1
    obtain ⟨ta, e, hAt⟩ := HH.out.t.at_ q (by show q < tn; omega)
    have e : xo = some ta := e
    subst e
    obtain ⟨tq, htq⟩ : ∃ tq, a.ts.getD q Th.zero = tq := ⟨_, rfl⟩
    rw [htq] at hAt
    have HTQ : Hid (at_ a.ts (q : Int) = tq) := htq
    have HAt := hid hAt
    clear htq hAt
    obtain ⟨c0, c1, cf⟩ := HD.out.box
    obtain ⟨t0, t1, t2, t3, t4, t5, t6, t7⟩ := HAt.out.below HD.out.low
    go_wp2_with fail
    refine (rlive_any tq _).mono ?_
    rintro e w3 ⟨rfl, b3⟩
    replace HD := hid (HD.out.below b3)
    clear b3 c0 c1 cf t0 t1 t2 t3 t4 t5 t6 t7
    cases hb : liveT tq with
    | true =>
      have HLV := hid hb
      clear hb
      obtain ⟨c0, c1, cf⟩ := HD.out.box
      obtain ⟨t0, t1, t2, t3, t4, t5, t6, t7⟩ := HAt.out.below HD.out.low
      by_cases hr : tq.refs = 0
      · have HE := hid (dropE_zero.2 ⟨HO.out, hp0, by have := HQ.out; omega, by rw [HTQ.out]; exact HLV.out, by rw [HTQ.out]; exact hr⟩)
        have e2 : (tq.refs != 0) = false := by simp [hr]
        have e3 := beq_of hr
        clear hr
        go_upto_region 3 with fail
        obtain ⟨gx, hgx⟩ : ∃ gx, nxG tq.gen = gx := ⟨_, rfl⟩
        have CN := hid (rnext_any tq.gen)
        rw [hgx] at CN
        have HGX := hid hgx
        have CS := hid (fun W' (b : Below w3.heap.size w3 W') => rset_any (fun k => Av k ∨ k = w.heap.size + 1) ⟨⟨some ta, tn, tc⟩, ⟨fo, fn, fc⟩⟩ a q (Th.none gx) W' HS HQ ((HV.out.more (P := fun k => k = w.heap.size + 1) HD.out.low (fun k e => by omega)).below b) (fun k e => by
          have h1 := b.size
          have h2 := HD.out.zr.inA.lt
          have h3 := HD.out.low.size
          rcases e with e | e
          · have := HAV.out k e; omega
          · omega))
        dsimp only [Th.none] at CS
        have HDR : Hid (Below w3.heap.size w3 w3.drew) := (Below.refl _ w3).drew
        have hS : S3 ⟨w.heap.size, 0, none⟩ ⟨w.heap.size, 1, none⟩ ⟨(ta.add (q * 8)).block, (ta.add (q * 8)).off + 1, none⟩ (.slice (some ta) tn tc) (.slice fo fn fc) (.int .i64 tq.gen) w3 := ⟨c0, c1, t1⟩
        have HNE : Hid (w.heap.size ≠ w.heap.size + 1 ∧ w.heap.size ≠ w.heap.size + 1 ∧ (ta.add (q * 8)).block ≠ w.heap.size + 1) := ⟨by omega, by omega, by have := World.block_lt_of_cell? w _ HAt.out.c0; omega⟩
        obtain ⟨r0, r1, rf⟩ := HD.out.zr.inA
        clear hgx c0 c1 cf t0 t1 t2 t3 t4 t5 t6 t7 e2 e3 r0 r1 rf
        go_region_held3 (S3 ⟨w.heap.size, 0, none⟩ ⟨w.heap.size, 1, none⟩ ⟨(ta.add (q * 8)).block, (ta.add (q * 8)).off + 1, none⟩ (.slice (some ta) tn tc) (.slice fo fn fc) (.int .i64 tq.gen)) (first | with_reducible assumption | with_reducible exact HS4.out | with_reducible exact s3_two HS4.out HNE.out | with_reducible exact s3_drew hS)
          (first
            | (go_at_call 57; refine (CN.out _).mono ?_; rintro e w' ⟨rfl, hw⟩; rw [hw]; clear hw)
            | (go_at_call 54; refine (CS.out _ HDR.out).mono ?_; rintro e w4 ⟨y, rfl, hy⟩; have HY := hid hy; have HB4 : Hid (Below w3.heap.size w3 w4) := (q_trans (Below.refl _ w3).drew hy.low); have HS4 : Hid (S3 ⟨w.heap.size, 0, none⟩ ⟨w.heap.size, 1, none⟩ ⟨(ta.add (q * 8)).block, (ta.add (q * 8)).off + 1, none⟩ (.slice (some ta) tn tc) (.slice fo fn fc) (.int .i64 tq.gen) w4) := (s3_keep HB4.out hS); obtain ⟨r0, r1, rf⟩ := (HD.out.below HB4.out).zr.inA; clear hy)
            | fail)
        have HF := hid (rs_end (HD.out.below HB4.out) HD.out.low.drew HY.out)
        clear hS HS4
        go_wp2_with fail
        refine bodyPost_ret (v := .tuple #[(.agg #[.slice y.t.o y.t.n y.t.c, .slice y.f.o y.f.n y.f.c]), .int .i64 0]) (by simp [results, Try.results44, go_sem, r0, r1]) rfl ⟨y, ?_, ?_⟩
        · rw [HE.out]
        · rw [show dropA a (q : Int) = ⟨a.ts.set q (Th.none gx), a.fr⟩ by
            have e : dropA a (q : Int) = _ := if_pos HE.out
            rw [e, HTQ.out, HGX.out]
            rfl]
          exact HF.out
      · have HE := hid (dropE_no (a := a) (p := (q : Int)) (fun k => hr (by have := k.2.2.2.2; rwa [HTQ.out] at this)))
        have e2 : (tq.refs != 0) = true := by simp [hr]
        clear hr
        obtain ⟨r0, r1, rf⟩ := HD.out.zr.inA
        go_wp2_with fail
        refine bodyPost_ret (v := .tuple #[.agg #[.slice (some ta) tn tc, .slice fo fn fc], .int .i64 2]) (by simp [results, Try.results44, go_sem, r0, r1]) rfl ⟨⟨⟨some ta, tn, tc⟩, ⟨fo, fn, fc⟩⟩, ?_, ?_⟩
        · rw [HE.out]
        · rw [drop_no (by rw [HE.out]; decide)]; exact rs_keep HD.out HV.out
    | false =>
      have HE := hid (dropE_no (a := a) (p := (q : Int)) (fun k => by have := k.2.2.2.1; rw [HTQ.out, hb] at this; cases this))
      clear hb
      obtain ⟨c0, c1, cf⟩ := HD.out.box
      obtain ⟨r0, r1, rf⟩ := HD.out.zr.inA
      go_wp2_with fail
      refine bodyPost_ret (v := .tuple #[.agg #[.slice (some ta) tn tc, .slice fo fn fc], .int .i64 2]) (by simp [results, Try.results44, go_sem, r0, r1]) rfl ⟨⟨⟨some ta, tn, tc⟩, ⟨fo, fn, fc⟩⟩, ?_, ?_⟩
      · rw [HE.out]
      · rw [drop_no (by rw [HE.out]; decide)]; exact rs_keep HD.out HV.out
  | false =>
    have HE := hid (dropE_no (a := a) (p := p) (fun k => by rw [plc_yes ⟨k.1, k.2.1, k.2.2.1⟩] at hb; cases hb))
    clear hb
    obtain ⟨c0, c1, cf⟩ := HD.out.box
    obtain ⟨r0, r1, rf⟩ := HD.out.zr.inA
    go_wp2_with fail
    refine bodyPost_ret (v := .tuple #[.agg #[.slice xo tn tc, .slice fo fn fc], .int .i64 2]) (by simp [results, Try.results44, go_sem, r0, r1]) rfl ⟨⟨⟨xo, tn, tc⟩, ⟨fo, fn, fc⟩⟩, ?_, ?_⟩
    · rw [HE.out]
    · rw [drop_no (by rw [HE.out]; decide)]; exact rs_keep HD.out HV.out
set_option maxRecDepth 100000 in
set_option maxHeartbeats 4000000 in
/-- THE DOCUMENT's Refer. -/
theorem rrefer_any (Av : Nat → Prop) (x : Wh) (a : Ar) (p b : Int) (w : World) (HS : Hid (Sm a)) (HRB : Hid (RefB a 1000000000000)) (HV : Hid (HasV w Av x a)) (HAV : Hid (∀ k, Av k → k < w.heap.size)) :
    Calls Try.prog 46 #[(.agg #[.slice x.t.o x.t.n x.t.c, .slice x.f.o x.f.n x.f.c]), .int .i64 p, .int .i64 b] w fun e w' => ∃ y : Wh, e = .returned (.tuple #[(.agg #[.slice y.t.o y.t.n y.t.c, .slice y.f.o y.f.n y.f.c]), .int .i64 (refE a p b)]) ∧ Rs w w' Av x y a (refA a p b) := by
  have HH := hid HV.out.has
  obtain ⟨⟨xo, tn, tc⟩, ⟨fo, fn, fc⟩⟩ := x
  have HTN : Hid (tn = a.ts.length) := HH.out.tn
  have HD := hid (dw_new w ⟨⟨xo, tn, tc⟩, ⟨fo, fn, fc⟩⟩)
  dsimp only at HD
  go_enter Try.func46, Try.ntmps46
  go_wp2_with fail
  generalize (w.alloc (.cells #[.slice xo tn tc, .slice fo fn fc] 25)).alloc (.cells #[.slice none 0 0, .slice none 0 0] 25) = V at HD ⊢
  refine (rplace_any ⟨⟨xo, tn, tc⟩, ⟨fo, fn, fc⟩⟩ a p V HS (HH.out.below HD.out.low)).mono ?_
  rintro e w2 ⟨rfl, b2⟩
  replace HD := hid (HD.out.below b2)
  clear b2
  cases hb : plcB a p with
  | true =>
    obtain ⟨hok, hp0, hp1⟩ := plc_iff.1 hb
    clear hb
    obtain ⟨q, rfl⟩ : ∃ q : Nat, p = (q : Int) := ⟨p.toNat, by omega⟩
    have HO := hid hok
    have HQ : Hid (q < a.ts.length) := (by omega : q < a.ts.length)
    have q2 : (q : Int) < (tn : Int) := by have := HTN.out; omega
    clear hok hp1
    obtain ⟨ta, e, hAt⟩ := HH.out.t.at_ q (by show q < tn; omega)
    have e : xo = some ta := e
    subst e
    obtain ⟨tq, htq⟩ : ∃ tq, a.ts.getD q Th.zero = tq := ⟨_, rfl⟩
    rw [htq] at hAt
    have HTQ : Hid (at_ a.ts (q : Int) = tq) := htq
    have HAt := hid hAt
    have r1' : tq.refs ≤ 1000000000000 := by have := HRB.out q HQ.out; rwa [htq] at this
    have r2' : 0 ≤ tq.refs := by have := (HO.out.things q HQ.out).r0; rwa [htq] at this
    clear htq hAt
    obtain ⟨c0, c1, cf⟩ := HD.out.box
    obtain ⟨t0, t1, t2, t3, t4, t5, t6, t7⟩ := HAt.out.below HD.out.low
    go_wp2_with fail
    refine (rlive_any tq _).mono ?_
    rintro e w3 ⟨rfl, b3⟩
    replace HD := hid (HD.out.below b3)
    clear b3 c0 c1 cf t0 t1 t2 t3 t4 t5 t6 t7
    cases hb : liveT tq with
    | true =>
      have HLV := hid hb
      clear hb
      obtain ⟨c0, c1, cf⟩ := HD.out.box
      obtain ⟨t0, t1, t2, t3, t4, t5, t6, t7⟩ := HAt.out.below HD.out.low
      obtain ⟨r0, r1, rf⟩ := HD.out.zr.inA
      have n3 : w.heap.size < w3.heap.size := HD.out.box.lt
      have n4 : w.heap.size + 1 < w3.heap.size := HD.out.zr.inA.lt
      by_cases hb1 : -100 ≤ b
      · by_cases hb2 : b ≤ 100
        · by_cases hr : 0 ≤ tq.refs + b
          · have HE := hid (refE_zero.2 ⟨HO.out, hp0, by have := HQ.out; omega, by rw [HTQ.out]; exact HLV.out, hb1, hb2, by rw [HTQ.out]; exact hr⟩)
            go_wp2_with fail
            refine (rset_any (fun k => Av k ∨ k = w.heap.size + 1) ⟨⟨some ta, tn, tc⟩, ⟨fo, fn, fc⟩⟩ a q ⟨tq.ty, tq.gen, tq.refs + b, tq.st, tq.sz, tq.wa, tq.fm, tq.va⟩ _ HS HQ ((HV.out.more (P := fun k => k = w.heap.size + 1) HD.out.low (fun k e => by omega)).below (alloc_below _ _)) (fun k e => by
              have h1 := (alloc_below w3 (.cells #[.int .i64 tq.ty, .int .i64 tq.gen, .int .i64 (tq.refs + b), .int .i64 tq.st, .int .i64 tq.sz, .int .i64 tq.wa, .int .i64 tq.fm, .int .i64 tq.va] 40)).size
              have h3 := HD.out.low.size
              rcases e with e | e
              · have := HAV.out k e; omega
              · omega)).mono ?_
            rintro e w4 ⟨y, rfl, hy⟩
            have HB4 := hid (q_trans (alloc_below w3 _) hy.low)
            have HF := hid (rs_end (HD.out.below HB4.out) (q_alloc HD.out.low _) hy)
            clear hy c0 c1 cf t0 t1 t2 t3 t4 t5 t6 t7 r0 r1 rf
            obtain ⟨r0, r1, rf⟩ := (HD.out.below HB4.out).zr.inA
            go_wp2_with fail
            refine bodyPost_ret (v := .tuple #[(.agg #[.slice y.t.o y.t.n y.t.c, .slice y.f.o y.f.n y.f.c]), .int .i64 0]) (by simp [results, Try.results46, go_sem, r0, r1]) rfl ⟨y, ?_, ?_⟩
            · rw [HE.out]
            · rw [show refA a (q : Int) b = ⟨a.ts.set q ⟨tq.ty, tq.gen, tq.refs + b, tq.st, tq.sz, tq.wa, tq.fm, tq.va⟩, a.fr⟩ by
                have e : refA a (q : Int) b = _ := if_pos HE.out
                rw [e, HTQ.out]
                rfl]
              exact HF.out
          · have HE := hid (refE_no (a := a) (p := (q : Int)) (b := b) (fun k => hr (by have := k.2.2.2.2.2.2; rwa [HTQ.out] at this)))
            go_wp2_with fail
            refine bodyPost_ret (v := .tuple #[.agg #[.slice (some ta) tn tc, .slice fo fn fc], .int .i64 2]) (by simp [results, Try.results46, go_sem, r0, r1]) rfl ⟨⟨⟨some ta, tn, tc⟩, ⟨fo, fn, fc⟩⟩, ?_, ?_⟩
            · rw [HE.out]
            · rw [ref_no (by rw [HE.out]; decide)]; exact rs_keep HD.out HV.out
        · have HE := hid (refE_no (a := a) (p := (q : Int)) (b := b) (fun k => hb2 k.2.2.2.2.2.1))
          go_wp2_with fail
          refine bodyPost_ret (v := .tuple #[.agg #[.slice (some ta) tn tc, .slice fo fn fc], .int .i64 2]) (by simp [results, Try.results46, go_sem, r0, r1]) rfl ⟨⟨⟨some ta, tn, tc⟩, ⟨fo, fn, fc⟩⟩, ?_, ?_⟩
          · rw [HE.out]
          · rw [ref_no (by rw [HE.out]; decide)]; exact rs_keep HD.out HV.out
      · have HE := hid (refE_no (a := a) (p := (q : Int)) (b := b) (fun k => hb1 k.2.2.2.2.1))
        go_wp2_with fail
        refine bodyPost_ret (v := .tuple #[.agg #[.slice (some ta) tn tc, .slice fo fn fc], .int .i64 2]) (by simp [results, Try.results46, go_sem, r0, r1]) rfl ⟨⟨⟨some ta, tn, tc⟩, ⟨fo, fn, fc⟩⟩, ?_, ?_⟩
        · rw [HE.out]
        · rw [ref_no (by rw [HE.out]; decide)]; exact rs_keep HD.out HV.out
    | false =>
      have HE := hid (refE_no (a := a) (p := (q : Int)) (b := b) (fun k => by have := k.2.2.2.1; rw [HTQ.out, hb] at this; cases this))
      clear hb
      obtain ⟨c0, c1, cf⟩ := HD.out.box
      obtain ⟨r0, r1, rf⟩ := HD.out.zr.inA
      go_wp2_with fail
      refine bodyPost_ret (v := .tuple #[.agg #[.slice (some ta) tn tc, .slice fo fn fc], .int .i64 2]) (by simp [results, Try.results46, go_sem, r0, r1]) rfl ⟨⟨⟨some ta, tn, tc⟩, ⟨fo, fn, fc⟩⟩, ?_, ?_⟩
      · rw [HE.out]
      · rw [ref_no (by rw [HE.out]; decide)]; exact rs_keep HD.out HV.out
  | false =>
    have HE := hid (refE_no (a := a) (p := p) (b := b) (fun k => by rw [plc_yes ⟨k.1, k.2.1, k.2.2.1⟩] at hb; cases hb))
    clear hb
    obtain ⟨c0, c1, cf⟩ := HD.out.box
    obtain ⟨r0, r1, rf⟩ := HD.out.zr.inA
    go_wp2_with fail
    refine bodyPost_ret (v := .tuple #[.agg #[.slice xo tn tc, .slice fo fn fc], .int .i64 2]) (by simp [results, Try.results46, go_sem, r0, r1]) rfl ⟨⟨⟨xo, tn, tc⟩, ⟨fo, fn, fc⟩⟩, ?_, ?_⟩
    · rw [HE.out]
    · rw [ref_no (by rw [HE.out]; decide)]; exact rs_keep HD.out HV.out
end Go.Proofs.Ytnagpedkmfmniaa.Ar
