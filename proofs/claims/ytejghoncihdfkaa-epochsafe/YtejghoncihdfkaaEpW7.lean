/- What the program's Retire does. -/
import Derived.Test.YtejghoncihdfkaaEpW6
import Derived.Test.YtejghoncihdfkaaEpRRet
import Derived.Deep.RegionLaw
namespace Go.Proofs.Ytejghoncihdfkaa.Ep
open Go.RowKit

/-- Epochs whose lists are rows of one's own. -/
theorem has_of {w : World} {B : Nat} {y : WE} {e : E} {hs : List Hd} {Av : Nat → Prop} (hp : w.ownsRow B 2 1 (.slice y.p.o y.p.n y.p.c) y.p.n (vals e.pins)) (hl : w.ownsRow B 49 1 (.slice y.l.o y.l.n y.l.c) y.l.n (hds hs)) (hh : hs.length = e.lim.length)
    (he : ∀ i, i < e.lim.length → ∃ B', B ≤ B' ∧ HasW w (hs.getD i Hd.zero).o (hs.getD i Hd.zero).n (hs.getD i Hd.zero).c (e.lim.getD i []) ∧ ∀ k, (hs.getD i Hd.zero).v.ownBlock = some k → B' ≤ k) (hA : ∀ i, Av i → i < B) : HasE w Av y e := by
  obtain ⟨r1, r2, r3, r4⟩ := own_row hl
  refine ⟨(own_mine hp).has, own_off hp hA, hs, ⟨by have := hl.1; rw [len_hds, hh] at this; omega, hh, r3, r2, r1, own_off hl hA, fun i hi => ?_, fun i hi => ?_⟩⟩
  · obtain ⟨_, _, h, _⟩ := he i hi
    exact h
  · obtain ⟨B', hB, _, h⟩ := he i hi
    intro _ a ea s
    have h1 := hA _ s
    have h2 := h a.block (by unfold Hd.v; rw [ea]; rfl)
    omega
/-- One more waits in the list of the core k: where it lies now, and that the head is stored. -/
theorem ret_has {w V V' w3 : World} {n : Int} {y z : WE} {bx g k : Nat} {e : E} {hs : List Hd} {Av : Nat → Prop} {x : Hd} {l : List W} (h : Fb w V n y bx z e hs) (hX : ∀ i, i < e.lim.length → ∀ k, (hs.getD i Hd.zero).v.ownBlock = some k → k ≠ bx) (hk : k < e.lim.length) (hg : z.l.o = some ⟨g, 0, none⟩) (b : Below V.heap.size V V')
    (own3 : w3.ownsRow (w.heap.size + 2) 51 2 (.slice x.o x.n x.c) x.n (wts l)) (grow : V'.grownBy w3 (hs.getD k Hd.zero).v.ownBlock) (hA : ∀ i, Av i → i < w.heap.size) :
    Below w.heap.size w (w3.setCell ⟨g, k, none⟩ x.v) ∧ InE (w3.setCell ⟨g, k, none⟩ x.v) bx n z ∧ InE (w3.setCell ⟨g, k, none⟩ x.v) (w.heap.size + 1) 0 WE.zero ∧ HasE (w3.setCell ⟨g, k, none⟩ x.v) (fun i => Av i ∨ i = w.heap.size + 1) z (setL e (k : Int) l) := by
  have hb : (Value.slice z.l.o z.l.n z.l.c).ownBlock = some g := by rw [hg]; rfl
  have hgB := (h.own.l.lt g hb).1
  have h' := h.below b
  have kg := kept_grown grow
  have q : Kept (fun i => i = g) w3 (w3.setCell ⟨g, k, none⟩ x.v) := kept_set _ w3 _ _ rfl
  have oe := h'.own.each k hk
  have hdB : ∀ i, some i = (hs.getD k Hd.zero).v.ownBlock → w.heap.size + 2 ≤ i := fun i e => (oe.lt i e.symm).1
  have p3 := own_kept h'.own.p kg (fun i e s => own_apart h'.own.p oe tneP e s.symm)
  have l3 := own_kept h'.own.l kg (fun i e s => own_apart h'.own.l oe tne1 e s.symm)
  have lo3 : Below w.heap.size w w3 := h'.b.low.trans (kg.below w.heap.size h'.b.low.size (fun i e => by have := hdB i e; omega))
  have hkl : k < hs.length := by rw [h.own.hl]; exact hk
  refine ⟨q_set lo3 (by show w.heap.size ≤ g; omega) _, (h'.f.kept kg (fun e => hX k hk bx e.symm rfl)).kept q (fun e => h.lb g hb e.symm), (h'.b.b.kept kg (fun e => by have := hdB _ e; omega)).kept q (by omega), ?_⟩
  refine has_of (B := w.heap.size + 2) (hs := hs.set k x) (own_kept p3 q (fun i ei s => by subst s; exact own_apart p3 l3 tne0 ei hb)) ?_ (by simp [setL, h.own.hl]) (fun i hi => ?_) (fun i s => by rcases s with s | s; (have := hA i s; omega); omega)
  · rw [← hds_set]
    obtain ⟨zp, ⟨lo', ln, lc⟩⟩ := z
    have e0 : lo' = some ⟨g, 0, none⟩ := hg
    subst e0
    exact own_setS (j := k) x.v l3
  · have hi' : i < e.lim.length := by simpa [setL] using hi
    by_cases e1 : i = k
    · subst e1
      have e2 : (setL e (i : Int) l).lim.getD i [] = l := by simp [setL, List.getD, hi']
      have e3 : (hs.set i x).getD i Hd.zero = x := by simp [List.getD, hkl]
      rw [e2, e3]
      exact ⟨_, Nat.le_refl _, own_wts (own_kept own3 q (fun j ej s => by subst s; exact own_apart l3 own3 tne1 hb ej)), fun j ej => (own3.lt j ej).1⟩
    · have e4 : k ≠ i := fun e => e1 e.symm
      have e2 : (setL e (k : Int) l).lim.getD i [] = e.lim.getD i [] := by simp [setL, List.getD, e4]
      have e3 : (hs.set k x).getD i Hd.zero = hs.getD i Hd.zero := by simp [List.getD, e4]
      rw [e2, e3]
      have oi := own_kept (h'.own.each i hi') kg (fun j ej s => by
        rcases Nat.lt_or_gt_of_ne e1 with hlt | hgt
        · exact h.own.sep i k hlt hk j ej s.symm
        · exact h.own.sep k i hgt hi' j s.symm ej)
      exact ⟨_, Nat.le_refl _, own_wts (own_kept oi q (fun j ej s => by subst s; exact own_apart l3 oi tne1 hb ej)), fun j ej => (oi.lt j ej).1⟩
set_option maxRecDepth 100000 in
set_option maxHeartbeats 4000000 in
theorem ret_any (y : WE) (e : E) (c ob : Int) (Av : Nat → Prop) (w : World) (hA : Hid (∀ i, Av i → i < w.heap.size)) (HS : Hid (Sm e)) (HE : Hid (HasE w Av y e)) :
    Calls Try.prog 24 #[(.agg #[.int .i64 e.now, .slice y.p.o y.p.n y.p.c, .slice y.l.o y.l.n y.l.c]), .int .i64 c, .int .i64 ob] w fun r w' => ∃ z : WE, r = .returned (.tuple #[(.agg #[.int .i64 e.now, .slice z.p.o z.p.n z.p.c, .slice z.l.o z.l.n z.l.c]), .int .i64 (reE e c ob)]) ∧ HasE w' Av z (reA e c ob) ∧ Below w.heap.size w w' := by
  obtain ⟨⟨po, P, pc⟩, ⟨lo, L, lc⟩⟩ := y
  have HP : Hid (L = e.lim.length) := HE.out.ln
  have CA := hid (fun (W : World) (h : HasE W Av ⟨⟨po, P, pc⟩, ⟨lo, L, lc⟩⟩ e) => apart_any ⟨⟨po, P, pc⟩, ⟨lo, L, lc⟩⟩ e Av W HS h)
  cases hco : coB e c with
  | false =>
    have HR := hid (reE_arg (e := e) (c := c) (o := ob) (by rw [hco]; rfl))
    have HI := hid (fun (W : World) (h : HasE W Av ⟨⟨po, P, pc⟩, ⟨lo, L, lc⟩⟩ e) => is_core HS.out h hco)
    clear hco
    generalize e.now = n at HI CA ⊢
    go_enter Try.func24, Try.ntmps24
    go_wp2_with fail
    have HB : Hid (B2 w ((w.alloc (.cells #[.int .i64 n, .slice po P pc, .slice lo L lc] 25)).alloc (.cells #[.int .i64 0, .slice none 0 0, .slice none 0 0] 25)) n 0 ⟨⟨po, P, pc⟩, ⟨lo, L, lc⟩⟩ WE.zero) := b2_start w n 0 ⟨⟨po, P, pc⟩, ⟨lo, L, lc⟩⟩ WE.zero 25
    refine (CA.out _ (HE.out.below HB.out.low)).mono ?_
    rintro r w1 ⟨z, rfl, ⟨hs, ho⟩, b1⟩
    have HF := hid (fb_start HB.out (size2 _ _ _) ho b1 25)
    have HX : Hid (∀ i, i < e.lim.length → ∀ k, (hs.getD i Hd.zero).v.ownBlock = some k → k ≠ w1.heap.size) := fun i hi k ek => Nat.ne_of_lt ((ho.each i hi).lt k ek).2
    clear ho b1 HB
    go_upto_region 2 with fail
    generalize w1.heap.size = bx at HF HX ⊢
    generalize w1.alloc (.cells #[.int .i64 n, .slice z.p.o z.p.n z.p.c, .slice z.l.o z.l.n z.l.c] 25) = W at HF ⊢
    clear w1
    obtain ⟨x0, x1, x2, xf⟩ := HF.out.b.a
    go_wp2_with fail
    refine (HI.out _ (HE.out.below HF.out.b.low)).mono ?_
    rintro r w2 ⟨rfl, b2⟩
    replace HF := hid (HF.out.below b2)
    clear b2 x0 x1 x2 xf W
    obtain ⟨x0, x1, x2, xf⟩ := HF.out.b.a
    obtain ⟨v0, v1, v2, vf⟩ := HF.out.f
    obtain ⟨z0, z1, z2, zf⟩ := HF.out.b.b
    have hb2 : w.heap.size + 1 < w2.heap.size := HF.out.b.b.lt
    go_wp2_with fail
    refine bodyPost_ret (v := .tuple #[(.agg #[.int .i64 n, .slice z.p.o z.p.n z.p.c, .slice z.l.o z.l.n z.l.c]), .int .i64 2]) (by simp [results, Try.results24, go_sem, *]) rfl ⟨z, ret_ep HR.out.1.symm, ?_, fin_low HF.out.b.low _ _ _⟩
    rw [HR.out.2]
    exact HF.out.has hA.out _ _ _
  | true =>
    obtain ⟨hok, c0, c1⟩ := co_iff.1 hco
    have HLe := hid hok.len
    obtain ⟨k, rfl⟩ : ∃ k : Nat, c = (k : Int) := ⟨c.toNat, by omega⟩
    have hkL : k < L := by have := HP.out; have := HLe.out; omega
    have i1 : (0 : Int) ≤ (k : Int) := by omega
    have i2 : (k : Int) < (L : Int) := by omega
    have HI := hid (fun (W : World) (h : HasE W Av ⟨⟨po, P, pc⟩, ⟨lo, L, lc⟩⟩ e) => is_core HS.out h hco)
    by_cases ho : 0 ≤ ob ∧ ob ≤ 63
    · have hc2 : (coB e (k : Int) && (decide (0 ≤ ob) && decide (ob ≤ 63))) = true := by simp [hco, ho]
      have hpl : plB ob = true := by simp [plB, ho]
      clear ho
      have HLi := hid (fun (W : World) (h : HasE W Av ⟨⟨po, P, pc⟩, ⟨lo, L, lc⟩⟩ e) => h.list k (by have := HP.out; omega))
      have hl8 : (e.lim.getD k []).length ≤ 8 := (okL_iff.1 (hok.wait k (by have := HP.out; have := HLe.out; omega))).1
      obtain ⟨l, hl⟩ : ∃ l, e.lim.getD k [] = l := ⟨_, rfl⟩
      have HLf : Hid (limOf e (k : Int) = l) := by unfold Hid limOf; simpa using hl
      have HLk := hid hl
      rw [hl] at HLi hl8
      clear hl
      by_cases h8 : l.length < 8
      · have HR := hid (reE_ok hc2 (by rw [HLf.out]; exact h8))
        rw [HLf.out] at HR
        have HE2 := hid (fun (W : World) (h : HasE W Av ⟨⟨po, P, pc⟩, ⟨lo, L, lc⟩⟩ e) => h)
        clear hco hc2 hok HE2
        generalize e.now = n at HI CA HR ⊢
        go_enter Try.func24, Try.ntmps24
        go_wp2_with fail
        have HB : Hid (B2 w ((w.alloc (.cells #[.int .i64 n, .slice po P pc, .slice lo L lc] 25)).alloc (.cells #[.int .i64 0, .slice none 0 0, .slice none 0 0] 25)) n 0 ⟨⟨po, P, pc⟩, ⟨lo, L, lc⟩⟩ WE.zero) := b2_start w n 0 ⟨⟨po, P, pc⟩, ⟨lo, L, lc⟩⟩ WE.zero 25
        refine (CA.out _ (HE.out.below HB.out.low)).mono ?_
        rintro r w1 ⟨z, rfl, ⟨hs, ho⟩, b1⟩
        have HF := hid (fb_start HB.out (size2 _ _ _) ho b1 25)
        have HX : Hid (∀ i, i < e.lim.length → ∀ k, (hs.getD i Hd.zero).v.ownBlock = some k → k ≠ w1.heap.size) := fun i hi k ek => Nat.ne_of_lt ((ho.each i hi).lt k ek).2
        clear ho b1 HB
        go_upto_region 2 with fail
        generalize w1.heap.size = bx at HF HX ⊢
        generalize w1.alloc (.cells #[.int .i64 n, .slice z.p.o z.p.n z.p.c, .slice z.l.o z.l.n z.l.c] 25) = W at HF ⊢
        clear w1
        obtain ⟨x0, x1, x2, xf⟩ := HF.out.b.a
        go_wp2_with fail
        refine (HI.out _ (HE.out.below HF.out.b.low)).mono ?_
        rintro r w2 ⟨rfl, b2⟩
        replace HF := hid (HF.out.below b2)
        clear b2 x0 x1 x2 xf W
        obtain ⟨x0, x1, x2, xf⟩ := HF.out.b.a
        obtain ⟨b, lo', m, lc', eb, cb, hw, _⟩ := HLi.out _ (HE.out.below HF.out.b.low)
        obtain rfl : lo = some b := eb
        have hm : m = l.length := hw.len
        have hm8 : ¬ (m : Int) = 8 := by omega
        have d8 := beq_no hm8
        clear hw hm hm8
        obtain ⟨⟨zpo, zpn, zpc⟩, ⟨zlo, zln, zlc⟩⟩ := z
        have hln : zln = L := by rw [HP.out]; exact HF.out.own.ln
        subst hln
        obtain ⟨g, eg, hg, hg2⟩ := own_head HF.out.own.l (by show 0 < zln; omega)
        have eg : zlo = some ⟨g, 0, none⟩ := eg
        subst eg
        have HKl : Hid (k < e.lim.length) := by have := HP.out; exact (by omega : k < e.lim.length)
        obtain ⟨_, e2, cg⟩ := (own_row HF.out.own.l).1.cell k _ (hds_at hs k (by rw [HF.out.own.hl]; exact HKl.out))
        cases e2
        rw [add0] at cg
        have HOk := hid (HF.out.own.each k HKl.out)
        have HGr := hid (fun (W' w3 : World) (x : Hd) (b : Below w2.heap.size w2 W') (own3 : w3.ownsRow (w.heap.size + 2) 51 2 (.slice x.o x.n x.c) x.n (wts (l ++ [(ob, n)]))) (grow : W'.grownBy w3 (hs.getD k Hd.zero).v.ownBlock) => ret_has HF.out HX.out HKl.out rfl b own3 grow hA.out)
        have HNE : Hid (∀ q, (hs.getD k Hd.zero).v.ownBlock = some q → q ≠ bx ∧ q ≠ g) := fun q eq => ⟨HX.out k HKl.out q eq, fun e2 => by subst e2; exact own_apart HF.out.own.l (HF.out.own.each k HKl.out) tne1 rfl eq⟩
        obtain ⟨⟨vo, vn, vc⟩, hy⟩ : ∃ y, hs.getD k Hd.zero = y := ⟨_, rfl⟩
        rw [hy] at cg HOk HGr HNE
        rw [HLk.out] at HOk
        replace cg : w2.cell? ⟨g, k, none⟩ = some (.slice vo vn vc) := cg
        have gf : w2.frozen? ⟨g, k, none⟩ = false := own_frozen HF.out.own.l
        have hvn : vn = l.length := by have h1 := HOk.out.1; rw [len_wts] at h1; have h2 : l.length * 2 = vn * 2 := h1; omega
        have hvn8 : vn < 8 := by omega
        obtain ⟨v0, v1, v2, vf⟩ := HF.out.f
        have hbx : bx < w2.heap.size := HF.out.f.lt
        have hB2 : w.heap.size + 2 ≤ w2.heap.size := HF.out.b.b.lt
        have HQ : Hid (∀ w3, (w2.drew.alloc (.cells #[.int .i64 ob, .int .i64 n] 51)).grownBy w3 (Value.ownBlock (.slice vo vn vc)) → w3.cell? ⟨g, k, none⟩ = some (.slice vo vn vc) ∧ w3.frozen? ⟨g, k, none⟩ = false ∧ w3.cell? ⟨bx, 2, none⟩ = some (.slice (some ⟨g, 0, none⟩) zln zlc)) := by
          intro w3 grow
          have k1 : Kept (fun i => some i = Value.ownBlock (.slice vo vn vc)) w2 w3 := ((kept_below (Below.refl _ w2)).drew.alloc _).trans (kept_grown grow) (fun _ _ e => e)
          have hgl : g < w2.heap.size := hg2
          have m1 : ¬ some g = Value.ownBlock (.slice vo vn vc) := fun e => (HNE.out g e.symm).2 rfl
          have m2 : ¬ some bx = Value.ownBlock (.slice vo vn vc) := fun e => (HNE.out bx e.symm).1 rfl
          exact ⟨k1.cell cg m1, (World.frozen?_of_block (a := ⟨g, k, none⟩) (k1.block g hgl m1)).trans gf, k1.cell v2 m2⟩
        clear hvn hy h8 hl8
        go_upto_region 6 with (first | (go_at_call 40; refine (place_any _ _).mono ?_; rintro r w8 ⟨rfl, hw⟩; rw [hw, hpl]; clear hw w8))
        go_cut [42] from 29 to 44 (fun s42 wx => ∃ x : Hd, s42 = x.v ∧ Hid (Below w.heap.size w wx ∧ InE wx bx n ⟨⟨zpo, zpn, zpc⟩, ⟨some ⟨g, 0, none⟩, zln, zlc⟩⟩ ∧ InE wx (w.heap.size + 1) 0 WE.zero ∧ HasE wx (fun i => Av i ∨ i = w.heap.size + 1) ⟨⟨zpo, zpn, zpc⟩, ⟨some ⟨g, 0, none⟩, zln, zlc⟩⟩ (setL e (k : Int) (l ++ [(ob, n)]))))
        case first =>
          go_region_law
            ((refine step_wts _ (by rfl) (.tmp 36) (.tmp 41) (by rfl) (w.heap.size + 2) (.slice vo vn vc) vn l (by rfl) (HOk.out.drew.alloc _) (some ⟨w2.heap.size, 0, none⟩) 1 1 [(ob, n)] (by rfl) (by rfl) (fun h => by cases h) (one_waste w2.drew (ob, n) 51) (vn + 1) (by rfl) (l ++ [(ob, n)]) (by rfl) (by omega) (by simp; omega) ?_; intro ao3 cap3 w3 own3 grow3; have q1 := (HQ.out _ grow3).1; have q2 := (HQ.out _ grow3).2.1; have q3 := (HQ.out _ grow3).2.2))
          all_goals (try go_wp2_with fail)
          all_goals go_meet
          all_goals exact ⟨⟨ao3, vn + 1, cap3⟩, rfl, HGr.out _ w3 ⟨ao3, vn + 1, cap3⟩ (q_alloc (Below.refl _ w2).drew _) own3 grow3⟩
        case rest =>
          obtain ⟨x, rfl, HZ⟩ := hcut
          obtain ⟨hlow, hbox, hres, hz⟩ := HZ.out
          have HZ2 := hid hz
          have HL2 := hid hlow
          clear HZ hz hlow v0 v1 v2 vf x0 x1 x2 xf cb cg gf hbx hB2 hg2
          obtain ⟨v0, v1, v2, vf⟩ := hbox
          have hb2 := hres.lt
          obtain ⟨z0, z1, z2, zf⟩ := hres
          go_wp2_with fail
          refine bodyPost_ret (v := .tuple #[.agg #[.int .i64 n, .slice zpo zpn zpc, .slice (some ⟨g, 0, none⟩) zln zlc], .int .i64 0]) (by simp [results, Try.results24, go_sem, *]) rfl ⟨⟨⟨zpo, zpn, zpc⟩, ⟨some ⟨g, 0, none⟩, zln, zlc⟩⟩, ret_ep HR.out.1.symm, ?_, fin_low HL2.out _ _ _⟩
          rw [HR.out.2]
          exact fin_has HZ2.out _ _ _
      · have HR := hid (reE_full hc2 (by rw [HLf.out]; exact h8))
        clear hco hc2 hok
        generalize e.now = n at HI CA ⊢
        go_enter Try.func24, Try.ntmps24
        go_wp2_with fail
        have HB : Hid (B2 w ((w.alloc (.cells #[.int .i64 n, .slice po P pc, .slice lo L lc] 25)).alloc (.cells #[.int .i64 0, .slice none 0 0, .slice none 0 0] 25)) n 0 ⟨⟨po, P, pc⟩, ⟨lo, L, lc⟩⟩ WE.zero) := b2_start w n 0 ⟨⟨po, P, pc⟩, ⟨lo, L, lc⟩⟩ WE.zero 25
        refine (CA.out _ (HE.out.below HB.out.low)).mono ?_
        rintro r w1 ⟨z, rfl, ⟨hs, ho⟩, b1⟩
        have HF := hid (fb_start HB.out (size2 _ _ _) ho b1 25)
        have HX : Hid (∀ i, i < e.lim.length → ∀ k, (hs.getD i Hd.zero).v.ownBlock = some k → k ≠ w1.heap.size) := fun i hi k ek => Nat.ne_of_lt ((ho.each i hi).lt k ek).2
        clear ho b1 HB
        go_upto_region 2 with fail
        generalize w1.heap.size = bx at HF HX ⊢
        generalize w1.alloc (.cells #[.int .i64 n, .slice z.p.o z.p.n z.p.c, .slice z.l.o z.l.n z.l.c] 25) = W at HF ⊢
        clear w1
        obtain ⟨x0, x1, x2, xf⟩ := HF.out.b.a
        go_wp2_with fail
        refine (HI.out _ (HE.out.below HF.out.b.low)).mono ?_
        rintro r w2 ⟨rfl, b2⟩
        replace HF := hid (HF.out.below b2)
        clear b2 x0 x1 x2 xf W
        obtain ⟨x0, x1, x2, xf⟩ := HF.out.b.a
        obtain ⟨v0, v1, v2, vf⟩ := HF.out.f
        obtain ⟨z0, z1, z2, zf⟩ := HF.out.b.b
        have hb2 : w.heap.size + 1 < w2.heap.size := HF.out.b.b.lt
        obtain ⟨b, lo', m, lc', eb, cb, hw, _⟩ := HLi.out _ (HE.out.below HF.out.b.low)
        obtain rfl : lo = some b := eb
        have hm : m = l.length := hw.len
        have hm8 : (m : Int) = 8 := by omega
        have d8 := beq_yes hm8
        clear hm h8 hl8 hw hm8
        go_wp2_with (first | (go_at_call 40; refine (place_any _ _).mono ?_; rintro r w8 ⟨rfl, hw⟩; rw [hw, hpl]; clear hw w8))
        refine bodyPost_ret (v := .tuple #[(.agg #[.int .i64 n, .slice z.p.o z.p.n z.p.c, .slice z.l.o z.l.n z.l.c]), .int .i64 5]) (by simp [results, Try.results24, go_sem, *]) rfl ⟨z, ret_ep HR.out.1.symm, ?_, fin_low HF.out.b.low _ _ _⟩
        rw [HR.out.2]
        exact HF.out.has hA.out _ _ _
    · have HR := hid (reE_arg (e := e) (c := (k : Int)) (o := ob) (by rw [hco]; simp; omega))
      have hpl : plB ob = false := by simp [plB]; omega
      clear hco hok ho
      generalize e.now = n at HI CA ⊢
      go_enter Try.func24, Try.ntmps24
      go_wp2_with fail
      have HB : Hid (B2 w ((w.alloc (.cells #[.int .i64 n, .slice po P pc, .slice lo L lc] 25)).alloc (.cells #[.int .i64 0, .slice none 0 0, .slice none 0 0] 25)) n 0 ⟨⟨po, P, pc⟩, ⟨lo, L, lc⟩⟩ WE.zero) := b2_start w n 0 ⟨⟨po, P, pc⟩, ⟨lo, L, lc⟩⟩ WE.zero 25
      refine (CA.out _ (HE.out.below HB.out.low)).mono ?_
      rintro r w1 ⟨z, rfl, ⟨hs, ho⟩, b1⟩
      have HF := hid (fb_start HB.out (size2 _ _ _) ho b1 25)
      have HX : Hid (∀ i, i < e.lim.length → ∀ k, (hs.getD i Hd.zero).v.ownBlock = some k → k ≠ w1.heap.size) := fun i hi k ek => Nat.ne_of_lt ((ho.each i hi).lt k ek).2
      clear ho b1 HB
      go_upto_region 2 with fail
      generalize w1.heap.size = bx at HF HX ⊢
      generalize w1.alloc (.cells #[.int .i64 n, .slice z.p.o z.p.n z.p.c, .slice z.l.o z.l.n z.l.c] 25) = W at HF ⊢
      clear w1
      obtain ⟨x0, x1, x2, xf⟩ := HF.out.b.a
      go_wp2_with fail
      refine (HI.out _ (HE.out.below HF.out.b.low)).mono ?_
      rintro r w2 ⟨rfl, b2⟩
      replace HF := hid (HF.out.below b2)
      clear b2 x0 x1 x2 xf W
      obtain ⟨x0, x1, x2, xf⟩ := HF.out.b.a
      obtain ⟨v0, v1, v2, vf⟩ := HF.out.f
      obtain ⟨z0, z1, z2, zf⟩ := HF.out.b.b
      have hb2 : w.heap.size + 1 < w2.heap.size := HF.out.b.b.lt
      go_wp2_with (first | (go_at_call 40; refine (place_any _ _).mono ?_; rintro r w8 ⟨rfl, hw⟩; rw [hw, hpl]; clear hw w8))
      refine bodyPost_ret (v := .tuple #[(.agg #[.int .i64 n, .slice z.p.o z.p.n z.p.c, .slice z.l.o z.l.n z.l.c]), .int .i64 2]) (by simp [results, Try.results24, go_sem, *]) rfl ⟨z, ret_ep HR.out.1.symm, ?_, fin_low HF.out.b.low _ _ _⟩
      rw [HR.out.2]
      exact HF.out.has hA.out _ _ _
end Go.Proofs.Ytejghoncihdfkaa.Ep
