/- What Take does. -/
import Derived.Test.YtnagpedkmfmniaaArAft
namespace Go.Proofs.Ytnagpedkmfmniaa.Ar
open Go.RowKit Go.Proofs.Ytnagpedkmfmniaa.Ha

/-- Behind Take's door: three boxes. -/
structure Dt (w W : World) (x : Wh) (t : Th) : Prop where
  low : Below w.heap.size w W
  box : InA W w.heap.size x
  tb : InT W (w.heap.size + 1) t
  res : InA W (w.heap.size + 2) Wh.zero
  sz : W.heap.size = w.heap.size + 3
theorem dt_new (w : World) (x : Wh) (t : Th) : Dt w (((w.alloc (.cells #[.slice x.t.o x.t.n x.t.c, .slice x.f.o x.f.n x.f.c] 25)).alloc (.cells #[.int .i64 t.ty, .int .i64 t.gen, .int .i64 t.refs, .int .i64 t.st, .int .i64 t.sz, .int .i64 t.wa, .int .i64 t.fm, .int .i64 t.va] 40)).alloc (.cells #[.slice none 0 0, .slice none 0 0] 25)) x t := by
  refine ⟨q_alloc (q_alloc (alloc_below w _) _) _, ((inA_new w x _).below (alloc_below _ _)).below (alloc_below _ _), ?_, ?_, by simp⟩
  · have h := inT_new (w.alloc (.cells #[.slice x.t.o x.t.n x.t.c, .slice x.f.o x.f.n x.f.c] 25)) t 40
    rw [show (w.alloc (.cells #[.slice x.t.o x.t.n x.t.c, .slice x.f.o x.f.n x.f.c] 25)).heap.size = w.heap.size + 1 by simp] at h
    exact h.below (alloc_below _ _)
  · have h := inA_new ((w.alloc (.cells #[.slice x.t.o x.t.n x.t.c, .slice x.f.o x.f.n x.f.c] 25)).alloc (.cells #[.int .i64 t.ty, .int .i64 t.gen, .int .i64 t.refs, .int .i64 t.st, .int .i64 t.sz, .int .i64 t.wa, .int .i64 t.fm, .int .i64 t.va] 40)) Wh.zero 25
    rwa [show ((w.alloc (.cells #[.slice x.t.o x.t.n x.t.c, .slice x.f.o x.f.n x.f.c] 25)).alloc (.cells #[.int .i64 t.ty, .int .i64 t.gen, .int .i64 t.refs, .int .i64 t.st, .int .i64 t.sz, .int .i64 t.wa, .int .i64 t.fm, .int .i64 t.va] 40)).heap.size = w.heap.size + 2 by simp] at h
theorem takeE_arg {a : Ar} {c : Int} {t : Th} (h : ¬ (Ok a ∧ (0 ≤ c ∧ c < a.fr.length) ∧ liveT t = true)) : takeE a c t = 2 := by
  unfold takeE
  exact if_neg (fun k => h ⟨okA_iff.1 k.1, ⟨k.2.1, k.2.2.1⟩, k.2.2.2⟩)
theorem takeE_full {a : Ar} {c : Int} {t : Th} (h : Ok a) (h0 : 0 ≤ c) (h1 : c < a.fr.length) (h2 : liveT t = true) (h3 : (li a.fr c).length = 0) : takeE a c t = 5 := by
  unfold takeE
  rw [if_pos ⟨okA_iff.2 h, h0, h1, h2⟩, if_pos h3]
theorem takeP_no {a : Ar} {c : Int} {t : Th} (h : takeE a c t ≠ 0) : takeP a c t = 0 := if_neg h
theorem takeA_no {a : Ar} {c : Int} {t : Th} (h : takeE a c t ≠ 0) : takeA a c t = a := if_neg h
theorem InT.two {w : World} {b : Nat} {t : Th} (h : InT w b t) (g r : Int) : InT ((w.setCell ⟨b, 1, none⟩ (.int .i64 g)).setCell ⟨b, 2, none⟩ (.int .i64 r)) b ⟨t.ty, g, r, t.st, t.sz, t.wa, t.fm, t.va⟩ := by
  obtain ⟨h0, h1, h2, h3, h4, h5, h6, h7, hf⟩ := h
  exact ⟨(cell_set (cell_set h0)).trans (by simp), (cell_set (cell_set h1)).trans (by simp), (cell_set (cell_set h2)).trans (by simp), (cell_set (cell_set h3)).trans (by simp), (cell_set (cell_set h4)).trans (by simp), (cell_set (cell_set h5)).trans (by simp), (cell_set (cell_set h6)).trans (by simp), (cell_set (cell_set h7)).trans (by simp), fun i => by simpa using hf i⟩
theorem kept_gr (w : World) (c : Nat) (u v : Value) : Kept (fun k => k = c) w ((w.setCell ⟨c, 1, none⟩ u).setCell ⟨c, 2, none⟩ v) := by
  iterate 2 refine Kept.setCell ?_ _ _ (fun _ => rfl)
  exact Kept.refl _ _
theorem Aft.side {w W W' : World} {s1 r bb C : Nat} {x y : Wh} {a : Ar} {hs : List Hd} (h : Aft w W s1 r bb x y a hs) (k : Kept (fun k => k = C) W W') (h0 : w.heap.size < C) (h1 : C < s1) (h2 : C ≠ r) : Aft w W' s1 r bb x y a hs := by
  have hbb := h.hbb
  exact ⟨h.low.trans (k.below w.heap.size h.low.size (fun i e => by omega)), h.box.kept k (by omega), h.res.kept k (by omega), h.cop.kept k (by omega), h.hs0, h.hr, hbb, h.own.kept k (fun i e => .inl (by omega))⟩
/-- A thing's cells in a row of one's own. -/
theorem own_at {w : World} {B g n c : Nat} {l : List Th} (h : w.ownsRow B 40 8 (.slice (some ⟨g, 0, none⟩) n c) n (ths l)) (q : Nat) (hq : q < l.length) : AtT w ⟨g, q * 8, none⟩ (l.getD q Th.zero) := by
  obtain ⟨h1, h2, h3, _⟩ := own_row h
  have hn : n = l.length := by have := h.1; rw [len_ths] at this; omega
  obtain ⟨_, e, hA⟩ := HasT.at_ (w := w) (ao := some ⟨g, 0, none⟩) (n := n) (cap := c) (l := l) ⟨hn, h3, h2, h1⟩ q (by omega)
  cases e
  rwa [add0] at hA
set_option maxRecDepth 100000 in
set_option maxHeartbeats 4000000 in
/-- Take. -/
theorem take_new (x : Wh) (a : Ar) (c : Int) (t : Th) (w : World) (HS : Hid (Sm a)) (HH : Hid (HasA w x a)) :
    Calls Try.prog 23 #[(.agg #[.slice x.t.o x.t.n x.t.c, .slice x.f.o x.f.n x.f.c]), .int .i64 c, (.agg #[.int .i64 t.ty, .int .i64 t.gen, .int .i64 t.refs, .int .i64 t.st, .int .i64 t.sz, .int .i64 t.wa, .int .i64 t.fm, .int .i64 t.va])] w fun e w' => ∃ y : Wh, e = .returned (.tuple #[(.agg #[.slice y.t.o y.t.n y.t.c, .slice y.f.o y.f.n y.f.c]), .int .i64 (takeP a c t), .int .i64 (takeE a c t)]) ∧ (∃ hs, OwnA w' w.heap.size (fun k => k < w.heap.size) y (takeA a c t) hs) ∧ Below w.heap.size w w' := by
  obtain ⟨⟨xo, tn, tc⟩, ⟨fo, fn, fc⟩⟩ := x
  have HTN : Hid (tn = a.ts.length) := HH.out.tn
  have HFN : Hid (fn = a.fr.length) := HH.out.fn
  go_enter Try.func23, Try.ntmps23
  go_wp2_with fail
  have HD := hid (dt_new w ⟨⟨xo, tn, tc⟩, ⟨fo, fn, fc⟩⟩ t)
  dsimp only at HD
  generalize ((w.alloc (.cells #[.slice xo tn tc, .slice fo fn fc] 25)).alloc (.cells #[.int .i64 t.ty, .int .i64 t.gen, .int .i64 t.refs, .int .i64 t.st, .int .i64 t.sz, .int .i64 t.wa, .int .i64 t.fm, .int .i64 t.va] 40)).alloc (.cells #[.slice none 0 0, .slice none 0 0] 25) = V at HD ⊢
  refine (apart_any ⟨⟨xo, tn, tc⟩, ⟨fo, fn, fc⟩⟩ a w V HS HH HD.out.low).mono ?_
  rintro e V1 ⟨⟨⟨yto, ytn, ytc⟩, ⟨yfo, yfn, yfc⟩⟩, rfl, ⟨hs, hO⟩, b1⟩
  have HA := hid (aft_new HD.out.low HD.out.box HD.out.res HD.out.sz (by omega) hO b1)
  have HTB := hid ((HD.out.tb.below b1).below (alloc_below V1 (.cells #[.slice yto ytn ytc, .slice yfo yfn yfc] 25)))
  dsimp only at HA
  obtain ⟨c0, c1, cf⟩ := HD.out.box.below b1
  have n1 : w.heap.size < V1.heap.size := InA.lt ⟨c0, c1, cf⟩
  clear hO b1 HD
  go_wp2_with fail
  clear c0 c1 cf n1
  generalize hbb : V1.heap.size = bb at HA ⊢
  generalize V1.alloc (.cells #[.slice yto ytn ytc, .slice yfo yfn yfc] 25) = W at HA HTB ⊢
  clear hbb
  refine (check_any ⟨⟨xo, tn, tc⟩, ⟨fo, fn, fc⟩⟩ a W HS (HH.out.below HA.out.low)).mono ?_
  rintro e w2 ⟨rfl, b2⟩
  replace HA := hid (HA.out.below b2)
  replace HTB := hid (HTB.out.below b2)
  clear b2
  by_cases hok : Ok a
  · rw [chk_yes hok]
    have HO := hid hok
    clear hok
    obtain ⟨c0, c1, cf⟩ := HA.out.box
    go_wp2_with fail
    refine (core_any ⟨⟨xo, tn, tc⟩, ⟨fo, fn, fc⟩⟩ c _).mono ?_
    rintro e w3 ⟨rfl, b3⟩
    replace HA := hid (HA.out.below b3)
    replace HTB := hid (HTB.out.below b3)
    clear b3 c0 c1 cf
    by_cases hin : 0 ≤ c ∧ c < (fn : Int)
    · rw [thB_yes hin]
      obtain ⟨k, rfl⟩ : ∃ k : Nat, c = (k : Int) := ⟨c.toNat, by omega⟩
      obtain ⟨k1, k2⟩ := hin
      obtain ⟨t0, t1, t2, t3, t4, t5, t6, t7, tf⟩ := HTB.out
      go_wp2_with fail
      refine (live_any t _).mono ?_
      rintro e w4 ⟨rfl, b4⟩
      replace HA := hid (HA.out.below b4)
      replace HTB := hid (HTB.out.below b4)
      clear b4 t0 t1 t2 t3 t4 t5 t6 t7 tf
      cases hb : liveT t with
      | true =>
        have HL := hid hb
        clear hb
        have HK : Hid (k < a.fr.length) := by have := HFN.out; exact (by omega : k < a.fr.length)
        obtain ⟨fa, lo, m, lc, e, ca, hL⟩ := HH.out.list k HK.out
        have e : fo = some fa := e
        subst e
        have HM := hid hL.len
        replace ca := (kept_below (S := fun _ => False) HA.out.low).cell ca (fun e => e)
        obtain ⟨c0, c1, cf⟩ := HA.out.box
        by_cases hm : m = 0
        · subst hm
          have HE := hid (takeE_full (t := t) HO.out k1 (by have := HK.out; omega) HL.out HM.out.symm)
          obtain ⟨d0, d1, df⟩ := HA.out.cop
          obtain ⟨r0, r1, rf⟩ := HA.out.res
          clear hL
          go_wp2_with fail
          refine bodyPost_ret (v := .tuple #[.agg #[.slice yto ytn ytc, .slice yfo yfn yfc], .int .i64 0, .int .i64 5]) (by simp [results, Try.results23, go_sem, r0, r1]) rfl ⟨⟨⟨yto, ytn, ytc⟩, ⟨yfo, yfn, yfc⟩⟩, ?_, ?_⟩
          · rw [takeP_no (by rw [HE.out]; decide), HE.out]
          · rw [takeA_no (by rw [HE.out]; decide)]; exact HA.out.finN
        · have m0 : ((m : Int) == 0) = false := bne_of (by omega)
          have m1 : (0 : Int) < (m : Int) := by omega
          have HE := hid (takeE_zero.2 ⟨HO.out, k1, by have := HK.out; omega, HL.out, by rw [show (li a.fr (k : Int)).length = m from HM.out.symm]; omega⟩)
          have HP := hid (head_of HO.out k1 (by have := HK.out; omega) (by rw [show (li a.fr (k : Int)).length = m from HM.out.symm]; omega))
          obtain ⟨la, rfl, cl⟩ := (hL.below HA.out.low).cell 0 (by omega)
          rw [show la.add 0 = la by simp [Addr.add]] at cl
          have hp0 : (a.fr.getD k []).getD 0 0 = (li a.fr (k : Int)).getD 0 0 := rfl
          rw [hp0] at cl
          clear hp0 hL
          obtain ⟨p, hp⟩ : ∃ p, (li a.fr (k : Int)).getD 0 0 = p := ⟨_, rfl⟩
          rw [hp] at cl HP
          have HPP := hid hp
          clear hp
          obtain ⟨q, rfl⟩ : ∃ q : Nat, p = (q : Int) := ⟨p.toNat, by have := HP.out.p0; omega⟩
          have q1 : (0 : Int) ≤ (q : Int) := by omega
          have q2 : (q : Int) < (tn : Int) := by have := HP.out.p1; have := HTN.out; omega
          have HQ : Hid (q < a.ts.length) := by have := HTN.out; exact (by omega : q < a.ts.length)
          obtain ⟨ta, e, hAt⟩ := HH.out.t.at_ q (by show q < tn; omega)
          have e : xo = some ta := e
          subst e
          obtain ⟨gn, hgn⟩ : ∃ gn, (a.ts.getD q Th.zero).gen = gn := ⟨_, rfl⟩
          have ga := (hAt.below HA.out.low).c1
          rw [hgn] at ga
          have HGN := hid hgn
          clear hgn hAt
          obtain ⟨t0, t1, t2, t3, t4, t5, t6, t7, tf⟩ := HTB.out
          have n4 : w.heap.size + 1 < w4.heap.size := HTB.out.lt
          go_upto_region 8 with fail
          replace HA := hid (HA.out.side (kept_gr w4 (w.heap.size + 1) (.int .i64 gn) (.int .i64 1)) (by omega) (by omega) (by omega))
          replace HTB := hid (HTB.out.two gn 1)
          clear c0 c1 cf t0 t1 t2 t3 t4 t5 t6 t7 tf ga ca cl n4 m0 m1
          generalize (w4.setCell _ _).setCell _ _ = W5 at HA HTB ⊢
          have HYN : Hid (yfn = a.fr.length) := HA.out.own.fn
          have k3 : (k : Int) < (yfn : Int) := by have := HYN.out; have := HFN.out; omega
          obtain ⟨g, e, hg⟩ := own_head HA.out.own.f (by show 0 < yfn; omega)
          have e : yfo = some ⟨g, 0, none⟩ := e
          subst e
          obtain ⟨_, e, ci⟩ := (own_row HA.out.own.f).1.cell k _ (hds_at hs k (by have := HA.out.own.hl; have := HK.out; omega))
          cases e
          rw [add0] at ci
          obtain ⟨⟨zo, zm, zc⟩, hz⟩ : ∃ z, hs.getD k Hd.zero = z := ⟨_, rfl⟩
          have hZ := HA.out.own.each k HK.out
          have hZo := HA.out.own.off k HK.out
          rw [hz] at ci hZ hZo
          replace ci : W5.cell? ⟨g, k, none⟩ = some (.slice zo zm zc) := ci
          have hzm : 1 ≤ zm := by have := hZ.len; have := HM.out; simp only at *; omega
          have hcutr := run_from1 zo zm zc hzm
          obtain ⟨zo', hzo'⟩ : ∃ z, (if zc = 1 then zo else zo.map (·.add 1)) = z := ⟨_, rfl⟩
          rw [hzo'] at hcutr
          have HZ : Hid (Has W5 zo' (zm - 1) (zc - 1) (a.fr.getD k []).tail) := by rw [← hzo']; exact has_drop hZ hzm
          have HZO := hid (off_drop (cap := zc) hZo)
          dsimp only at HZO
          rw [hzo'] at HZO
          have hfz : W5.frozen? ⟨g, k, none⟩ = false := own_frozen HA.out.own.f
          obtain ⟨d0, d1, df⟩ := HA.out.cop
          clear hz hZ hZo hzo' hg
          go_region
          have HG := hid (HA.out.gf rfl)
          have k5 : Kept (fun i => i = g) W5 (W5.setCell ⟨g, k, none⟩ (.slice zo' (zm - 1) (zc - 1))) := kept_set _ W5 _ _ rfl
          replace HTB := hid ((HTB.out.kept k5 (by have := HG.out.2; omega)).below (Below.refl _ _).drew)
          replace HA := hid ((HA.out.setF rfl k HK.out ⟨zo', zm - 1, zc - 1⟩ _ HZ.out HZO.out).below (Below.refl _ _).drew)
          dsimp only at HA
          clear d0 d1 df hfz ci hcutr hzm k5 HG
          generalize (W5.setCell _ _).drew = W6 at HA HTB ⊢
          have HYT : Hid (ytn = a.ts.length) := HA.out.own.tn
          have q3 : (q : Int) < (ytn : Int) := by have := HYT.out; have := HTN.out; omega
          obtain ⟨gt, e, hgt⟩ := own_head HA.out.own.t (by show 0 < ytn; omega)
          have e : yto = some ⟨gt, 0, none⟩ := e
          subst e
          have hAt := own_at HA.out.own.t q (by exact HQ.out)
          obtain ⟨o0, o1, o2, o3, o4, o5, o6, o7⟩ := hAt
          have ofz : ∀ j, W6.frozen? ⟨gt, j, none⟩ = false := fun j => own_frozen HA.out.own.t
          obtain ⟨d0, d1, df⟩ := HA.out.cop
          obtain ⟨t0, t1, t2, t3, t4, t5, t6, t7, tf⟩ := HTB.out
          go_upto_region 10 with fail
          replace HA := hid (HA.out.setT rfl q HQ.out ⟨t.ty, gn, 1, t.st, t.sz, t.wa, t.fm, t.va⟩)
          dsimp only at HA
          clear d0 d1 df t0 t1 t2 t3 t4 t5 t6 t7 tf o0 o1 o2 o3 o4 o5 o6 o7 ofz HTB
          generalize (((((((W6.setCell _ _).setCell _ _).setCell _ _).setCell _ _).setCell _ _).setCell _ _).setCell _ _).setCell _ _ = W7 at HA ⊢
          obtain ⟨d0, d1, df⟩ := HA.out.cop
          obtain ⟨r0, r1, rf⟩ := HA.out.res
          go_wp2_with fail
          refine bodyPost_ret (v := .tuple #[.agg #[.slice (some ⟨gt, 0, none⟩) ytn ytc, .slice (some ⟨g, 0, none⟩) yfn yfc], .int .i64 (q : Int), .int .i64 0]) (by simp [results, Try.results23, go_sem, r0, r1]) rfl ⟨⟨⟨some ⟨gt, 0, none⟩, ytn, ytc⟩, ⟨some ⟨g, 0, none⟩, yfn, yfc⟩⟩, ?_, ?_⟩
          · rw [HE.out, show takeP a (k : Int) t = (q : Int) from (if_pos HE.out).trans HPP.out]
          · have := HA.out.finN
            rw [show takeA a (k : Int) t = ⟨a.ts.set q ⟨t.ty, gn, 1, t.st, t.sz, t.wa, t.fm, t.va⟩, a.fr.set k (a.fr.getD k []).tail⟩ by
              have e : takeA a (k : Int) t = _ := if_pos HE.out
              rw [e, HPP.out]
              unfold takeT
              rw [at_nat, HGN.out]
              rfl]
            exact this
      | false =>
        have HE := hid (takeE_arg (a := a) (c := (k : Int)) (t := t) (fun k => by rw [hb] at k; cases k.2.2))
        clear hb
        obtain ⟨c0, c1, cf⟩ := HA.out.cop
        obtain ⟨r0, r1, rf⟩ := HA.out.res
        go_wp2_with fail
        refine bodyPost_ret (v := .tuple #[.agg #[.slice yto ytn ytc, .slice yfo yfn yfc], .int .i64 0, .int .i64 2]) (by simp [results, Try.results23, go_sem, r0, r1]) rfl ⟨⟨⟨yto, ytn, ytc⟩, ⟨yfo, yfn, yfc⟩⟩, ?_, ?_⟩
        · rw [takeP_no (by rw [HE.out]; decide), HE.out]
        · rw [takeA_no (by rw [HE.out]; decide)]; exact HA.out.finN
    · rw [thB_no hin]
      have HE := hid (takeE_arg (a := a) (c := c) (t := t) (fun k => hin ⟨k.2.1.1, by have := k.2.1.2; have := HFN.out; omega⟩))
      clear hin
      obtain ⟨c0, c1, cf⟩ := HA.out.cop
      obtain ⟨r0, r1, rf⟩ := HA.out.res
      go_wp2_with fail
      refine bodyPost_ret (v := .tuple #[.agg #[.slice yto ytn ytc, .slice yfo yfn yfc], .int .i64 0, .int .i64 2]) (by simp [results, Try.results23, go_sem, r0, r1]) rfl ⟨⟨⟨yto, ytn, ytc⟩, ⟨yfo, yfn, yfc⟩⟩, ?_, ?_⟩
      · rw [takeP_no (by rw [HE.out]; decide), HE.out]
      · rw [takeA_no (by rw [HE.out]; decide)]; exact HA.out.finN
  · rw [chk_no hok]
    have HE := hid (takeE_arg (a := a) (c := c) (t := t) (fun k => hok k.1))
    clear hok
    obtain ⟨c0, c1, cf⟩ := HA.out.cop
    obtain ⟨r0, r1, rf⟩ := HA.out.res
    go_wp2_with fail
    refine bodyPost_ret (v := .tuple #[.agg #[.slice yto ytn ytc, .slice yfo yfn yfc], .int .i64 0, .int .i64 2]) (by simp [results, Try.results23, go_sem, r0, r1]) rfl ⟨⟨⟨yto, ytn, ytc⟩, ⟨yfo, yfn, yfc⟩⟩, ?_, ?_⟩
    · rw [takeP_no (by rw [HE.out]; decide), HE.out]
    · rw [takeA_no (by rw [HE.out]; decide)]; exact HA.out.finN
theorem take_any (x : Wh) (a : Ar) (c : Int) (t : Th) (w : World) (HS : Hid (Sm a)) (HH : Hid (HasA w x a)) :
    Calls Try.prog 23 #[(.agg #[.slice x.t.o x.t.n x.t.c, .slice x.f.o x.f.n x.f.c]), .int .i64 c, (.agg #[.int .i64 t.ty, .int .i64 t.gen, .int .i64 t.refs, .int .i64 t.st, .int .i64 t.sz, .int .i64 t.wa, .int .i64 t.fm, .int .i64 t.va])] w fun e w' => ∃ y : Wh, e = .returned (.tuple #[(.agg #[.slice y.t.o y.t.n y.t.c, .slice y.f.o y.f.n y.f.c]), .int .i64 (takeP a c t), .int .i64 (takeE a c t)]) ∧ HasO w' y (takeA a c t) ∧ Below w.heap.size w w' :=
  (take_new x a c t w HS HH).mono fun _ _ ⟨y, e, ⟨_, h⟩, b⟩ => ⟨y, e, h.hasO, b⟩
end Go.Proofs.Ytnagpedkmfmniaa.Ar
