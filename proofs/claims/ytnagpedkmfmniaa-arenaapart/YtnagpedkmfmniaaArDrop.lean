/- What Drop does. -/
import Derived.Test.YtnagpedkmfmniaaArTake
import Derived.Test.YtnagpedkmfmniaaArState
namespace Go.Proofs.Ytnagpedkmfmniaa.Ar
open Go.RowKit Go.Proofs.Ytnagpedkmfmniaa.Ha

/-- Behind the door of Drop, Give and Refer: two boxes. -/
structure Dd (w W : World) (x : Wh) : Prop where
  low : Below w.heap.size w W
  box : InA W w.heap.size x
  res : InA W (w.heap.size + 1) Wh.zero
  sz : W.heap.size = w.heap.size + 2
theorem dd_new (w : World) (x : Wh) : Dd w ((w.alloc (.cells #[.slice x.t.o x.t.n x.t.c, .slice x.f.o x.f.n x.f.c] 25)).alloc (.cells #[.slice none 0 0, .slice none 0 0] 25)) x := by
  have h := do_new w x
  exact ⟨h.low, h.box, h.res, by simp⟩
theorem dropE_no {a : Ar} {p : Int} (h : ¬ (Ok a ∧ 0 ≤ p ∧ p < a.ts.length ∧ liveT (at_ a.ts p) = true ∧ (at_ a.ts p).refs = 0)) : dropE a p = 2 := by
  rcases dropE_ways a p with e | e
  · exact absurd (dropE_zero.1 e) h
  · exact e
abbrev SD (bb s : Nat) (u v : Value) (ga : Addr) (g : Int) (w : World) : Prop := w.cell? ⟨bb, 0, none⟩ = some u ∧ w.cell? ⟨s, 0, none⟩ = some v ∧ w.cell? ga = some (.int .i64 g)
theorem sd_kept {S : Nat → Prop} {w w' : World} {bb s : Nat} {u v : Value} {ga : Addr} {g : Int} (k : Kept S w w') (h : SD bb s u v ga g w) (h0 : ¬ S bb) (h1 : ¬ S s) (h2 : ¬ S ga.block) : SD bb s u v ga g w' :=
  ⟨k.cell h.1 h0, k.cell h.2.1 h1, k.cell h.2.2 h2⟩
theorem sd_keep {w w' : World} {bb s : Nat} {u v : Value} {ga : Addr} {g : Int} (hb : Below w.heap.size w w') (h : SD bb s u v ga g w) : SD bb s u v ga g w' := sd_kept (S := fun _ => False) (kept_below hb) h (fun e => e) (fun e => e) (fun e => e)
theorem sd_store {w : World} {bb s gt o : Nat} {u v : Value} {ga : Addr} {g gx : Int} (h : SD bb s u v ga g w) (hk : bb ≠ gt ∧ s ≠ gt ∧ ga.block ≠ gt) :
    SD bb s u v ga g ((((((((w.setCell ⟨gt, o, none⟩ (.int .i64 0)).setCell ⟨gt, o + 1, none⟩ (.int .i64 gx)).setCell ⟨gt, o + 2, none⟩ (.int .i64 0)).setCell ⟨gt, o + 3, none⟩ (.int .i64 0)).setCell ⟨gt, o + 4, none⟩ (.int .i64 0)).setCell ⟨gt, o + 5, none⟩ (.int .i64 0)).setCell ⟨gt, o + 6, none⟩ (.int .i64 (-1))).setCell ⟨gt, o + 7, none⟩ (.int .i64 0)) :=
  sd_kept (kept_eight w gt o (Th.none gx)) h hk.1 hk.2.1 hk.2.2
theorem sd_drew {w : World} {bb s : Nat} {u v : Value} {ga : Addr} {g : Int} (h : SD bb s u v ga g w) : SD bb s u v ga g w.drew := sd_keep (Below.refl _ _).drew h
set_option maxRecDepth 100000 in
set_option maxHeartbeats 4000000 in
/-- Drop. -/
theorem drop_any (x : Wh) (a : Ar) (p : Int) (w : World) (HS : Hid (Sm a)) (HH : Hid (HasA w x a)) :
    Calls Try.prog 26 #[(.agg #[.slice x.t.o x.t.n x.t.c, .slice x.f.o x.f.n x.f.c]), .int .i64 p] w fun e w' => ∃ y : Wh, e = .returned (.tuple #[(.agg #[.slice y.t.o y.t.n y.t.c, .slice y.f.o y.f.n y.f.c]), .int .i64 (dropE a p)]) ∧ HasO w' y (dropA a p) ∧ Below w.heap.size w w' := by
  obtain ⟨⟨xo, tn, tc⟩, ⟨fo, fn, fc⟩⟩ := x
  have HTN : Hid (tn = a.ts.length) := HH.out.tn
  go_enter Try.func26, Try.ntmps26
  go_wp2_with fail
  have HD := hid (dd_new w ⟨⟨xo, tn, tc⟩, ⟨fo, fn, fc⟩⟩)
  dsimp only at HD
  generalize (w.alloc (.cells #[.slice xo tn tc, .slice fo fn fc] 25)).alloc (.cells #[.slice none 0 0, .slice none 0 0] 25) = V at HD ⊢
  refine (apart_any ⟨⟨xo, tn, tc⟩, ⟨fo, fn, fc⟩⟩ a w V HS HH HD.out.low).mono ?_
  rintro e V1 ⟨⟨⟨yto, ytn, ytc⟩, ⟨yfo, yfn, yfc⟩⟩, rfl, ⟨hs, hO⟩, b1⟩
  have HA := hid (aft_new HD.out.low HD.out.box HD.out.res HD.out.sz (by omega) hO b1)
  dsimp only at HA
  obtain ⟨c0, c1, cf⟩ := HD.out.box.below b1
  have n1 : w.heap.size < V1.heap.size := InA.lt ⟨c0, c1, cf⟩
  clear hO b1 HD
  go_wp2_with fail
  clear c0 c1 cf n1
  generalize hbb : V1.heap.size = bb at HA ⊢
  generalize V1.alloc (.cells #[.slice yto ytn ytc, .slice yfo yfn yfc] 25) = W at HA ⊢
  clear hbb
  refine (haslive_any ⟨⟨xo, tn, tc⟩, ⟨fo, fn, fc⟩⟩ a p W HS (HH.out.below HA.out.low)).mono ?_
  rintro e w2 ⟨rfl, b2⟩
  replace HA := hid (HA.out.below b2)
  clear b2
  cases hb : hlB a p with
  | true =>
    obtain ⟨hok, hp0, hp1, hlv⟩ := hl_iff.1 hb
    clear hb
    obtain ⟨q, rfl⟩ : ∃ q : Nat, p = (q : Int) := ⟨p.toNat, by omega⟩
    have HO := hid hok
    have HLV := hid hlv
    have HQ : Hid (q < a.ts.length) := (by omega : q < a.ts.length)
    have q2 : (q : Int) < (tn : Int) := by have := HTN.out; omega
    clear hok hlv hp1
    obtain ⟨ta, e, hAt⟩ := HH.out.t.at_ q (by show q < tn; omega)
    have e : xo = some ta := e
    subst e
    obtain ⟨tq, htq⟩ : ∃ tq, a.ts.getD q Th.zero = tq := ⟨_, rfl⟩
    rw [htq] at hAt
    have HTQ := hid htq
    have HAt := hid hAt
    clear htq hAt
    obtain ⟨c0, c1, cf⟩ := HA.out.box
    obtain ⟨t0, t1, t2, t3, t4, t5, t6, t7⟩ := HAt.out.below HA.out.low
    by_cases hr : tq.refs = 0
    · have e1 := beq_of hr
      have e2 : (tq.refs != 0) = false := by simp [hr]
      have HR := hid hr
      clear hr
      have HE := hid (dropE_zero.2 ⟨HO.out, hp0, by have := HQ.out; omega, HLV.out, by rw [at_nat, HTQ.out]; exact HR.out⟩)
      go_upto_region 4 with fail
      have HYT : Hid (ytn = a.ts.length) := HA.out.own.tn
      have q3 : (q : Int) < (ytn : Int) := by have := HYT.out; have := HTN.out; omega
      obtain ⟨gt, e, hgt⟩ := own_head HA.out.own.t (by show 0 < ytn; omega)
      have e : yto = some ⟨gt, 0, none⟩ := e
      subst e
      obtain ⟨d0, d1, df⟩ := HA.out.cop
      have HG := hid (HA.out.gt rfl)
      have hS : SD bb w.heap.size (.slice (some ⟨gt, 0, none⟩) ytn ytc) (.slice (some ta) tn tc) ⟨(ta.add (q * 8)).block, (ta.add (q * 8)).off + 1, none⟩ tq.gen w2 := ⟨d0, c0, t1⟩
      have HK : Hid (bb ≠ gt ∧ w.heap.size ≠ gt ∧ (ta.add (q * 8)).block ≠ gt) := by
        have h1 := HG.out
        have h2 := HA.out.hs0
        have h3 : (ta.add (q * 8)).block < w.heap.size := World.block_lt_of_cell? w _ HAt.out.c0
        exact ⟨fun e => h1.1 (.inr e.symm), by omega, by omega⟩
      have CN := hid (next_any tq.gen)
      obtain ⟨gx, hgx⟩ : ∃ gx, nxG tq.gen = gx := ⟨_, rfl⟩
      rw [hgx] at CN
      have HGX := hid hgx
      clear hgx c1 cf t0 t2 t3 t4 t5 t6 t7 d1 df e1 e2
      have CO := hid (nothing_any gx)
      go_region_held3 (SD bb w.heap.size (.slice (some ⟨gt, 0, none⟩) ytn ytc) (.slice (some ta) tn tc) ⟨(ta.add (q * 8)).block, (ta.add (q * 8)).off + 1, none⟩ tq.gen) (first | with_reducible assumption | with_reducible exact HS3.out | with_reducible exact sd_store HS3.out HK.out | with_reducible exact sd_drew hS)
        (first
          | (go_at_call 50; refine (CN.out _).mono ?_; rintro e w' ⟨rfl, hw⟩; rw [hw]; clear hw)
          | (go_at_call 28; refine (CO.out _).mono ?_; rintro e w3 ⟨rfl, b⟩; have HB3 : Hid (Below w2.heap.size w2 w3) := (by first | exact b | exact q_trans (Below.refl _ w2).drew b); have HS3 : Hid (SD bb w.heap.size (.slice (some ⟨gt, 0, none⟩) ytn ytc) (.slice (some ta) tn tc) ⟨(ta.add (q * 8)).block, (ta.add (q * 8)).off + 1, none⟩ tq.gen w3) := (sd_keep HB3.out hS); obtain ⟨o0, o1, o2, o3, o4, o5, o6, o7⟩ := own_at (HA.out.below HB3.out).own.t q (by exact HQ.out); have ofz : ∀ j, w3.frozen? ⟨gt, j, none⟩ = false := (fun j => own_frozen (HA.out.below HB3.out).own.t)))
      replace HA := hid ((HA.out.below HB3.out).setT rfl q HQ.out (Th.none gx))
      dsimp only [Th.none] at HA
      clear o0 o1 o2 o3 o4 o5 o6 o7 ofz hS HS3 HB3 b c0 t1 d0
      generalize (((((((w3.setCell _ _).setCell _ _).setCell _ _).setCell _ _).setCell _ _).setCell _ _).setCell _ _).setCell _ _ = W7 at HA ⊢
      obtain ⟨d0, d1, df⟩ := HA.out.cop
      obtain ⟨r0, r1, rf⟩ := HA.out.res
      go_wp2_with fail
      refine bodyPost_ret (v := .tuple #[.agg #[.slice (some ⟨gt, 0, none⟩) ytn ytc, .slice yfo yfn yfc], .int .i64 0]) (by simp [results, Try.results26, go_sem, r0, r1]) rfl ⟨⟨⟨some ⟨gt, 0, none⟩, ytn, ytc⟩, ⟨yfo, yfn, yfc⟩⟩, ?_, ?_⟩
      · rw [HE.out]
      · have := HA.out.fin
        rw [show dropA a (q : Int) = ⟨a.ts.set q (Th.none gx), a.fr⟩ by
          have e : dropA a (q : Int) = _ := if_pos HE.out
          rw [e, at_nat, HTQ.out, HGX.out]
          rfl]
        exact this
    · have e2 : (tq.refs != 0) = true := by simp [hr]
      have HE := hid (dropE_no (a := a) (p := (q : Int)) (fun k => hr (by have := k.2.2.2.2; rwa [at_nat, HTQ.out] at this)))
      clear hr
      obtain ⟨d0, d1, df⟩ := HA.out.cop
      obtain ⟨r0, r1, rf⟩ := HA.out.res
      go_wp2_with fail
      refine bodyPost_ret (v := .tuple #[.agg #[.slice yto ytn ytc, .slice yfo yfn yfc], .int .i64 2]) (by simp [results, Try.results26, go_sem, r0, r1]) rfl ⟨⟨⟨yto, ytn, ytc⟩, ⟨yfo, yfn, yfc⟩⟩, ?_, ?_⟩
      · rw [HE.out]
      · rw [drop_no (by rw [HE.out]; decide)]; exact HA.out.fin
  | false =>
    have HE := hid (dropE_no (a := a) (p := p) (fun k => by rw [hl_yes k.1 k.2.1 k.2.2.1 k.2.2.2.1] at hb; cases hb))
    clear hb
    obtain ⟨c0, c1, cf⟩ := HA.out.cop
    obtain ⟨r0, r1, rf⟩ := HA.out.res
    go_wp2_with fail
    refine bodyPost_ret (v := .tuple #[.agg #[.slice yto ytn ytc, .slice yfo yfn yfc], .int .i64 2]) (by simp [results, Try.results26, go_sem, r0, r1]) rfl ⟨⟨⟨yto, ytn, ytc⟩, ⟨yfo, yfn, yfc⟩⟩, ?_, ?_⟩
    · rw [HE.out]
    · rw [drop_no (by rw [HE.out]; decide)]; exact HA.out.fin
end Go.Proofs.Ytnagpedkmfmniaa.Ar
