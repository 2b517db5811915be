/- What Give does. -/
import Derived.Test.YtnagpedkmfmniaaArDrop
import Derived.Test.YtnagpedkmfmniaaArMore
namespace Go.Proofs.Ytnagpedkmfmniaa.Ar
open Go.RowKit Go.Proofs.Ytnagpedkmfmniaa.Ha

theorem giveE_no {a : Ar} {c p : Int} (h : ¬ (Ok a ∧ 0 ≤ p ∧ p < a.ts.length ∧ 0 ≤ c ∧ c < a.fr.length ∧ liveT (at_ a.ts p) = false ∧ cnt a.fr p = 0)) : giveE a c p = 2 := by
  rcases giveE_ways a c p with e | e
  · exact absurd (giveE_zero.1 e) h
  · exact e
abbrev S3 (a1 a2 a3 : Addr) (u v z : Value) (w : World) : Prop := w.cell? a1 = some u ∧ w.cell? a2 = some v ∧ w.cell? a3 = some z
theorem s3_kept {S : Nat → Prop} {w w' : World} {a1 a2 a3 : Addr} {u v z : Value} (k : Kept S w w') (h : S3 a1 a2 a3 u v z w) (h0 : ¬ S a1.block) (h1 : ¬ S a2.block) (h2 : ¬ S a3.block) : S3 a1 a2 a3 u v z w' :=
  ⟨k.cell h.1 h0, k.cell h.2.1 h1, k.cell h.2.2 h2⟩
theorem s3_keep {w w' : World} {a1 a2 a3 : Addr} {u v z : Value} (hb : Below w.heap.size w w') (h : S3 a1 a2 a3 u v z w) : S3 a1 a2 a3 u v z w' := s3_kept (S := fun _ => False) (kept_below hb) h (fun e => e) (fun e => e) (fun e => e)
theorem s3_drew {w : World} {a1 a2 a3 : Addr} {u v z : Value} (h : S3 a1 a2 a3 u v z w) : S3 a1 a2 a3 u v z w.drew := s3_keep (Below.refl _ _).drew h
theorem s3_put {w : World} {a1 a2 a3 : Addr} {u v z y : Value} {g k : Nat} (h : S3 a1 a2 a3 u v z w) (hk : a1.block ≠ g ∧ a2.block ≠ g ∧ a3.block ≠ g) : S3 a1 a2 a3 u v z (w.setCell ⟨g, k, none⟩ y) :=
  s3_kept (S := fun i => i = g) (kept_set _ w _ _ rfl) h hk.1 hk.2.1 hk.2.2
set_option maxRecDepth 100000 in
set_option maxHeartbeats 4000000 in
/-- Give. -/
theorem give_any (x : Wh) (a : Ar) (c p : Int) (w : World) (HS : Hid (Sm a)) (HH : Hid (HasA w x a)) :
    Calls Try.prog 27 #[(.agg #[.slice x.t.o x.t.n x.t.c, .slice x.f.o x.f.n x.f.c]), .int .i64 c, .int .i64 p] w fun e w' => ∃ y : Wh, e = .returned (.tuple #[(.agg #[.slice y.t.o y.t.n y.t.c, .slice y.f.o y.f.n y.f.c]), .int .i64 (giveE a c p)]) ∧ HasO w' y (giveA a c p) ∧ Below w.heap.size w w' := by
  obtain ⟨⟨xo, tn, tc⟩, ⟨fo, fn, fc⟩⟩ := x
  have HTN : Hid (tn = a.ts.length) := HH.out.tn
  have HFN : Hid (fn = a.fr.length) := HH.out.fn
  go_enter Try.func27, Try.ntmps27
  go_wp2_with fail
  have HD := hid (dd_new w ⟨⟨xo, tn, tc⟩, ⟨fo, fn, fc⟩⟩)
  dsimp only at HD
  generalize (w.alloc (.cells #[.slice xo tn tc, .slice fo fn fc] 25)).alloc (.cells #[.slice none 0 0, .slice none 0 0] 25) = V at HD ⊢
  refine (apart_any ⟨⟨xo, tn, tc⟩, ⟨fo, fn, fc⟩⟩ a w V HS HH HD.out.low).mono ?_
  rintro e V1 ⟨⟨⟨yto, ytn, ytc⟩, ⟨yfo, yfn, yfc⟩⟩, rfl, ⟨hs, hO⟩, b1⟩
  have HA := hid (aft_new HD.out.low HD.out.box HD.out.res HD.out.sz (by omega) hO b1)
  dsimp only at HA
  obtain ⟨c0, c1, cf⟩ := HD.out.box.below b1
  have n1 : w.heap.size < V1.heap.size := InA.lt ⟨c0, c1, cf⟩
  clear hO b1 HD
  go_wp2_with fail
  clear c0 c1 cf n1
  generalize hbb : V1.heap.size = bb at HA ⊢
  generalize V1.alloc (.cells #[.slice yto ytn ytc, .slice yfo yfn yfc] 25) = W at HA ⊢
  clear hbb
  refine (check_any ⟨⟨xo, tn, tc⟩, ⟨fo, fn, fc⟩⟩ a W HS (HH.out.below HA.out.low)).mono ?_
  rintro e w2 ⟨rfl, b2⟩
  replace HA := hid (HA.out.below b2)
  clear b2
  by_cases hok : Ok a
  · rw [chk_yes hok]
    have HO := hid hok
    clear hok
    obtain ⟨c0, c1, cf⟩ := HA.out.box
    go_wp2_with fail
    refine (core_any ⟨⟨xo, tn, tc⟩, ⟨fo, fn, fc⟩⟩ c _).mono ?_
    rintro e w3 ⟨rfl, b3⟩
    replace HA := hid (HA.out.below b3)
    clear b3 c0 c1 cf
    by_cases hin : 0 ≤ c ∧ c < (fn : Int)
    · rw [thB_yes hin]
      obtain ⟨k, rfl⟩ : ∃ k : Nat, c = (k : Int) := ⟨c.toNat, by omega⟩
      obtain ⟨k1, k2⟩ := hin
      have HK : Hid (k < a.fr.length) := by have := HFN.out; exact (by omega : k < a.fr.length)
      obtain ⟨c0, c1, cf⟩ := HA.out.box
      go_wp2_with fail
      refine (there_any ⟨⟨xo, tn, tc⟩, ⟨fo, fn, fc⟩⟩ p _).mono ?_
      rintro e w4 ⟨rfl, b4⟩
      replace HA := hid (HA.out.below b4)
      clear b4 c0 c1 cf
      by_cases hip : 0 ≤ p ∧ p < (tn : Int)
      · rw [thB_yes hip]
        obtain ⟨q, rfl⟩ : ∃ q : Nat, p = (q : Int) := ⟨p.toNat, by omega⟩
        obtain ⟨q1, q2⟩ := hip
        have HQ : Hid (q < a.ts.length) := by have := HTN.out; exact (by omega : q < a.ts.length)
        obtain ⟨ta, e, hAt⟩ := HH.out.t.at_ q (by show q < tn; omega)
        have e : xo = some ta := e
        subst e
        obtain ⟨tq, htq⟩ : ∃ tq, a.ts.getD q Th.zero = tq := ⟨_, rfl⟩
        rw [htq] at hAt
        have HTQ := hid htq
        have HAt := hid hAt
        clear htq hAt
        obtain ⟨c0, c1, cf⟩ := HA.out.box
        obtain ⟨t0, t1, t2, t3, t4, t5, t6, t7⟩ := HAt.out.below HA.out.low
        go_wp2_with fail
        refine (live_any tq _).mono ?_
        rintro e w5 ⟨rfl, b5⟩
        replace HA := hid (HA.out.below b5)
        clear b5 c0 c1 cf t0 t1 t2 t3 t4 t5 t6 t7
        cases hb : liveT tq with
        | true =>
          have HE := hid (giveE_no (a := a) (c := (k : Int)) (p := (q : Int)) (fun h => by have := h.2.2.2.2.2.1; rw [at_nat, HTQ.out, hb] at this; cases this))
          clear hb
          obtain ⟨d0, d1, df⟩ := HA.out.cop
          obtain ⟨r0, r1, rf⟩ := HA.out.res
          go_wp2_with fail
          refine bodyPost_ret (v := .tuple #[.agg #[.slice yto ytn ytc, .slice yfo yfn yfc], .int .i64 2]) (by simp [results, Try.results27, go_sem, r0, r1]) rfl ⟨⟨⟨yto, ytn, ytc⟩, ⟨yfo, yfn, yfc⟩⟩, ?_, ?_⟩
          · rw [HE.out]
          · rw [give_no (by rw [HE.out]; decide)]; exact HA.out.fin
        | false =>
          have HLV := hid hb
          clear hb
          obtain ⟨c0, c1, cf⟩ := HA.out.box
          go_wp2_with fail
          refine (free_any ⟨⟨some ta, tn, tc⟩, ⟨fo, fn, fc⟩⟩ a (q : Int) _ HS (HH.out.below HA.out.low)).mono ?_
          rintro e w6 ⟨rfl, b6⟩
          replace HA := hid (HA.out.below b6)
          clear b6 c0 c1 cf
          cases hb : inB a.fr (q : Int) with
          | true =>
            have HE := hid (giveE_no (a := a) (c := (k : Int)) (p := (q : Int)) (fun h => by have := inB_iff.1 hb; have := h.2.2.2.2.2.2; omega))
            clear hb
            obtain ⟨d0, d1, df⟩ := HA.out.cop
            obtain ⟨r0, r1, rf⟩ := HA.out.res
            go_wp2_with fail
            refine bodyPost_ret (v := .tuple #[.agg #[.slice yto ytn ytc, .slice yfo yfn yfc], .int .i64 2]) (by simp [results, Try.results27, go_sem, r0, r1]) rfl ⟨⟨⟨yto, ytn, ytc⟩, ⟨yfo, yfn, yfc⟩⟩, ?_, ?_⟩
            · rw [HE.out]
            · rw [give_no (by rw [HE.out]; decide)]; exact HA.out.fin
          | false =>
            have HE := hid (giveE_zero.2 ⟨HO.out, q1, by have := HQ.out; omega, k1, by have := HK.out; omega, by rw [at_nat, HTQ.out]; exact HLV.out, inB_not.1 hb⟩)
            clear hb
            obtain ⟨c0, c1, cf⟩ := HA.out.box
            obtain ⟨t0, t1, t2, t3, t4, t5, t6, t7⟩ := HAt.out.below HA.out.low
            go_wp2_with fail
            refine (retired_any tq _).mono ?_
            rintro e w7 ⟨rfl, b7⟩
            replace HA := hid (HA.out.below b7)
            clear b7 c0 c1 cf t0 t1 t2 t3 t4 t5 t6 t7
            cases hb : retT tq with
            | true =>
              have HG := hid (ret_iff.1 hb)
              clear hb
              obtain ⟨d0, d1, df⟩ := HA.out.cop
              obtain ⟨r0, r1, rf⟩ := HA.out.res
              go_wp2_with fail
              refine bodyPost_ret (v := .tuple #[.agg #[.slice yto ytn ytc, .slice yfo yfn yfc], .int .i64 0]) (by simp [results, Try.results27, go_sem, r0, r1]) rfl ⟨⟨⟨yto, ytn, ytc⟩, ⟨yfo, yfn, yfc⟩⟩, ?_, ?_⟩
              · rw [HE.out]
              · rw [show giveA a (k : Int) (q : Int) = a from if_neg (fun h => h.2 (by rw [at_nat, HTQ.out]; exact HG.out))]; exact HA.out.fin
            | false =>
              have HG := hid (ret_not.1 hb)
              clear hb
              obtain ⟨fa, lo, m, lc, e, ca, hL⟩ := HH.out.list k HK.out
              have e : fo = some fa := e
              subst e
              have hm : m ≤ 1000 := by have := hL.len; have := HS.out.e k; omega
              have HFA := hid (World.block_lt_of_cell? w _ ca)
              replace ca := (kept_below (S := fun _ => False) HA.out.low).cell ca (fun e => e)
              have CM := hid (fun W' (b : Below w7.heap.size w7 W') => more_any lo m lc (a.fr.getD k []) (q : Int) W' hm ((hL.below HA.out.low).below b))
              clear hL
              have HYN : Hid (yfn = a.fr.length) := HA.out.own.fn
              have k3 : (k : Int) < (yfn : Int) := by have := HYN.out; have := HFN.out; omega
              obtain ⟨g, e, hg⟩ := own_head HA.out.own.f (by show 0 < yfn; omega)
              have e : yfo = some ⟨g, 0, none⟩ := e
              subst e
              obtain ⟨_, e, ci⟩ := (own_row HA.out.own.f).1.cell k _ (hds_at hs k (by have := HA.out.own.hl; have := HK.out; omega))
              cases e
              rw [add0] at ci
              have HCI := hid ci
              have HFZ : Hid (w7.frozen? ⟨g, k, none⟩ = false) := own_frozen HA.out.own.f
              clear ci hg
              obtain ⟨c0, c1, cf⟩ := HA.out.box
              obtain ⟨d0, d1, df⟩ := HA.out.cop
              have HNE : Hid (bb ≠ g ∧ w.heap.size ≠ g ∧ (fa.add k).block ≠ g) := by
                have h1 := HA.out.gf rfl
                have h2 := HA.out.hs0
                have h3 := HFA.out
                exact ⟨fun e => h1.1 (.inr e.symm), by omega, by omega⟩
              go_upto_region 5 with fail
              have hS : S3 ⟨bb, 1, none⟩ ⟨w.heap.size, 1, none⟩ (fa.add k) (.slice (some ⟨g, 0, none⟩) yfn yfc) (.slice (some fa) fn fc) (.slice lo m lc) w7 := ⟨d1, c1, ca⟩
              clear c0 cf d0 df
              go_region_held3 (S3 ⟨bb, 1, none⟩ ⟨w.heap.size, 1, none⟩ (fa.add k) (.slice (some ⟨g, 0, none⟩) yfn yfc) (.slice (some fa) fn fc) (.slice lo m lc)) (first | with_reducible assumption | with_reducible exact HS8.out | with_reducible exact s3_put HS8.out HNE.out | with_reducible exact s3_drew hS)
                (first
                  | (go_at_call 29; refine (CM.out _ (by first | exact Below.refl _ _ | exact (Below.refl _ w7).drew)).mono ?_; rintro e w8 ⟨v, rfl, hv, b⟩; have HB8 : Hid (Below w7.heap.size w7 w8) := (by first | exact b | exact q_trans (Below.refl _ w7).drew b); have HS8 : Hid (S3 ⟨bb, 1, none⟩ ⟨w.heap.size, 1, none⟩ (fa.add k) (.slice (some ⟨g, 0, none⟩) yfn yfc) (.slice (some fa) fn fc) (.slice lo m lc) w8) := (s3_keep HB8.out hS); have HV : Hid (Mine w8 w7.heap.size v.o v.n v.c (a.fr.getD k [] ++ [(q : Int)])) := hv; have d8 := (kept_below (S := fun _ => False) HB8.out).cell HCI.out (fun e => e); have dfz : w8.frozen? ⟨g, k, none⟩ = false := ((World.frozen?_of_block (HB8.out.block _ (World.block_lt_of_cell? w7 _ HCI.out))).trans HFZ.out); clear hv))
              have HOF := hid (HA.out.apart HV.out)
              replace HA := hid ((HA.out.below HB8.out).setF rfl k HK.out v _ HV.out.has HOF.out)
              clear d8 dfz hS HS8 HB8 b c1 d1 ca
              generalize w8.setCell _ _ = W9 at HA ⊢
              obtain ⟨d0, d1, df⟩ := HA.out.cop
              obtain ⟨r0, r1, rf⟩ := HA.out.res
              go_wp2_with fail
              refine bodyPost_ret (v := .tuple #[.agg #[.slice yto ytn ytc, .slice (some ⟨g, 0, none⟩) yfn yfc], .int .i64 0]) (by simp [results, Try.results27, go_sem, r0, r1]) rfl ⟨⟨⟨yto, ytn, ytc⟩, ⟨some ⟨g, 0, none⟩, yfn, yfc⟩⟩, ?_, ?_⟩
              · rw [HE.out]
              · have := HA.out.fin
                rw [show giveA a (k : Int) (q : Int) = ⟨a.ts, a.fr.set k (a.fr.getD k [] ++ [(q : Int)])⟩ from if_pos ⟨HE.out, by rw [at_nat, HTQ.out]; exact HG.out⟩]
                exact this
      · rw [thB_no hip]
        have HE := hid (giveE_no (a := a) (c := (k : Int)) (p := p) (fun h => hip ⟨h.2.1, by have := h.2.2.1; have := HTN.out; omega⟩))
        clear hip
        obtain ⟨d0, d1, df⟩ := HA.out.cop
        obtain ⟨r0, r1, rf⟩ := HA.out.res
        go_wp2_with fail
        refine bodyPost_ret (v := .tuple #[.agg #[.slice yto ytn ytc, .slice yfo yfn yfc], .int .i64 2]) (by simp [results, Try.results27, go_sem, r0, r1]) rfl ⟨⟨⟨yto, ytn, ytc⟩, ⟨yfo, yfn, yfc⟩⟩, ?_, ?_⟩
        · rw [HE.out]
        · rw [give_no (by rw [HE.out]; decide)]; exact HA.out.fin
    · rw [thB_no hin]
      have HE := hid (giveE_no (a := a) (c := c) (p := p) (fun h => hin ⟨h.2.2.2.1, by have := h.2.2.2.2.1; have := HFN.out; omega⟩))
      clear hin
      obtain ⟨d0, d1, df⟩ := HA.out.cop
      obtain ⟨r0, r1, rf⟩ := HA.out.res
      go_wp2_with fail
      refine bodyPost_ret (v := .tuple #[.agg #[.slice yto ytn ytc, .slice yfo yfn yfc], .int .i64 2]) (by simp [results, Try.results27, go_sem, r0, r1]) rfl ⟨⟨⟨yto, ytn, ytc⟩, ⟨yfo, yfn, yfc⟩⟩, ?_, ?_⟩
      · rw [HE.out]
      · rw [give_no (by rw [HE.out]; decide)]; exact HA.out.fin
  · rw [chk_no hok]
    have HE := hid (giveE_no (a := a) (c := c) (p := p) (fun h => hok h.1))
    clear hok
    obtain ⟨d0, d1, df⟩ := HA.out.cop
    obtain ⟨r0, r1, rf⟩ := HA.out.res
    go_wp2_with fail
    refine bodyPost_ret (v := .tuple #[.agg #[.slice yto ytn ytc, .slice yfo yfn yfc], .int .i64 2]) (by simp [results, Try.results27, go_sem, r0, r1]) rfl ⟨⟨⟨yto, ytn, ytc⟩, ⟨yfo, yfn, yfc⟩⟩, ?_, ?_⟩
    · rw [HE.out]
    · rw [give_no (by rw [HE.out]; decide)]; exact HA.out.fin
end Go.Proofs.Ytnagpedkmfmniaa.Ar
