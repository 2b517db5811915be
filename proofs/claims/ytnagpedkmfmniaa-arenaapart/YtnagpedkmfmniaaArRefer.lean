/- What Refer and State do. -/
import Derived.Test.YtnagpedkmfmniaaArDrop
namespace Go.Proofs.Ytnagpedkmfmniaa.Ar
open Go.RowKit Go.Proofs.Ytnagpedkmfmniaa.Ha

theorem refE_no {a : Ar} {p b : Int} (h : ¬ (Ok a ∧ 0 ≤ p ∧ p < a.ts.length ∧ liveT (at_ a.ts p) = true ∧ -100 ≤ b ∧ b ≤ 100 ∧ 0 ≤ (at_ a.ts p).refs + b)) : refE a p b = 2 := by
  rcases refE_ways a p b with e | e
  · exact absurd (refE_zero.1 e) h
  · exact e
set_option maxRecDepth 100000 in
set_option maxHeartbeats 4000000 in
/-- Refer. -/
theorem refer_any (x : Wh) (a : Ar) (p b : Int) (w : World) (HS : Hid (Sm a)) (HRB : Hid (RefB a 1000000000000)) (HH : Hid (HasA w x a)) :
    Calls Try.prog 25 #[(.agg #[.slice x.t.o x.t.n x.t.c, .slice x.f.o x.f.n x.f.c]), .int .i64 p, .int .i64 b] w fun e w' => ∃ y : Wh, e = .returned (.tuple #[(.agg #[.slice y.t.o y.t.n y.t.c, .slice y.f.o y.f.n y.f.c]), .int .i64 (refE a p b)]) ∧ HasO w' y (refA a p b) ∧ Below w.heap.size w w' := by
  obtain ⟨⟨xo, tn, tc⟩, ⟨fo, fn, fc⟩⟩ := x
  have HTN : Hid (tn = a.ts.length) := HH.out.tn
  go_enter Try.func25, Try.ntmps25
  go_wp2_with fail
  have HD := hid (dd_new w ⟨⟨xo, tn, tc⟩, ⟨fo, fn, fc⟩⟩)
  dsimp only at HD
  generalize (w.alloc (.cells #[.slice xo tn tc, .slice fo fn fc] 25)).alloc (.cells #[.slice none 0 0, .slice none 0 0] 25) = V at HD ⊢
  refine (apart_any ⟨⟨xo, tn, tc⟩, ⟨fo, fn, fc⟩⟩ a w V HS HH HD.out.low).mono ?_
  rintro e V1 ⟨⟨⟨yto, ytn, ytc⟩, ⟨yfo, yfn, yfc⟩⟩, rfl, ⟨hs, hO⟩, b1⟩
  have HA := hid (aft_new HD.out.low HD.out.box HD.out.res HD.out.sz (by omega) hO b1)
  dsimp only at HA
  obtain ⟨c0, c1, cf⟩ := HD.out.box.below b1
  have n1 : w.heap.size < V1.heap.size := InA.lt ⟨c0, c1, cf⟩
  clear hO b1 HD
  go_wp2_with fail
  clear c0 c1 cf n1
  generalize hbb : V1.heap.size = bb at HA ⊢
  generalize V1.alloc (.cells #[.slice yto ytn ytc, .slice yfo yfn yfc] 25) = W at HA ⊢
  clear hbb
  refine (haslive_any ⟨⟨xo, tn, tc⟩, ⟨fo, fn, fc⟩⟩ a p W HS (HH.out.below HA.out.low)).mono ?_
  rintro e w2 ⟨rfl, b2⟩
  replace HA := hid (HA.out.below b2)
  clear b2
  cases hb : hlB a p with
  | true =>
    obtain ⟨hok, hp0, hp1, hlv⟩ := hl_iff.1 hb
    clear hb
    obtain ⟨q, rfl⟩ : ∃ q : Nat, p = (q : Int) := ⟨p.toNat, by omega⟩
    have HO := hid hok
    have HLV := hid hlv
    have HQ : Hid (q < a.ts.length) := (by omega : q < a.ts.length)
    have q2 : (q : Int) < (tn : Int) := by have := HTN.out; omega
    clear hok hlv hp1
    by_cases hb1 : -100 ≤ b
    · by_cases hb2 : b ≤ 100
      · obtain ⟨ta, e, hAt⟩ := HH.out.t.at_ q (by show q < tn; omega)
        have e : xo = some ta := e
        subst e
        obtain ⟨tq, htq⟩ : ∃ tq, a.ts.getD q Th.zero = tq := ⟨_, rfl⟩
        rw [htq] at hAt
        have HTQ := hid htq
        have r1 : tq.refs ≤ 1000000000000 := by have := HRB.out q HQ.out; rwa [htq] at this
        have r2 : 0 ≤ tq.refs := by have := (HO.out.things q HQ.out).r0; rwa [htq] at this
        clear htq
        obtain ⟨c0, c1, cf⟩ := HA.out.box
        have t2 := (hAt.below HA.out.low).c2
        clear hAt
        by_cases hr : 0 ≤ tq.refs + b
        · have HE := hid (refE_zero.2 ⟨HO.out, hp0, by have := HQ.out; omega, HLV.out, hb1, hb2, by rw [at_nat, HTQ.out]; exact hr⟩)
          go_upto_region 7 with fail
          have HYT : Hid (ytn = a.ts.length) := HA.out.own.tn
          have q3 : (q : Int) < (ytn : Int) := by have := HYT.out; have := HTN.out; omega
          obtain ⟨gt, e, hgt⟩ := own_head HA.out.own.t (by show 0 < ytn; omega)
          have e : yto = some ⟨gt, 0, none⟩ := e
          subst e
          obtain ⟨o0, o1, o2, o3, o4, o5, o6, o7⟩ := own_at HA.out.own.t q (by exact HQ.out)
          have ofz : ∀ j, w2.frozen? ⟨gt, j, none⟩ = false := fun j => own_frozen HA.out.own.t
          obtain ⟨d0, d1, df⟩ := HA.out.cop
          clear o0 o1 o3 o4 o5 o6 o7 c0 c1 cf t2 hgt
          go_upto_region 8 with fail
          replace HA := hid (HA.out.setR rfl q HQ.out (tq.refs + b))
          clear o2 ofz d0 d1 df
          generalize w2.setCell _ _ = W7 at HA ⊢
          obtain ⟨d0, d1, df⟩ := HA.out.cop
          obtain ⟨s0, s1, sf⟩ := HA.out.res
          go_wp2_with fail
          refine bodyPost_ret (v := .tuple #[.agg #[.slice (some ⟨gt, 0, none⟩) ytn ytc, .slice yfo yfn yfc], .int .i64 0]) (by simp [results, Try.results25, go_sem, s0, s1]) rfl ⟨⟨⟨some ⟨gt, 0, none⟩, ytn, ytc⟩, ⟨yfo, yfn, yfc⟩⟩, ?_, ?_⟩
          · rw [HE.out]
          · have := HA.out.fin
            rw [show refA a (q : Int) b = ⟨a.ts.set q ⟨(a.ts.getD q Th.zero).ty, (a.ts.getD q Th.zero).gen, tq.refs + b, (a.ts.getD q Th.zero).st, (a.ts.getD q Th.zero).sz, (a.ts.getD q Th.zero).wa, (a.ts.getD q Th.zero).fm, (a.ts.getD q Th.zero).va⟩, a.fr⟩ by
              have e : refA a (q : Int) b = _ := if_pos HE.out
              rw [e, at_nat]
              unfold refT
              rw [HTQ.out]
              rfl]
            exact this
        · have HE := hid (refE_no (a := a) (p := (q : Int)) (b := b) (fun k => hr (by have := k.2.2.2.2.2.2; rwa [at_nat, HTQ.out] at this)))
          obtain ⟨d0, d1, df⟩ := HA.out.cop
          obtain ⟨s0, s1, sf⟩ := HA.out.res
          go_wp2_with fail
          refine bodyPost_ret (v := .tuple #[.agg #[.slice yto ytn ytc, .slice yfo yfn yfc], .int .i64 2]) (by simp [results, Try.results25, go_sem, s0, s1]) rfl ⟨⟨⟨yto, ytn, ytc⟩, ⟨yfo, yfn, yfc⟩⟩, ?_, ?_⟩
          · rw [HE.out]
          · rw [ref_no (by rw [HE.out]; decide)]; exact HA.out.fin
      · have HE := hid (refE_no (a := a) (p := (q : Int)) (b := b) (fun k => hb2 k.2.2.2.2.2.1))
        obtain ⟨d0, d1, df⟩ := HA.out.cop
        obtain ⟨s0, s1, sf⟩ := HA.out.res
        go_wp2_with fail
        refine bodyPost_ret (v := .tuple #[.agg #[.slice yto ytn ytc, .slice yfo yfn yfc], .int .i64 2]) (by simp [results, Try.results25, go_sem, s0, s1]) rfl ⟨⟨⟨yto, ytn, ytc⟩, ⟨yfo, yfn, yfc⟩⟩, ?_, ?_⟩
        · rw [HE.out]
        · rw [ref_no (by rw [HE.out]; decide)]; exact HA.out.fin
    · have HE := hid (refE_no (a := a) (p := (q : Int)) (b := b) (fun k => hb1 k.2.2.2.2.1))
      obtain ⟨d0, d1, df⟩ := HA.out.cop
      obtain ⟨s0, s1, sf⟩ := HA.out.res
      go_wp2_with fail
      refine bodyPost_ret (v := .tuple #[.agg #[.slice yto ytn ytc, .slice yfo yfn yfc], .int .i64 2]) (by simp [results, Try.results25, go_sem, s0, s1]) rfl ⟨⟨⟨yto, ytn, ytc⟩, ⟨yfo, yfn, yfc⟩⟩, ?_, ?_⟩
      · rw [HE.out]
      · rw [ref_no (by rw [HE.out]; decide)]; exact HA.out.fin
  | false =>
    have HE := hid (refE_no (a := a) (p := p) (b := b) (fun k => by rw [hl_yes k.1 k.2.1 k.2.2.1 k.2.2.2.1] at hb; cases hb))
    clear hb
    obtain ⟨c0, c1, cf⟩ := HA.out.cop
    obtain ⟨s0, s1, sf⟩ := HA.out.res
    go_wp2_with fail
    refine bodyPost_ret (v := .tuple #[.agg #[.slice yto ytn ytc, .slice yfo yfn yfc], .int .i64 2]) (by simp [results, Try.results25, go_sem, s0, s1]) rfl ⟨⟨⟨yto, ytn, ytc⟩, ⟨yfo, yfn, yfc⟩⟩, ?_, ?_⟩
    · rw [HE.out]
    · rw [ref_no (by rw [HE.out]; decide)]; exact HA.out.fin
end Go.Proofs.Ytnagpedkmfmniaa.Ar
