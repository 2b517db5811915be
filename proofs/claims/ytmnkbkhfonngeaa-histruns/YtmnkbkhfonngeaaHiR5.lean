/- What the document's Note does. -/
import Derived.Test.YtmnkbkhfonngeaaHiApp
import Derived.Test.YtmnkbkhfonngeaaHiR2
import Derived.Test.YtmnkbkhfonngeaaHiW10
namespace Go.Proofs.Ytmnkbkhfonngeaa.Hi
open Go.RowKit

theorem lp_ok {l : List Ev} (h : okE l = true) : 0 ≤ lp l l.length := lp_pre (fun i hi => okE_iff.1 h i hi)
set_option maxRecDepth 100000 in
set_option maxHeartbeats 2000000 in
/-- Note, the document's. -/
theorem rnote_any (x : Hh) (h : Hs) (ev : Ev) (u : Hd) (w : World) (hs : x.s.n ≤ 5000) (he : x.e.n ≤ 5000) (HH : Hid (HasH w x h)) (HU : Hid (HasD w u ev.l)) :
    Calls Try.prog 25 #[(.agg #[.slice x.s.o x.s.n x.s.c, .slice x.e.o x.e.n x.e.c]), (.agg #[.int .i64 ev.k, .int .i64 ev.co, .int .i64 ev.c.k, .int .u64 ev.c.a, .int .u64 ev.c.b, .int .i64 ev.c.r, .int .i64 ev.c.g, .int .i64 ev.c.t, .int .i64 ev.c.s, .int .i64 ev.c.v, .int .i64 ev.sp, .slice u.o u.n u.c])] w fun e w' => ∃ z : Hh, e = .returned (.tuple #[(.agg #[.slice z.s.o z.s.n z.s.c, .slice z.e.o z.e.n z.e.c]), .int .i64 (notE h ev)]) ∧ HasH w' z (notH h ev) ∧ Below w.heap.size w w' := by
  obtain ⟨⟨so, sn, sc⟩, ⟨eo, en, ec⟩⟩ := x
  replace hs : sn ≤ 5000 := hs
  replace he : en ≤ 5000 := he
  have HN3 : Hid (en = h.e.length) := HH.out.e.len
  go_enter Try.func25, Try.ntmps25
  go_upto_region 1 with fail
  have HT : Hid (Bw w (((w.alloc (.cells #[.slice so sn sc, .slice eo en ec] 25)).alloc (.cells #[.int .i64 ev.k, .int .i64 ev.co, .int .i64 ev.c.k, .int .u64 ev.c.a, .int .u64 ev.c.b, .int .i64 ev.c.r, .int .i64 ev.c.g, .int .i64 ev.c.t, .int .i64 ev.c.s, .int .i64 ev.c.v, .int .i64 ev.sp, .slice u.o u.n u.c] 34)).alloc (.cells #[.slice none 0 0, .slice none 0 0] 25)) ⟨⟨so, sn, sc⟩, ⟨eo, en, ec⟩⟩ (.cells #[.int .i64 ev.k, .int .i64 ev.co, .int .i64 ev.c.k, .int .u64 ev.c.a, .int .u64 ev.c.b, .int .i64 ev.c.r, .int .i64 ev.c.g, .int .i64 ev.c.t, .int .i64 ev.c.s, .int .i64 ev.c.v, .int .i64 ev.sp, .slice u.o u.n u.c] 34)) := bw_new w ⟨⟨so, sn, sc⟩, ⟨eo, en, ec⟩⟩ (.cells #[.int .i64 ev.k, .int .i64 ev.co, .int .i64 ev.c.k, .int .u64 ev.c.a, .int .u64 ev.c.b, .int .i64 ev.c.r, .int .i64 ev.c.g, .int .i64 ev.c.t, .int .i64 ev.c.s, .int .i64 ev.c.v, .int .i64 ev.sp, .slice u.o u.n u.c] 34)
  generalize ((w.alloc (.cells #[.slice so sn sc, .slice eo en ec] 25)).alloc (.cells #[.int .i64 ev.k, .int .i64 ev.co, .int .i64 ev.c.k, .int .u64 ev.c.a, .int .u64 ev.c.b, .int .i64 ev.c.r, .int .i64 ev.c.g, .int .i64 ev.c.t, .int .i64 ev.c.s, .int .i64 ev.c.v, .int .i64 ev.sp, .slice u.o u.n u.c] 34)).alloc (.cells #[.slice none 0 0, .slice none 0 0] 25) = W at HT ⊢
  have c0 : W.cell? ⟨w.heap.size, 0, none⟩ = some (.slice so sn sc) := HT.out.a.c0
  have c1 : W.cell? ⟨w.heap.size, 1, none⟩ = some (.slice eo en ec) := HT.out.a.c1
  have HI : Hid (Calls Try.prog 17 #[.agg #[.slice so sn sc, .slice eo en ec]] W fun e w' => e = .returned (.bool (okH h)) ∧ Below W.heap.size W w') := ris_any ⟨⟨so, sn, sc⟩, ⟨eo, en, ec⟩⟩ h W hs he (HH.out.below HT.out.low)
  cases hk : okH h with
  | false =>
    rw [hk] at HI
    have HE := hid (not_180 (e := ev) hk)
    have HNo : Hid (notH h ev = h) := notH_no (by rw [HE.out]; decide)
    clear hk
    go_upto_region 2 with (go_at_call 17; refine HI.out.mono ?_; rintro e w2 ⟨rfl, b2⟩)
    have HZ := hid ((HT.out.below b2).rz HH.out)
    clear b2 c0 c1
    have c0 : w2.cell? ⟨w.heap.size, 0, none⟩ = some (.slice so sn sc) := HZ.out.a.c0
    have c1 : w2.cell? ⟨w.heap.size, 1, none⟩ = some (.slice eo en ec) := HZ.out.a.c1
    have r0 : w2.cell? ⟨w.heap.size + 2, 0, none⟩ = some (.slice none 0 0) := HZ.out.r.c0
    have r1 : w2.cell? ⟨w.heap.size + 2, 1, none⟩ = some (.slice none 0 0) := HZ.out.r.c1
    have f0 := HZ.out.r.fz 0
    have f1 := HZ.out.r.fz 1
    go_wp2_with fail
    refine bodyPost_ret (v := .tuple #[.agg #[.slice so sn sc, .slice eo en ec], .int .i64 180]) (by simp [results, Try.results25, go_sem, *]) rfl ⟨⟨⟨so, sn, sc⟩, ⟨eo, en, ec⟩⟩, ret_2 (z := ⟨⟨so, sn, sc⟩, ⟨eo, en, ec⟩⟩) HE.out.symm, ?_, HZ.out.fin.2⟩
    rw [HNo.out]
    exact HZ.out.fin.1
  | true =>
    rw [hk] at HI
    have HNs := hid (not_s (e := ev) hk)
    have h0 : 0 ≤ lp h.e h.e.length := lp_ok (okH_iff.1 hk).2
    clear hk
    go_upto_region 4 with (go_at_call 17; refine HI.out.mono ?_; rintro e w2 ⟨rfl, b2⟩; have c1 : w2.cell? ⟨w.heap.size, 1, none⟩ = some (.slice eo en ec) := ((HT.out.below b2)).a.c1)
    replace HT := hid (HT.out.below b2)
    clear b2 HI
    obtain ⟨vB, hvB⟩ : ∃ v : Bool, v = !(flB ev (lp h.e h.e.length)) := ⟨_, rfl⟩
    have HVK := hid hvB
    have HM : Hid (Eb w2 (w.heap.size + 1) (ev, u)) := ⟨HT.out.m⟩
    have hne : Nonempty (Later w2) := ⟨⟨w2, Below.refl _ _⟩⟩
    have HCo : Hid (∀ V, Calls Try.prog 32 #[.int .i64 ev.co] V fun e w' => e = .returned (.bool (okC ev.co)) ∧ Below V.heap.size V w') := fun V => (rcore_any ev.co V).mono fun _ _ ⟨a, b⟩ => ⟨a, b ▸ Below.refl _ _⟩
    clear c0 c1
    have c1 : ∀ g : Later w2, g.now.cell? ⟨w.heap.size, 1, none⟩ = some (.slice eo en ec) := fun g => g.cell HT.out.a.c1
    obtain ⟨d0, d1, d2, d3, d4, d5, d6, d7, d8, d9, d10, d11⟩ := HM.out.at.always
    dsimp only at d0 d1 d2 d3 d4 d5 d6 d7 d8 d9 d10 d11
    go_cut [48] from 11 to 60 (fun s wx => s = .bool vB ∧ Hid (Below w2.heap.size w2 wx))
    case first =>
      by_cases k1 : ev.k < 0
      · have HV : Hid (vB = true) := by unfold Hid; rw [hvB, flB_no (by omega)]; rfl
        refine wp_region_later (by kernel_rfl) (by kernel_rfl) ?_
        repeat (go_big_quiet_step (first | (go_at_call 32; with_reducible exact later_call (HCo.out _))))
        refine wpQuiet_nil ?_
        rintro w3 ⟨⟨_, b3⟩, rfl⟩
        go_wp2_with fail
        go_meet
        exact ⟨(by first | (rw [HV.out]; done) | (rw [HV.out]; simp; omega) | (rw [HV.out]; simp)), hid b3⟩
      · by_cases k2 : ev.k > 3
        · have HV : Hid (vB = true) := by unfold Hid; rw [hvB, flB_no (by omega)]; rfl
          refine wp_region_later (by kernel_rfl) (by kernel_rfl) ?_
          repeat (go_big_quiet_step (first | (go_at_call 32; with_reducible exact later_call (HCo.out _))))
          refine wpQuiet_nil ?_
          rintro w3 ⟨⟨_, b3⟩, rfl⟩
          go_wp2_with fail
          go_meet
          exact ⟨(by first | (rw [HV.out]; done) | (rw [HV.out]; simp; omega) | (rw [HV.out]; simp)), hid b3⟩
        · cases hc : okC ev.co with
          | false =>
            rw [hc] at HCo
            have HV : Hid (vB = true) := by unfold Hid; rw [hvB, flB_no (by rw [hc]; simp)]; rfl
            refine wp_region_later (by kernel_rfl) (by kernel_rfl) ?_
            repeat (go_big_quiet_step (first | (go_at_call 32; with_reducible exact later_call (HCo.out _))))
            refine wpQuiet_nil ?_
            rintro w3 ⟨⟨_, b3⟩, rfl⟩
            go_wp2_with fail
            go_meet
            exact ⟨(by first | (rw [HV.out]; done) | (rw [HV.out]; simp; omega) | (rw [HV.out]; simp)), hid b3⟩
          | true =>
            rw [hc] at HCo
            by_cases h1 : ev.sp < 1
            · have HV : Hid (vB = true) := by unfold Hid; rw [hvB, flB_no (by omega)]; rfl
              refine wp_region_later (by kernel_rfl) (by kernel_rfl) ?_
              repeat (go_big_quiet_step (first | (go_at_call 32; with_reducible exact later_call (HCo.out _))))
              refine wpQuiet_nil ?_
              rintro w3 ⟨⟨_, b3⟩, rfl⟩
              go_wp2_with fail
              go_meet
              exact ⟨(by first | (rw [HV.out]; done) | (rw [HV.out]; simp; omega) | (rw [HV.out]; simp)), hid b3⟩
            · by_cases hq0 : (en : Int) > 0
              · have hq0b : decide (0 < en) = true := by simp; omega
                have hq0n : 0 < en := by omega
                obtain ⟨p, hp⟩ : ∃ p, p + 1 = en := ⟨en - 1, by omega⟩
                have hq1 : (en : Int) - 1 = (p : Int) := by omega
                have hq2 : IntKind.i64.wrap (p : Int) = (p : Int) := by rw [IntKind.wrap_i64] <;> omega
                have i3 : (0 : Int) ≤ (p : Int) := by omega
                have i4 : (p : Int) < (en : Int) := by omega
                obtain ⟨xs, exs, hxs⟩ := (HH.out.below HT.out.low).e
                have hpx : p < xs.length := by have h9 := HN3.out; rw [← exs, List.length_map] at h9; omega
                obtain ⟨a, ea, cp⟩ := atE_of hxs.has.row p hpx
                obtain rfl : eo = some a := ea
                have hlo : lp h.e h.e.length = (xs.getD p (e0, nilH)).1.sp := by rw [← HN3.out, ← hp]; show (E h.e p).sp = _; rw [← exs, E_map hpx]
                rw [hlo] at hvB
                have HVB := hid hvB
                clear hvB hp hlo h0 hxs exs hpx
                obtain ⟨_, _, _, _, _, _, _, _, _, _, g10, _⟩ := cp.always
                clear cp
                generalize (xs.getD p (e0, nilH)).1.sp = Y at HVB g10
                by_cases h2 : ev.sp ≤ Y
                · have HV : Hid (vB = true) := by unfold Hid; rw [HVB.out, flB_no (by omega)]; rfl
                  refine wp_region_later (by kernel_rfl) (by kernel_rfl) ?_
                  repeat (go_big_quiet_step (first | (go_at_call 32; with_reducible exact later_call (HCo.out _))))
                  refine wpQuiet_nil ?_
                  rintro w3 ⟨⟨_, b3⟩, rfl⟩
                  go_wp2_with fail
                  go_meet
                  exact ⟨(by first | (rw [HV.out]; done) | (rw [HV.out]; simp; omega) | (rw [HV.out]; simp)), hid b3⟩
                · have HV : Hid (vB = false) := by unfold Hid; rw [HVB.out, flB_iff.2 ⟨by omega, by omega, hc, by omega⟩]; rfl
                  refine wp_region_later (by kernel_rfl) (by kernel_rfl) ?_
                  repeat (go_big_quiet_step (first | (go_at_call 32; with_reducible exact later_call (HCo.out _))))
                  refine wpQuiet_nil ?_
                  rintro w3 ⟨⟨_, b3⟩, rfl⟩
                  go_wp2_with fail
                  go_meet
                  exact ⟨(by first | (rw [HV.out]; done) | (rw [HV.out]; simp; omega) | (rw [HV.out]; simp)), hid b3⟩
              · have hq0b : decide (0 < en) = false := by simp; omega
                have hlo : lp h.e h.e.length = 0 := by
                  rw [← HN3.out, show en = 0 by omega]; rfl
                rw [hlo] at hvB
                have HV : Hid (vB = false) := by unfold Hid; rw [hvB, flB_iff.2 ⟨by omega, by omega, hc, by omega⟩]; rfl
                clear hvB hlo h0
                refine wp_region_later (by kernel_rfl) (by kernel_rfl) ?_
                repeat (go_big_quiet_step (first | (go_at_call 32; with_reducible exact later_call (HCo.out _))))
                refine wpQuiet_nil ?_
                rintro w3 ⟨⟨_, b3⟩, rfl⟩
                go_wp2_with fail
                go_meet
                exact ⟨(by first | (rw [HV.out]; done) | (rw [HV.out]; simp; omega) | (rw [HV.out]; simp)), hid b3⟩
    case rest =>
      obtain ⟨rfl, HB3⟩ := hcut
      clear d0 d1 d2 d3 d4 d5 d6 d7 d8 d9 d10 d11 c1 hne HCo hvB h0
      replace HT := hid (HT.out.below HB3.out)
      replace HM := hid (HM.out.below HB3.out)
      clear HB3
      cases hv : vB with
      | true =>
        have HE : Hid (notE h ev = 2) := by
          have h2 := HVK.out
          rw [hv] at h2
          unfold Hid
          rw [HNs.out]
          revert h2
          cases flB ev (lp h.e h.e.length) <;> simp
        have HNo : Hid (notH h ev = h) := notH_no (by rw [HE.out]; decide)
        clear hv HVK
        have HZ := hid (HT.out.rz HH.out)
        have c0 : wc.cell? ⟨w.heap.size, 0, none⟩ = some (.slice so sn sc) := HZ.out.a.c0
        have c1 : wc.cell? ⟨w.heap.size, 1, none⟩ = some (.slice eo en ec) := HZ.out.a.c1
        have r0 : wc.cell? ⟨w.heap.size + 2, 0, none⟩ = some (.slice none 0 0) := HZ.out.r.c0
        have r1 : wc.cell? ⟨w.heap.size + 2, 1, none⟩ = some (.slice none 0 0) := HZ.out.r.c1
        have f0 := HZ.out.r.fz 0
        have f1 := HZ.out.r.fz 1
        go_wp2_with fail
        refine bodyPost_ret (v := .tuple #[.agg #[.slice so sn sc, .slice eo en ec], .int .i64 2]) (by simp [results, Try.results25, go_sem, *]) rfl ⟨⟨⟨so, sn, sc⟩, ⟨eo, en, ec⟩⟩, ret_2 (z := ⟨⟨so, sn, sc⟩, ⟨eo, en, ec⟩⟩) HE.out.symm, ?_, HZ.out.fin.2⟩
        rw [HNo.out]
        exact HZ.out.fin.1
      | false =>
        have HE : Hid (notE h ev = 0) := by
          have h2 := HVK.out
          rw [hv] at h2
          unfold Hid
          rw [HNs.out]
          revert h2
          cases flB ev (lp h.e h.e.length) <;> simp
        clear hv HVK HNs
        obtain ⟨xs, exs, hxs⟩ := HH.out.e
        have HXs := hid hxs
        have HEx := hid exs
        clear hxs exs
        have HNx : Hid (en = xs.length) := HXs.out.has.len
        go_upto_region 6 with fail
        have c1 : wc.cell? ⟨w.heap.size, 1, none⟩ = some (.slice eo en ec) := HT.out.a.c1
        have f1 := HT.out.a.fz 1
        obtain ⟨d0, d1, d2, d3, d4, d5, d6, d7, d8, d9, d10, d11⟩ := HM.out.at
        dsimp only at d0 d1 d2 d3 d4 d5 d6 d7 d8 d9 d10 d11
        have HQ : Hid (∀ W', Below wc.heap.size wc W' → (W'.cell? ⟨w.heap.size, 1, none⟩ = some (.slice eo en ec) ∧ W'.frozen? ⟨w.heap.size, 1, none⟩ = false) ∧ AtE W' ⟨w.heap.size + 1, 0, none⟩ (ev, u)) := fun W' b => ⟨⟨(HT.out.below b).a.c1, (HT.out.below b).a.fz 1⟩, HM.out.at.below b⟩
        have HRw := hid ((HXs.out.below (q_trans HT.out.low (Below.refl _ wc).drew)).has.row)
        have HLn : Hid ((xs.flatMap evC).length = en * 12) := by unfold Hid; rw [fm_len evC 12 evC_len, HNx.out]
        have HNil := hid HXs.out.has.nil
        have hlg : w.heap.size + 2 < wc.heap.size := HT.out.r.lt
        have hlg1 : w.heap.size + 1 < wc.heap.size := by omega
        have hlg0 : w.heap.size < wc.heap.size := by omega
        go_cut [56] from 11 to 60 (fun s wx => ∃ (ao : Option Addr) (cap : Nat), s = .slice ao (en + 1) cap ∧ Hid (Rz w wx ⟨⟨so, sn, sc⟩, ⟨ao, en + 1, cap⟩⟩ ⟨h.s, h.e ++ [ev]⟩))
        case first =>
          go_region_law
            (first
              | (refine step_row _ (by rfl) (.tmp 50) (.tmp 52) 23 34 _ 12 112 (by rfl) Try.underlying23 infoE rfl (by decide) (by decide) wc.heap.size _ 0 [] (by rfl) (by first | exact own0 wc.drew 34 12 | exact (own0 wc.drew 34 12).alloc _ | exact own1L (.cells #[.int .i64 ev.k, .int .i64 ev.co, .int .i64 ev.c.k, .int .u64 ev.c.a, .int .u64 ev.c.b, .int .i64 ev.c.r, .int .i64 ev.c.g, .int .i64 ev.c.t, .int .i64 ev.c.s, .int .i64 ev.c.v, .int .i64 ev.sp, .slice u.o u.n u.c] 34) 34 12 wc.drew) eo en ec (xs.flatMap evC) (by rfl) HLn.out HNil.out (by first | exact (HRw.out.below (alloc_below wc.drew _)) | exact (HRw.out.below (q_alloc (alloc_below wc.drew _) _))) (evC_one _) en (Nat.zero_add _) (xs.flatMap evC) (List.nil_append _) (by omega) (by first | exact (alloc_below wc.drew _).size | exact (q_alloc (alloc_below wc.drew _) _).size) ?_; intro ao5 cap5 w5 own5 grow5; have b5 : Hid (Below wc.heap.size wc w5) := (by first | exact q_trans (Below.refl _ wc).drew (app_below (w := wc.drew) grow5) | exact q_trans (Below.refl _ wc).drew (app_below2 (w := wc.drew) grow5) | exact q_trans (Below.refl _ wc).drew (app_below3 (w := wc.drew) grow5)); (try (have HK5 : Hid (Row w5 (some ⟨wc.heap.size + 1, 0, none⟩) (List.flatMap evC [(ev, u)])) := (row_off (ev_at1 (ev, u) 34 wc.drew) grow5 (by simp)))); (try (have HK5 : Hid (Row w5 (some ⟨wc.heap.size, 0, none⟩) (List.flatMap evC [(ev, u)])) := (row_off ((one_ev wc.drew (ev, u) 34).below (alloc_below _ _)) grow5 (by simp)))); obtain ⟨q1, q2⟩ := (HQ.out _ b5.out); obtain ⟨t0, t1, t2, t3, t4, t5, t6, t7, t8, t9, t10, t11⟩ := q2; dsimp only at t0 t1 t2 t3 t4 t5 t6 t7 t8 t9 t10 t11)
              | (refine step_row _ (by rfl) (.tmp 53) (.tmp 55) 23 34 _ 12 112 (by rfl) Try.underlying23 infoE rfl (by decide) (by decide) wc.heap.size _ en (xs.flatMap evC) (by rfl) (by first | exact own5 | exact own5.alloc _) _ 1 1 (List.flatMap evC [(ev, u)]) (by rfl) rfl (fun h => by cases h) (by first | exact HK5.out | exact one_ev w5 (ev, u) 34) (evC_one _) (en + 1) rfl (xs.flatMap evC ++ List.flatMap evC [(ev, u)]) rfl (by omega) (by first | exact b5.out.size | exact (q_alloc b5.out _).size) ?_; intro ao6 cap6 w6 own6 grow6; have b6 : Hid (Below wc.heap.size wc w6) := (by first | exact b5.out.trans (own_grown own5 grow6 b5.out.size) | exact (b5.out.alloc b5.out.size _).trans (own_grown (own5.alloc _) grow6 (q_alloc b5.out _).size)); have q3 := (HQ.out _ b6.out).1)
              | fail)
          all_goals (try go_wp2_with fail)
          all_goals go_meet
          all_goals
            have hf := md_E HT.out HH.out b6.out HT.out.a.lt (xs := xs ++ [(ev, u)]) (l := h.e ++ [ev]) (by rw [List.flatMap_append]; exact own6) (by rw [List.length_append, List.length_singleton, HNx.out]) (by rw [List.map_append, HEx.out]; rfl) (fun y hy => by
              rcases List.mem_append.1 hy with hy | hy
              · exact HXs.out.each y hy
              · obtain rfl : y = (ev, u) := by simpa using hy
                exact HU.out)
            exact ⟨ao6, cap6, rfl, hf⟩
        case rest =>
          obtain ⟨ao, cap, rfl, HZ⟩ := hcut
          clear HQ HRw HLn c1 f1 d0 d1 d2 d3 d4 d5 d6 d7 d8 d9 d10 d11 hlg hlg1 hlg0 HM
          have c0 : wc.cell? ⟨w.heap.size, 0, none⟩ = some (.slice so sn sc) := HZ.out.a.c0
          have c1 : wc.cell? ⟨w.heap.size, 1, none⟩ = some (.slice ao (en + 1) cap) := HZ.out.a.c1
          have r0 : wc.cell? ⟨w.heap.size + 2, 0, none⟩ = some (.slice none 0 0) := HZ.out.r.c0
          have r1 : wc.cell? ⟨w.heap.size + 2, 1, none⟩ = some (.slice none 0 0) := HZ.out.r.c1
          have f0 := HZ.out.r.fz 0
          have f1 := HZ.out.r.fz 1
          go_wp2_with fail
          refine bodyPost_ret (v := .tuple #[.agg #[.slice so sn sc, .slice ao (en + 1) cap], .int .i64 0]) (by simp [results, Try.results25, go_sem, *]) rfl ⟨⟨⟨so, sn, sc⟩, ⟨ao, en + 1, cap⟩⟩, ret_2 (z := ⟨⟨so, sn, sc⟩, ⟨ao, en + 1, cap⟩⟩) HE.out.symm, ?_, HZ.out.fin.2⟩
          rw [notH_of HE.out]
          exact HZ.out.fin.1
end Go.Proofs.Ytmnkbkhfonngeaa.Hi
