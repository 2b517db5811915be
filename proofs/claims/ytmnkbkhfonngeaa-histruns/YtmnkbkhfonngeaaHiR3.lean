/- What the document's Pending, Invoke do. -/
import Derived.Test.YtmnkbkhfonngeaaHiApp
import Derived.Test.YtmnkbkhfonngeaaHiR2
import Derived.Test.YtmnkbkhfonngeaaHiW7
namespace Go.Proofs.Ytmnkbkhfonngeaa.Hi
open Go.RowKit

set_option maxHeartbeats 1000000 in
/-- Pending, the document's. -/
theorem rpending_any (x : Hh) (h : Hs) (c : Int) (w : World) (hs : x.s.n ≤ 5000) (HH : Hid (HasS w x.s h.s)) :
    Calls Try.prog 13 #[(.agg #[.slice x.s.o x.s.n x.s.c, .slice x.e.o x.e.n x.e.c]), .int .i64 c] w fun e w' => e = .returned (.tuple #[.int .i64 (pnI h.s c), .bool (pnB h.s c)]) ∧ Below w.heap.size w w' := by
  obtain ⟨⟨so, sn, sc⟩, ye⟩ := x
  have HN : Hid (sn = h.s.length) := HH.out.len
  go_enter Try.func13, Try.ntmps13
  go_upto_region 1 with fail
  have HP : Hid (Hb (w.alloc (.cells #[.slice so sn sc, .slice ye.o ye.n ye.c] 25)) w.heap.size ⟨⟨so, sn, sc⟩, ye⟩) := hb_new w ⟨⟨so, sn, sc⟩, ye⟩
  have HB := hid (alloc_below w (.cells #[.slice so sn sc, .slice ye.o ye.n ye.c] 25))
  generalize w.alloc (.cells #[.slice so sn sc, .slice ye.o ye.n ye.c] 25) = W at HP HB ⊢
  have c0 : W.cell? ⟨w.heap.size, 0, none⟩ = some (.slice so sn sc) := HP.out.c0
  have HK : Hid (Calls Try.prog 28 #[.slice so sn sc, .int .i64 c, .int .i64 sn] W fun e w' => e = .returned (.int .i64 (plI (lastO h.s c))) ∧ w' = W) := by
    have := rlast_any so sn sc h.s c sn W hs (Nat.le_refl _) (HH.out.below HB.out)
    rwa [show lst h.s c sn = lastO h.s c by unfold lastO; rw [← HN.out]] at this
  cases hl : lastO h.s c with
  | none =>
    have HR := hid (pn_none hl)
    rw [hl] at HK
    replace HK : Hid (Calls Try.prog 28 #[.slice so sn sc, .int .i64 c, .int .i64 sn] W fun e w' => e = .returned (.int .i64 (-1)) ∧ w' = W) := HK
    clear hl
    go_wp2_with (go_at_call 28; refine HK.out.mono ?_; rintro e w8 ⟨rfl, hw⟩; rw [hw]; clear hw w8)
    go_ret2
    exact ⟨ret_pn ⟨HR.out.1.symm, HR.out.2.symm⟩, HB.out⟩
  | some i =>
    obtain ⟨hi, _, _⟩ := lst_some hl
    rw [hl] at HK
    replace HK : Hid (Calls Try.prog 28 #[.slice so sn sc, .int .i64 c, .int .i64 sn] W fun e w' => e = .returned (.int .i64 (i : Int)) ∧ w' = W) := HK
    have i0 : (i : Int) ≥ 0 := by omega
    have i1 : (0 : Int) ≤ (i : Int) := by omega
    have i2 : (i : Int) < (sn : Int) := by have := HN.out; omega
    obtain ⟨a, ea, ca⟩ := atS_of (HH.out.below HB.out).row i hi
    obtain rfl : so = some a := ea
    obtain ⟨s, hs9⟩ : ∃ s, h.s.getD i s0 = s := ⟨_, rfl⟩
    rw [hs9] at ca
    have d10 := ca.c10
    clear ca
    cases ho : opB s with
    | false =>
      have e1 : (s.en != 0) = true := by simp [opB] at ho; simp [ho]
      have HR := hid (pn_shut hl (show opB (h.s.getD i s0) = false by rw [hs9]; exact ho))
      clear hl ho hs9
      go_wp2_with (go_at_call 28; refine HK.out.mono ?_; rintro e w8 ⟨rfl, hw⟩; rw [hw]; clear hw w8)
      go_ret2
      exact ⟨ret_pn ⟨HR.out.1.symm, HR.out.2.symm⟩, HB.out⟩
    | true =>
      have e1 : (s.en != 0) = false := by simp [opB] at ho; simp [ho]
      have HR := hid (pn_open hl (show opB (h.s.getD i s0) = true by rw [hs9]; exact ho))
      clear hl ho hs9
      go_wp2_with (go_at_call 28; refine HK.out.mono ?_; rintro e w8 ⟨rfl, hw⟩; rw [hw]; clear hw w8)
      go_ret2
      exact ⟨ret_pn ⟨HR.out.1.symm, HR.out.2.symm⟩, HB.out⟩
set_option maxRecDepth 100000 in
set_option maxHeartbeats 2000000 in
/-- Invoke, the document's. -/
theorem rinvoke_any (x : Hh) (h : Hs) (c : Int) (cl : C) (now : Int) (w : World) (hs : x.s.n ≤ 5000) (he : x.e.n ≤ 5000) (HH : Hid (HasH w x h)) :
    Calls Try.prog 23 #[(.agg #[.slice x.s.o x.s.n x.s.c, .slice x.e.o x.e.n x.e.c]), .int .i64 c, (.agg #[.int .i64 cl.k, .int .u64 cl.a, .int .u64 cl.b, .int .i64 cl.r, .int .i64 cl.g, .int .i64 cl.t, .int .i64 cl.s, .int .i64 cl.v]), .int .i64 now] w fun e w' => ∃ z : Hh, e = .returned (.tuple #[(.agg #[.slice z.s.o z.s.n z.s.c, .slice z.e.o z.e.n z.e.c]), .int .i64 (invE h c now)]) ∧ HasH w' z (invH h c cl now) ∧ Below w.heap.size w w' := by
  obtain ⟨⟨so, sn, sc⟩, ⟨eo, en, ec⟩⟩ := x
  replace hs : sn ≤ 5000 := hs
  replace he : en ≤ 5000 := he
  have HN1 : Hid (sn = h.s.length) := HH.out.s.len
  go_enter Try.func23, Try.ntmps23
  go_upto_region 1 with fail
  have HT : Hid (Bw w (((w.alloc (.cells #[.slice so sn sc, .slice eo en ec] 25)).alloc (.cells #[.int .i64 cl.k, .int .u64 cl.a, .int .u64 cl.b, .int .i64 cl.r, .int .i64 cl.g, .int .i64 cl.t, .int .i64 cl.s, .int .i64 cl.v] 28)).alloc (.cells #[.slice none 0 0, .slice none 0 0] 25)) ⟨⟨so, sn, sc⟩, ⟨eo, en, ec⟩⟩ (.cells #[.int .i64 cl.k, .int .u64 cl.a, .int .u64 cl.b, .int .i64 cl.r, .int .i64 cl.g, .int .i64 cl.t, .int .i64 cl.s, .int .i64 cl.v] 28)) := bw_new w ⟨⟨so, sn, sc⟩, ⟨eo, en, ec⟩⟩ (.cells #[.int .i64 cl.k, .int .u64 cl.a, .int .u64 cl.b, .int .i64 cl.r, .int .i64 cl.g, .int .i64 cl.t, .int .i64 cl.s, .int .i64 cl.v] 28)
  generalize ((w.alloc (.cells #[.slice so sn sc, .slice eo en ec] 25)).alloc (.cells #[.int .i64 cl.k, .int .u64 cl.a, .int .u64 cl.b, .int .i64 cl.r, .int .i64 cl.g, .int .i64 cl.t, .int .i64 cl.s, .int .i64 cl.v] 28)).alloc (.cells #[.slice none 0 0, .slice none 0 0] 25) = W at HT ⊢
  have c0 : W.cell? ⟨w.heap.size, 0, none⟩ = some (.slice so sn sc) := HT.out.a.c0
  have c1 : W.cell? ⟨w.heap.size, 1, none⟩ = some (.slice eo en ec) := HT.out.a.c1
  have HI : Hid (Calls Try.prog 17 #[.agg #[.slice so sn sc, .slice eo en ec]] W fun e w' => e = .returned (.bool (okH h)) ∧ Below W.heap.size W w') := ris_any ⟨⟨so, sn, sc⟩, ⟨eo, en, ec⟩⟩ h W hs he (HH.out.below HT.out.low)
  cases hk : okH h with
  | false =>
    rw [hk] at HI
    have HE := hid (inv_180 (c := c) (now := now) hk)
    have HNo : Hid (invH h c cl now = h) := invH_no (by rw [HE.out]; decide)
    clear hk
    go_upto_region 2 with (go_at_call 17; refine HI.out.mono ?_; rintro e w2 ⟨rfl, b2⟩)
    have HZ := hid ((HT.out.below b2).rz HH.out)
    clear b2 c0 c1
    have c0 : w2.cell? ⟨w.heap.size, 0, none⟩ = some (.slice so sn sc) := HZ.out.a.c0
    have c1 : w2.cell? ⟨w.heap.size, 1, none⟩ = some (.slice eo en ec) := HZ.out.a.c1
    have r0 : w2.cell? ⟨w.heap.size + 2, 0, none⟩ = some (.slice none 0 0) := HZ.out.r.c0
    have r1 : w2.cell? ⟨w.heap.size + 2, 1, none⟩ = some (.slice none 0 0) := HZ.out.r.c1
    have f0 := HZ.out.r.fz 0
    have f1 := HZ.out.r.fz 1
    go_wp2_with fail
    refine bodyPost_ret (v := .tuple #[.agg #[.slice so sn sc, .slice eo en ec], .int .i64 180]) (by simp [results, Try.results23, go_sem, *]) rfl ⟨⟨⟨so, sn, sc⟩, ⟨eo, en, ec⟩⟩, ret_2 (z := ⟨⟨so, sn, sc⟩, ⟨eo, en, ec⟩⟩) HE.out.symm, ?_, HZ.out.fin.2⟩
    rw [HNo.out]
    exact HZ.out.fin.1
  | true =>
    rw [hk] at HI
    have HO := hid hk
    clear hk
    go_upto_region 4 with (go_at_call 17; refine HI.out.mono ?_; rintro e w2 ⟨rfl, b2⟩; have c0 : w2.cell? ⟨w.heap.size, 0, none⟩ = some (.slice so sn sc) := ((HT.out.below b2)).a.c0)
    replace HT := hid (HT.out.below b2)
    clear b2 HI c1
    obtain ⟨vB, hvB⟩ : ∃ v : Bool, v = !(okC c && decide (lo h.s h.s.length ≤ now)) := ⟨_, rfl⟩
    have HVK := hid hvB
    have hl1 : 1 ≤ lo h.s h.s.length := lo_one (okH_iff.1 HO.out).1 _ (Nat.le_refl _)
    go_cut [40] from 12 to 80 (fun s wx => s = .bool vB ∧ Hid (Below w2.heap.size w2 wx))
    case first =>
      cases hc : okC c with
      | false =>
        have HV : Hid (vB = true) := by unfold Hid; rw [hvB, hc]; rfl
        go_wp2_with (go_at_call 32; refine (rcore_any _ _).mono ?_; rintro e w8 ⟨rfl, hw⟩; rw [hw, hc]; clear hw w8)
        go_meet
        exact ⟨(by first | (rw [HV.out]; done) | (rw [HV.out]; simp; omega) | (rw [HV.out]; simp)), hid (Below.refl _ _)⟩
      | true =>
        by_cases h1 : now < 1
        · have HV : Hid (vB = true) := by unfold Hid; rw [hvB, show decide (lo h.s h.s.length ≤ now) = false by simp; omega]; simp
          go_wp2_with (go_at_call 32; refine (rcore_any _ _).mono ?_; rintro e w8 ⟨rfl, hw⟩; rw [hw, hc]; clear hw w8)
          go_meet
          exact ⟨(by first | (rw [HV.out]; done) | (rw [HV.out]; simp; omega) | (rw [HV.out]; simp)), hid (Below.refl _ _)⟩
        · by_cases hq0 : (sn : Int) > 0
          · have hq0b : decide (0 < sn) = true := by simp; omega
            have hq0n : 0 < sn := by omega
            obtain ⟨p, hp⟩ : ∃ p, p + 1 = sn := ⟨sn - 1, by omega⟩
            have hq1 : (sn : Int) - 1 = (p : Int) := by omega
            have hq2 : IntKind.i64.wrap (p : Int) = (p : Int) := by rw [IntKind.wrap_i64] <;> omega
            have i3 : (0 : Int) ≤ (p : Int) := by omega
            have i4 : (p : Int) < (sn : Int) := by omega
            obtain ⟨a, ea, cp⟩ := atS_of (HH.out.below HT.out.low).s.row p (by have := HN1.out; omega)
            obtain rfl : so = some a := ea
            obtain ⟨y, hy⟩ : ∃ y, h.s.getD p s0 = y := ⟨_, rfl⟩
            rw [hy] at cp
            have hlo : lo h.s h.s.length = y.st := by rw [← HN1.out, ← hp]; show (h.s.getD p s0).st = y.st; rw [hy]
            rw [hlo] at hvB
            have HVB := hid hvB
            clear hvB hp hlo hy hl1
            have g9 := cp.c9
            clear cp
            by_cases h2 : now < y.st
            · have HV : Hid (vB = true) := by unfold Hid; rw [HVB.out, show decide (y.st ≤ now) = false by simp; omega]; simp
              go_wp2_with (go_at_call 32; refine (rcore_any _ _).mono ?_; rintro e w8 ⟨rfl, hw⟩; rw [hw, hc]; clear hw w8)
              go_meet
              exact ⟨(by first | (rw [HV.out]; done) | (rw [HV.out]; simp; omega) | (rw [HV.out]; simp)), hid (Below.refl _ _)⟩
            · have HV : Hid (vB = false) := by unfold Hid; rw [HVB.out, hc, show decide (y.st ≤ now) = true by simp; omega]; rfl
              go_wp2_with (go_at_call 32; refine (rcore_any _ _).mono ?_; rintro e w8 ⟨rfl, hw⟩; rw [hw, hc]; clear hw w8)
              go_meet
              exact ⟨(by first | (rw [HV.out]; done) | (rw [HV.out]; simp; omega) | (rw [HV.out]; simp)), hid (Below.refl _ _)⟩
          · have hq0b : decide (0 < sn) = false := by simp; omega
            have hlo : lo h.s h.s.length = 1 := by
              rw [← HN1.out, show sn = 0 by omega]; rfl
            have HV : Hid (vB = false) := by unfold Hid; rw [hvB, hlo, hc, show decide (1 ≤ now) = true by simp; omega]; rfl
            clear hvB hlo hl1
            go_wp2_with (go_at_call 32; refine (rcore_any _ _).mono ?_; rintro e w8 ⟨rfl, hw⟩; rw [hw, hc]; clear hw w8)
            go_meet
            exact ⟨(by first | (rw [HV.out]; done) | (rw [HV.out]; simp; omega) | (rw [HV.out]; simp)), hid (Below.refl _ _)⟩
    case rest =>
      obtain ⟨rfl, HB3⟩ := hcut
      obtain ⟨W3, hW3⟩ : ∃ W3, W3 = wc := ⟨_, rfl⟩
      subst hW3
      replace HT := hid (HT.out.below HB3.out)
      clear c0 HB3 hl1 hvB
      cases hv : vB with
      | true =>
        have HE : Hid (invE h c now = 2) := inv_2 HO.out (by have h2 := HVK.out; rw [hv] at h2; revert h2; cases (okC c && decide (lo h.s h.s.length ≤ now)) <;> simp)
        have HNo : Hid (invH h c cl now = h) := invH_no (by rw [HE.out]; decide)
        clear hv HVK
        have HZ := hid (HT.out.rz HH.out)
        have c0 : W3.cell? ⟨w.heap.size, 0, none⟩ = some (.slice so sn sc) := HZ.out.a.c0
        have c1 : W3.cell? ⟨w.heap.size, 1, none⟩ = some (.slice eo en ec) := HZ.out.a.c1
        have r0 : W3.cell? ⟨w.heap.size + 2, 0, none⟩ = some (.slice none 0 0) := HZ.out.r.c0
        have r1 : W3.cell? ⟨w.heap.size + 2, 1, none⟩ = some (.slice none 0 0) := HZ.out.r.c1
        have f0 := HZ.out.r.fz 0
        have f1 := HZ.out.r.fz 1
        go_wp2_with fail
        refine bodyPost_ret (v := .tuple #[.agg #[.slice so sn sc, .slice eo en ec], .int .i64 2]) (by simp [results, Try.results23, go_sem, *]) rfl ⟨⟨⟨so, sn, sc⟩, ⟨eo, en, ec⟩⟩, ret_2 (z := ⟨⟨so, sn, sc⟩, ⟨eo, en, ec⟩⟩) HE.out.symm, ?_, HZ.out.fin.2⟩
        rw [HNo.out]
        exact HZ.out.fin.1
      | false =>
        have HG : Hid ((okC c && decide (lo h.s h.s.length ≤ now)) = true) := by have h2 := HVK.out; rw [hv] at h2; revert h2; cases (okC c && decide (lo h.s h.s.length ≤ now)) <;> simp [Hid]
        clear hv HVK
        have c0 : W3.cell? ⟨w.heap.size, 0, none⟩ = some (.slice so sn sc) := HT.out.a.c0
        obtain ⟨A, hA⟩ : ∃ A, A = plI (lastO h.s c) := ⟨_, rfl⟩
        have HRl : Hid (Calls Try.prog 28 #[.slice so sn sc, .int .i64 c, .int .i64 sn] W3 fun e w' => e = .returned (.int .i64 A) ∧ w' = W3) := by
          have := rlast_any so sn sc h.s c sn W3 hs (Nat.le_refl _) (HH.out.below HT.out.low).s
          rw [hA]
          rwa [show lst h.s c sn = lastO h.s c by unfold lastO; rw [← HN1.out]] at this
        have HAA := hid hA
        clear hA
        go_upto_region 7 with (go_at_call 28; refine HRl.out.mono ?_; rintro e w8 ⟨rfl, hw⟩; rw [hw]; clear hw w8)
        obtain ⟨vC, hvC⟩ : ∃ v : Bool, v = (invE h c now != 0) := ⟨_, rfl⟩
        have HVC := hid hvC
        clear hvC
        go_cut [67] from 12 to 80 (fun s wx => s = .bool vC ∧ wx = W3)
        case first =>
          cases hl : lastO h.s c with
          | none =>
            have HV : Hid (vC = false) := by unfold Hid; rw [HVC.out, inv_0 HO.out HG.out hl]; rfl
            have i8 : decide (A ≥ 0) = false := by rw [HAA.out, hl]; simp [plI]
            have i8b : decide (0 ≤ A) = false := by rw [HAA.out, hl]; simp [plI]
            have i8c : ¬ (A ≥ 0) := by simpa using i8
            clear hl
            go_wp2_with fail
            go_meet
            exact ⟨(by first | (rw [HV.out]; done) | (rw [HV.out]; simp; omega) | (rw [HV.out]; simp)), rfl⟩
          | some j =>
            obtain ⟨hj, _⟩ := lst_some hl
            have hi := inv_s HO.out HG.out hl
            have hAj : A = (j : Int) := by rw [HAA.out, hl]; rfl
            clear HAA HRl hl
            subst hAj
            have i8 : (j : Int) ≥ 0 := by omega
            have i9 : (0 : Int) ≤ (j : Int) := by omega
            have i10 : (j : Int) < (sn : Int) := by have := HN1.out; omega
            obtain ⟨a, ea, cj⟩ := atS_of (HH.out.below HT.out.low).s.row j (by omega)
            obtain rfl : so = some a := ea
            obtain ⟨y, hyj⟩ : ∃ y, h.s.getD j s0 = y := ⟨_, rfl⟩
            replace hi : invE h c now = if ahB (h.s.getD j s0) ⟨0, Hi.c0, now, 0, r0⟩ then 0 else 8 := hi
            rw [hyj] at cj hi
            have HIv := hid hi
            clear hyj hi
            have g10 := cj.c10
            clear cj
            by_cases h0 : y.en = 0
            · have e1 : (y.en == 0) = true := by simp [h0]
              have HV : Hid (vC = true) := by unfold Hid; rw [HVC.out, HIv.out, show ahB y ⟨0, Hi.c0, now, 0, r0⟩ = false by simp [ahB, opB, h0]]; rfl
              clear h0
              go_wp2_with fail
              go_meet
              exact ⟨(by first | (rw [HV.out]; done) | (rw [HV.out]; simp; omega) | (rw [HV.out]; simp)), rfl⟩
            · have e1 : (y.en == 0) = false := by simp [h0]
              by_cases h5 : y.en ≥ now
              · have HV : Hid (vC = true) := by unfold Hid; rw [HVC.out, HIv.out, show ahB y ⟨0, Hi.c0, now, 0, r0⟩ = false by simp [ahB]; omega]; rfl
                clear h0
                go_wp2_with fail
                go_meet
                exact ⟨(by first | (rw [HV.out]; done) | (rw [HV.out]; simp; omega) | (rw [HV.out]; simp)), rfl⟩
              · have HV : Hid (vC = false) := by unfold Hid; rw [HVC.out, HIv.out, show ahB y ⟨0, Hi.c0, now, 0, r0⟩ = true by simp [ahB, opB, h0]; omega]; rfl
                clear h0
                go_wp2_with fail
                go_meet
                exact ⟨(by first | (rw [HV.out]; done) | (rw [HV.out]; simp; omega) | (rw [HV.out]; simp)), rfl⟩
        case rest =>
          obtain ⟨rfl, hw9⟩ := hcut
          subst hw9
          have h8 : invE h c now = 0 ∨ invE h c now = 8 := by
            cases hl : lastO h.s c with
            | none => exact .inl (inv_0 HO.out HG.out hl)
            | some j => rw [inv_s HO.out HG.out hl]; split <;> simp
          have H8 := hid h8
          clear h8 HRl HAA c0
          cases hv : vC with
          | true =>
            have HE : Hid (invE h c now = 8) := by
              have h2 := HVC.out
              rw [hv] at h2
              rcases H8.out with h3 | h3
              · rw [h3] at h2; cases h2
              · exact h3
            have HNo : Hid (invH h c cl now = h) := invH_no (by rw [HE.out]; decide)
            clear hv HVC
            have HZ := hid (HT.out.rz HH.out)
            have c0 : wc.cell? ⟨w.heap.size, 0, none⟩ = some (.slice so sn sc) := HZ.out.a.c0
            have c1 : wc.cell? ⟨w.heap.size, 1, none⟩ = some (.slice eo en ec) := HZ.out.a.c1
            have r0 : wc.cell? ⟨w.heap.size + 2, 0, none⟩ = some (.slice none 0 0) := HZ.out.r.c0
            have r1 : wc.cell? ⟨w.heap.size + 2, 1, none⟩ = some (.slice none 0 0) := HZ.out.r.c1
            have f0 := HZ.out.r.fz 0
            have f1 := HZ.out.r.fz 1
            go_wp2_with fail
            refine bodyPost_ret (v := .tuple #[.agg #[.slice so sn sc, .slice eo en ec], .int .i64 8]) (by simp [results, Try.results23, go_sem, *]) rfl ⟨⟨⟨so, sn, sc⟩, ⟨eo, en, ec⟩⟩, ret_2 (z := ⟨⟨so, sn, sc⟩, ⟨eo, en, ec⟩⟩) HE.out.symm, ?_, HZ.out.fin.2⟩
            rw [HNo.out]
            exact HZ.out.fin.1
          | false =>
            have HE : Hid (invE h c now = 0) := by
              have h2 := HVC.out
              rw [hv] at h2
              rcases H8.out with h3 | h3
              · exact h3
              · rw [h3] at h2; cases h2
            clear hv HVC H8
            go_upto_region 9 with fail
            have c0 : wc.cell? ⟨w.heap.size, 0, none⟩ = some (.slice so sn sc) := HT.out.a.c0
            have f0 := HT.out.a.fz 0
            have HM : Hid (Cb wc (w.heap.size + 1) cl) := ⟨HT.out.m⟩
            obtain ⟨d0, d1, d2, d3, d4, d5, d6, d7⟩ := HM.out.at
            have HQ : Hid (∀ W', Below wc.heap.size wc W' → (W'.cell? ⟨w.heap.size, 0, none⟩ = some (.slice so sn sc) ∧ W'.frozen? ⟨w.heap.size, 0, none⟩ = false) ∧ AtC W' ⟨w.heap.size + 1, 0, none⟩ cl) := fun W' b => ⟨⟨(HT.out.below b).a.c0, (HT.out.below b).a.fz 0⟩, HM.out.at.below b⟩
            have HRw := hid ((HH.out.below (q_trans HT.out.low (Below.refl _ wc).drew)).s.row)
            have HLn : Hid ((h.s.flatMap spC).length = sn * 15) := by unfold Hid; rw [fm_len spC 15 spC_len, HN1.out]
            have HNil := hid HH.out.s.nil
            have hlg : w.heap.size + 2 < wc.heap.size := HT.out.r.lt
            have hlg1 : w.heap.size + 1 < wc.heap.size := by omega
            have hlg0 : w.heap.size < wc.heap.size := by omega
            go_cut [78] from 12 to 80 (fun s wx => ∃ (ao : Option Addr) (cap : Nat), s = .slice ao (sn + 1) cap ∧ Hid (Rz w wx ⟨⟨ao, sn + 1, cap⟩, ⟨eo, en, ec⟩⟩ ⟨h.s ++ [nS c cl now], h.e⟩))
            case first =>
              go_region_law
                (first
                  | (refine step_row _ (by rfl) (.tmp 69) (.tmp 71) 22 50 _ 15 120 (by rfl) Try.underlying22 infoS rfl (by decide) (by decide) wc.heap.size _ 0 [] (by rfl) (by first | exact own0 wc.drew 50 15 | exact (own0 wc.drew 50 15).alloc _ | exact own1L (.cells #[.int .i64 (nS c cl now).co, .int .i64 (nS c cl now).c.k, .int .u64 (nS c cl now).c.a, .int .u64 (nS c cl now).c.b, .int .i64 (nS c cl now).c.r, .int .i64 (nS c cl now).c.g, .int .i64 (nS c cl now).c.t, .int .i64 (nS c cl now).c.s, .int .i64 (nS c cl now).c.v, .int .i64 (nS c cl now).st, .int .i64 (nS c cl now).en, .int .i64 (nS c cl now).r.e, .int .i64 (nS c cl now).r.v, .int .i64 (nS c cl now).r.b, .bool (nS c cl now).r.t] 50) 50 15 wc.drew) so sn sc (h.s.flatMap spC) (by rfl) HLn.out HNil.out (by first | exact (HRw.out.below (alloc_below wc.drew _)) | exact (HRw.out.below (q_alloc (alloc_below wc.drew _) _))) (spC_one _) sn (Nat.zero_add _) (h.s.flatMap spC) (List.nil_append _) (by omega) (by first | exact (alloc_below wc.drew _).size | exact (q_alloc (alloc_below wc.drew _) _).size) ?_; intro ao5 cap5 w5 own5 grow5; have b5 : Hid (Below wc.heap.size wc w5) := (by first | exact q_trans (Below.refl _ wc).drew (app_below (w := wc.drew) grow5) | exact q_trans (Below.refl _ wc).drew (app_below2 (w := wc.drew) grow5) | exact q_trans (Below.refl _ wc).drew (app_below3 (w := wc.drew) grow5)); (try (have HK5 : Hid (Row w5 (some ⟨wc.heap.size + 1, 0, none⟩) (List.flatMap spC [nS c cl now])) := (row_off (sp_at1 (nS c cl now) 50 wc.drew) grow5 (by simp)))); (try (have HK5 : Hid (Row w5 (some ⟨wc.heap.size, 0, none⟩) (List.flatMap spC [nS c cl now])) := (row_off ((one_sp wc.drew (nS c cl now) 50).below (alloc_below _ _)) grow5 (by simp)))); obtain ⟨q1, q2⟩ := (HQ.out _ b5.out); obtain ⟨t0, t1, t2, t3, t4, t5, t6, t7⟩ := q2)
                  | (refine step_row _ (by rfl) (.tmp 72) (.tmp 77) 22 50 _ 15 120 (by rfl) Try.underlying22 infoS rfl (by decide) (by decide) wc.heap.size _ sn (h.s.flatMap spC) (by rfl) (by first | exact own5 | exact own5.alloc _) _ 1 1 (List.flatMap spC [nS c cl now]) (by rfl) rfl (fun h => by cases h) (by first | exact HK5.out | exact one_sp w5 (nS c cl now) 50) (spC_one _) (sn + 1) rfl (h.s.flatMap spC ++ List.flatMap spC [nS c cl now]) rfl (by omega) (by first | exact b5.out.size | exact (q_alloc b5.out _).size) ?_; intro ao6 cap6 w6 own6 grow6; have b6 : Hid (Below wc.heap.size wc w6) := (by first | exact b5.out.trans (own_grown own5 grow6 b5.out.size) | exact (b5.out.alloc b5.out.size _).trans (own_grown (own5.alloc _) grow6 (q_alloc b5.out _).size)); have q3 := (HQ.out _ b6.out).1)
                  | fail)
              all_goals (try go_wp2_with fail)
              all_goals go_meet
              all_goals
                have hf := md_S HT.out HH.out b6.out HT.out.a.lt (l := h.s ++ [nS c cl now]) (by rw [List.flatMap_append]; exact own6) (by rw [List.length_append, List.length_singleton, HN1.out])
                exact ⟨ao6, cap6, rfl, hf⟩
            case rest =>
              obtain ⟨ao, cap, rfl, HZ⟩ := hcut
              clear HQ HRw HLn c0 f0 d0 d1 d2 d3 d4 d5 d6 d7 hlg hlg1 hlg0 HM
              have c0 : wc.cell? ⟨w.heap.size, 0, none⟩ = some (.slice ao (sn + 1) cap) := HZ.out.a.c0
              have c1 : wc.cell? ⟨w.heap.size, 1, none⟩ = some (.slice eo en ec) := HZ.out.a.c1
              have r0 : wc.cell? ⟨w.heap.size + 2, 0, none⟩ = some (.slice none 0 0) := HZ.out.r.c0
              have r1 : wc.cell? ⟨w.heap.size + 2, 1, none⟩ = some (.slice none 0 0) := HZ.out.r.c1
              have f0 := HZ.out.r.fz 0
              have f1 := HZ.out.r.fz 1
              go_wp2_with fail
              refine bodyPost_ret (v := .tuple #[.agg #[.slice ao (sn + 1) cap, .slice eo en ec], .int .i64 0]) (by simp [results, Try.results23, go_sem, *]) rfl ⟨⟨⟨ao, sn + 1, cap⟩, ⟨eo, en, ec⟩⟩, ret_2 (z := ⟨⟨ao, sn + 1, cap⟩, ⟨eo, en, ec⟩⟩) HE.out.symm, ?_, HZ.out.fin.2⟩
              rw [invH_of HE.out]
              exact HZ.out.fin.1
end Go.Proofs.Ytmnkbkhfonngeaa.Hi
