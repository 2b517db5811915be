/- What the document's Is does (genr218.py). -/
import Derived.Test.YtmnkbkhfonngeaaHiW5
namespace Go.Proofs.Ytmnkbkhfonngeaa.Hi
open Go.RowKit

theorem b3_t {a b c d : Bool} (h : true = !(a && (b && c))) : (a && (b && (c && d))) = false := by
  revert h
  cases a <;> cases b <;> cases c <;> cases d <;> decide
theorem b3_f {a b c : Bool} (h : false = !(a && (b && c))) : (a && (b && (c && true))) = true := by
  revert h
  cases a <;> cases b <;> cases c <;> decide
theorem lo_pre {l : List Sp} {q : Nat} (h : ∀ i, i < q → spB l i = true) : 1 ≤ lo l q := by
  induction q with
  | zero => exact Int.le_refl _
  | succ n ih => exact Int.le_trans (ih (fun i hi => h i (by omega))) (spB_iff.1 (h n (Nat.lt_succ_self _))).2.1
theorem lp_pre {l : List Ev} {q : Nat} (h : ∀ i, i < q → evB l i = true) : 0 ≤ lp l q := by
  induction q with
  | zero => exact Int.le_refl _
  | succ n ih =>
    have h1 := ih (fun i hi => h i (by omega))
    have h2 := flB_iff.1 (h n (Nat.lt_succ_self _))
    show 0 ≤ (E l n).sp
    omega
theorem flB_no {e : Ev} {p : Int} (h : ¬ (0 ≤ e.k ∧ e.k ≤ 3 ∧ okC e.co = true ∧ p < e.sp)) : flB e p = false := by
  rw [← flB_iff] at h
  simpa using h
set_option maxRecDepth 100000 in
set_option maxHeartbeats 4000000 in
/-- Is, the document's: WHETHER A HISTORY MAY BE. -/
theorem ris_in (so eo : Option Addr) (sn sc en ec : Nat) (h : Hs) (w : World) (hs : sn ≤ 5000) (he : en ≤ 5000) (HH : Hid (HasH w ⟨⟨so, sn, sc⟩, ⟨eo, en, ec⟩⟩ h)) :
    Calls Try.prog 17 #[.agg #[.slice so sn sc, .slice eo en ec]] w fun e w' => e = .returned (.bool (okH h)) ∧ Below w.heap.size w w' := by
  have HN1 : Hid (sn = h.s.length) := HH.out.s.len
  have HN3 : Hid (en = h.e.length) := HH.out.e.len
  go_enter Try.func17, Try.ntmps17
  go_upto_region 1 with fail
  have HT : Hid (Hb (w.alloc (.cells #[.slice so sn sc, .slice eo en ec] 25)) w.heap.size ⟨⟨so, sn, sc⟩, ⟨eo, en, ec⟩⟩) := hb_new w ⟨⟨so, sn, sc⟩, ⟨eo, en, ec⟩⟩
  have HB0 := hid (alloc_below w (.cells #[.slice so sn sc, .slice eo en ec] 25))
  generalize w.alloc (.cells #[.slice so sn sc, .slice eo en ec] 25) = W at HT HB0 ⊢
  go_wp2_with fail
  go_loopw [3] (fun i wr => ∃ q : Nat, q ≤ sn ∧ i = .int .i64 q ∧ Hid (∀ i, i < q → spB h.s i = true) ∧ Hid (Below W.heap.size W wr)) (fun i _ => sn - (intOf i).toNat)
  case atStart => exact ⟨0, Nat.zero_le _, rfl, fun c hc => absurd hc (by omega), Below.refl _ _⟩
  case round =>
    obtain ⟨q, hq9, rfl, HG, HL⟩ := hrel
    have c0 : wr.cell? ⟨w.heap.size, 0, none⟩ = some (.slice so sn sc) := (HT.out.below HL.out).c0
    have c1 : wr.cell? ⟨w.heap.size, 1, none⟩ = some (.slice eo en ec) := (HT.out.below HL.out).c1
    have HB := hid (q_trans HB0.out HL.out)
    by_cases hlt : q < sn
    · have i1 : (0 : Int) ≤ (q : Int) := by omega
      have i2 : (q : Int) < (sn : Int) := by omega
      have HQ : Hid (q < h.s.length) := by have := HN1.out; unfold Hid; omega
      obtain ⟨a, ea, ca⟩ := atS_of (HH.out.below HB.out).s.row q HQ.out
      obtain rfl : so = some a := ea
      obtain ⟨x, hx⟩ : ∃ x, h.s.getD q s0 = x := ⟨_, rfl⟩
      have HX : Hid (S h.s q = x) := hx
      rw [hx] at ca
      obtain ⟨d0, d1, d2, d3, d4, d5, d6, d7, d8, d9, d10, d11, d12, d13, d14⟩ := ca
      clear hx
      have hwl : w.heap.size < wr.heap.size := Nat.lt_of_lt_of_le HT.out.lt HL.out.size
      go_upto_region 5 with fail
      have HBX := hid (sb_new wr x)
      have HBl := hid (alloc_below wr (.cells #[.int .i64 x.co, .int .i64 x.c.k, .int .u64 x.c.a, .int .u64 x.c.b, .int .i64 x.c.r, .int .i64 x.c.g, .int .i64 x.c.t, .int .i64 x.c.s, .int .i64 x.c.v, .int .i64 x.st, .int .i64 x.en, .int .i64 x.r.e, .int .i64 x.r.v, .int .i64 x.r.b, .bool x.r.t] 50))
      generalize wr.alloc (.cells #[.int .i64 x.co, .int .i64 x.c.k, .int .u64 x.c.a, .int .u64 x.c.b, .int .i64 x.c.r, .int .i64 x.c.g, .int .i64 x.c.t, .int .i64 x.c.s, .int .i64 x.c.v, .int .i64 x.st, .int .i64 x.en, .int .i64 x.r.e, .int .i64 x.r.v, .int .i64 x.r.b, .bool x.r.t] 50) = W2 at HBX HBl ⊢
      have HBW := hid (q_trans HB.out HBl.out)
      clear d0 d1 d2 d3 d4 d5 d6 d7 d8 d9 d10 d11 d12 d13 d14 c0 c1
      have hne : Nonempty (Later W2) := ⟨⟨W2, Below.refl _ _⟩⟩
      have HCo : Hid (∀ V, Calls Try.prog 32 #[.int .i64 x.co] V fun e w' => e = .returned (.bool (okC x.co)) ∧ Below V.heap.size V w') := fun V => (rcore_any x.co V).mono fun _ _ ⟨a, b⟩ => ⟨a, b ▸ Below.refl _ _⟩
      have hq : ∀ W, (Op.equalIn 10000 31 (.agg #[.int .i64 x.r.e, .int .i64 x.r.v, .int .i64 x.r.b, .bool x.r.t]) (.agg #[.int .i64 0, .int .i64 0, .int .i64 0, .bool false])).run Try.prog W = .ok (eqR x.r r0) W := fun W => eqr_run 9998 x.r r0 W
      obtain ⟨vB, hvB⟩ : ∃ v : Bool, v = !(okC x.co && (decide (lo h.s q ≤ x.st) && enB x)) := ⟨_, rfl⟩
      have HVK := hid hvB
      have HLO := hid (lo_pre HG.out)
      obtain ⟨d0, d1, d2, d3, d4, d5, d6, d7, d8, d9, d10, d11, d12, d13, d14⟩ := HBX.out.at.always
      have c0 : ∀ g : Later W2, g.now.cell? ⟨w.heap.size, 0, none⟩ = some (.slice (some a) sn sc) := fun g => g.cell ((HT.out.below HL.out).below HBl.out).c0
      go_cut [67] from 8 to 95 (fun s wx => s = .bool vB ∧ Hid (Below W2.heap.size W2 wx))
      case first =>
        have h0 : 1 ≤ lo h.s q := HLO.out
        cases hc : okC x.co with
        | false =>
          rw [hc] at HCo
          have HV : Hid (vB = true) := by unfold Hid; rw [hvB, hc]; rfl
          refine wp_region_later (by kernel_rfl) (by kernel_rfl) ?_
          repeat (go_big_quiet_step (first | (go_at_call 32; with_reducible exact later_call (HCo.out _))))
          refine wpQuiet_nil ?_
          rintro w3 ⟨⟨_, b3⟩, rfl⟩
          go_wp2_with fail
          go_meet
          exact ⟨by rw [HV.out], hid b3⟩
        | true =>
          rw [hc] at HCo
          by_cases h1 : x.st < 1
          · have HV : Hid (vB = true) := by unfold Hid; rw [hvB]; simp [hc]; omega
            refine wp_region_later (by kernel_rfl) (by kernel_rfl) ?_
            repeat (go_big_quiet_step (first | (go_at_call 32; with_reducible exact later_call (HCo.out _))))
            refine wpQuiet_nil ?_
            rintro w3 ⟨⟨_, b3⟩, rfl⟩
            go_wp2_with fail
            go_meet
            exact ⟨by rw [HV.out], hid b3⟩
          · by_cases hq0 : (q : Int) > 0
            · have hq0b : decide (0 < q) = true := by simp; omega
              have hq0n : 0 < q := by omega
              obtain ⟨p, hp⟩ : ∃ p, p + 1 = q := ⟨q - 1, by omega⟩
              have hq1 : (q : Int) - 1 = (p : Int) := by omega
              have hq2 : IntKind.i64.wrap (p : Int) = (p : Int) := by rw [IntKind.wrap_i64] <;> omega
              have i3 : (0 : Int) ≤ (p : Int) := by omega
              have i4 : (p : Int) < (sn : Int) := by omega
              obtain ⟨_, ea, cp⟩ := atS_of (HH.out.below HBW.out).s.row p (by have := HN1.out; omega)
              cases ea
              obtain ⟨y, hy⟩ : ∃ y, h.s.getD p s0 = y := ⟨_, rfl⟩
              rw [hy] at cp
              have hlo : lo h.s q = y.st := by rw [← hp]; show (h.s.getD p s0).st = y.st; rw [hy]
              rw [hlo] at hvB
              have HVB := hid hvB
              clear hvB hp hlo hy
              obtain ⟨_, _, _, _, _, _, _, _, _, g9, _, _, _, _, _⟩ := cp.always
              clear cp
              by_cases h2 : x.st < y.st
              · have HV : Hid (vB = true) := by unfold Hid; rw [HVB.out, show decide (y.st ≤ x.st) = false by simp; omega]; simp
                refine wp_region_later (by kernel_rfl) (by kernel_rfl) ?_
                repeat (go_big_quiet_step (first | (go_at_call 32; with_reducible exact later_call (HCo.out _))))
                refine wpQuiet_nil ?_
                rintro w3 ⟨⟨_, b3⟩, rfl⟩
                go_wp2_with fail
                go_meet
                exact ⟨by rw [HV.out], hid b3⟩
              · by_cases h3 : x.en = 0
                · have e1 : (x.en != 0) = false := by simp [h3]
                  have e2 : (x.en == 0) = true := by simp [h3]
                  have hen : enB x = eqR x.r r0 := by simp [enB, h3]
                  have HEN := hid hen
                  clear h3 hen
                  cases hr : eqR x.r r0 with
                  | false =>
                    rw [hr] at hq
                    have HV : Hid (vB = true) := by unfold Hid; rw [HVB.out, HEN.out, hr]; simp
                    clear hr
                    refine wp_region_later (by kernel_rfl) (by kernel_rfl) ?_
                    repeat (go_big_quiet_step (first | (go_at_call 32; with_reducible exact later_call (HCo.out _))))
                    refine wpQuiet_nil ?_
                    rintro w3 ⟨⟨_, b3⟩, rfl⟩
                    go_wp2_with fail
                    go_meet
                    exact ⟨by rw [HV.out], hid b3⟩
                  | true =>
                    rw [hr] at hq
                    have HV : Hid (vB = false) := by unfold Hid; rw [HVB.out, HEN.out, hr]; simp [hc]; omega
                    clear hr
                    refine wp_region_later (by kernel_rfl) (by kernel_rfl) ?_
                    repeat (go_big_quiet_step (first | (go_at_call 32; with_reducible exact later_call (HCo.out _))))
                    refine wpQuiet_nil ?_
                    rintro w3 ⟨⟨_, b3⟩, rfl⟩
                    go_wp2_with fail
                    go_meet
                    exact ⟨by rw [HV.out], hid b3⟩
                · have e1 : (x.en != 0) = true := by simp [h3]
                  have e2 : (x.en == 0) = false := by simp [h3]
                  have hen : enB x = decide (x.st ≤ x.en) := by simp [enB, h3]
                  have HEN := hid hen
                  clear h3 hen
                  by_cases h4 : x.en < x.st
                  · have HV : Hid (vB = true) := by unfold Hid; rw [HVB.out, HEN.out]; simp [hc]; omega
                    refine wp_region_later (by kernel_rfl) (by kernel_rfl) ?_
                    repeat (go_big_quiet_step (first | (go_at_call 32; with_reducible exact later_call (HCo.out _))))
                    refine wpQuiet_nil ?_
                    rintro w3 ⟨⟨_, b3⟩, rfl⟩
                    go_wp2_with fail
                    go_meet
                    exact ⟨by rw [HV.out], hid b3⟩
                  · have HV : Hid (vB = false) := by unfold Hid; rw [HVB.out, HEN.out]; simp [hc]; omega
                    refine wp_region_later (by kernel_rfl) (by kernel_rfl) ?_
                    repeat (go_big_quiet_step (first | (go_at_call 32; with_reducible exact later_call (HCo.out _))))
                    refine wpQuiet_nil ?_
                    rintro w3 ⟨⟨_, b3⟩, rfl⟩
                    go_wp2_with fail
                    go_meet
                    exact ⟨by rw [HV.out], hid b3⟩
            · have hq0b : decide (0 < q) = false := by simp; omega
              have hlo : lo h.s q = 1 := by
                have : q = 0 := by omega
                rw [this]
                rfl
              rw [hlo] at hvB
              have HVB := hid hvB
              clear hvB hlo
              by_cases h3 : x.en = 0
              · have e1 : (x.en != 0) = false := by simp [h3]
                have e2 : (x.en == 0) = true := by simp [h3]
                have hen : enB x = eqR x.r r0 := by simp [enB, h3]
                have HEN := hid hen
                clear h3 hen
                cases hr : eqR x.r r0 with
                | false =>
                  rw [hr] at hq
                  have HV : Hid (vB = true) := by unfold Hid; rw [HVB.out, HEN.out, hr]; simp
                  clear hr
                  refine wp_region_later (by kernel_rfl) (by kernel_rfl) ?_
                  repeat (go_big_quiet_step (first | (go_at_call 32; with_reducible exact later_call (HCo.out _))))
                  refine wpQuiet_nil ?_
                  rintro w3 ⟨⟨_, b3⟩, rfl⟩
                  go_wp2_with fail
                  go_meet
                  exact ⟨by rw [HV.out], hid b3⟩
                | true =>
                  rw [hr] at hq
                  have HV : Hid (vB = false) := by unfold Hid; rw [HVB.out, HEN.out, hr]; simp [hc]; omega
                  clear hr
                  refine wp_region_later (by kernel_rfl) (by kernel_rfl) ?_
                  repeat (go_big_quiet_step (first | (go_at_call 32; with_reducible exact later_call (HCo.out _))))
                  refine wpQuiet_nil ?_
                  rintro w3 ⟨⟨_, b3⟩, rfl⟩
                  go_wp2_with fail
                  go_meet
                  exact ⟨by rw [HV.out], hid b3⟩
              · have e1 : (x.en != 0) = true := by simp [h3]
                have e2 : (x.en == 0) = false := by simp [h3]
                have hen : enB x = decide (x.st ≤ x.en) := by simp [enB, h3]
                have HEN := hid hen
                clear h3 hen
                by_cases h4 : x.en < x.st
                · have HV : Hid (vB = true) := by unfold Hid; rw [HVB.out, HEN.out]; simp [hc]; omega
                  refine wp_region_later (by kernel_rfl) (by kernel_rfl) ?_
                  repeat (go_big_quiet_step (first | (go_at_call 32; with_reducible exact later_call (HCo.out _))))
                  refine wpQuiet_nil ?_
                  rintro w3 ⟨⟨_, b3⟩, rfl⟩
                  go_wp2_with fail
                  go_meet
                  exact ⟨by rw [HV.out], hid b3⟩
                · have HV : Hid (vB = false) := by unfold Hid; rw [HVB.out, HEN.out]; simp [hc]; omega
                  refine wp_region_later (by kernel_rfl) (by kernel_rfl) ?_
                  repeat (go_big_quiet_step (first | (go_at_call 32; with_reducible exact later_call (HCo.out _))))
                  refine wpQuiet_nil ?_
                  rintro w3 ⟨⟨_, b3⟩, rfl⟩
                  go_wp2_with fail
                  go_meet
                  exact ⟨by rw [HV.out], hid b3⟩
      case rest =>
        obtain ⟨rfl, HB3⟩ := hcut
        clear d0 d1 d2 d3 d4 d5 d6 d7 d8 d9 d10 d11 d12 d13 d14 c0 hne HCo hq hvB
        replace HBX := hid (HBX.out.below HB3.out)
        replace HBl := hid (q_trans HBl.out HB3.out)
        cases hv : vB with
        | true =>
          have HR : Hid (okH h = false) := by
            have h1 : spB h.s q = false := by
              have h2 := HVK.out
              rw [hv] at h2
              simp only [spB]
              rw [HX.out]
              exact b3_t h2
            have h3 : okS h.s = false := okS_not.2 fun g => by rw [g q HQ.out] at h1; cases h1
            simp [Hid, okH, h3]
          go_wp2_with fail
          go_ret
          exact ⟨ret_bool HR.out.symm, q_trans HB.out HBl.out⟩
        | false =>
          have HSP : Hid (bhB h.s q x = true → spB h.s q = true) := fun hb => by
            have h2 := HVK.out
            rw [hv] at h2
            simp only [spB]
            rw [HX.out, hb]
            exact b3_f h2
          have HNS : Hid (bhB h.s q x = false → okH h = false) := fun hb => by
            have h1 : spB h.s q = false := by simp only [spB]; rw [HX.out, hb]; simp
            have h3 : okS h.s = false := okS_not.2 fun g => by rw [g q HQ.out] at h1; cases h1
            simp [okH, h3]
          clear hv HVK
          have c0 : wc.cell? ⟨w.heap.size, 0, none⟩ = some (.slice (some a) sn sc) := ((HT.out.below HL.out).below HBl.out).c0
          have d0 := HBX.out.at.c0
          have HRl := hid (rlast_any (some a) sn sc h.s x.co q wc hs hq9 (HH.out.below (q_trans HB.out HBl.out)).s)
          cases hl : lst h.s x.co q with
          | none =>
            rw [hl] at HRl
            have HF : Hid (spB h.s q = true) := HSP.out (by simp only [bhB]; rw [hl])
            clear hl
            obtain ⟨A, hA⟩ : ∃ A, A = plI none := ⟨_, rfl⟩
            rw [← hA] at HRl
            have i8 : decide (A ≥ 0) = false := by rw [hA]; simp [plI]
            have i8b : decide (0 ≤ A) = false := by rw [hA]; simp [plI]
            clear hA
            go_upto_region 8 with (go_at_call 28; refine HRl.out.mono ?_; rintro e w8 ⟨rfl, hw⟩; rw [hw]; clear hw w8)
            clear c0 d0
            have hne : Nonempty (Later wc) := ⟨⟨wc, Below.refl _ _⟩⟩
            refine wp_region_later (by kernel_rfl) (by kernel_rfl) ?_
            repeat (go_big_quiet_step (fail))
            refine wpQuiet_nil ?_
            rintro w4 ⟨⟨_, b4⟩, rfl⟩
            go_wp2_with fail
            go_roundw
            case rel => exact ⟨q + 1, by omega, by go_num, (fun i hi => by
              rcases Nat.lt_or_ge i q with y | y
              · exact HG.out i y
              · obtain rfl : i = q := by omega
                exact HF.out), hid (q_trans HL.out (q_trans HBl.out b4))⟩
            case measure => simp [intOf]; omega
          | some j =>
            obtain ⟨hj, _⟩ := lst_some hl
            rw [hl] at HRl
            replace HRl : Hid (Calls Try.prog 28 #[.slice (some a) sn sc, .int .i64 x.co, .int .i64 q] wc fun e w' => e = .returned (.int .i64 (j : Int)) ∧ w' = wc) := HRl
            have i8 : (j : Int) ≥ 0 := by omega
            have i9 : (0 : Int) ≤ (j : Int) := by omega
            have i10 : (j : Int) < (sn : Int) := by omega
            obtain ⟨_, ea, cj⟩ := atS_of (HH.out.below (q_trans HB.out HBl.out)).s.row j (by have := HQ.out; omega)
            cases ea
            obtain ⟨y, hyj⟩ : ∃ y, h.s.getD j s0 = y := ⟨_, rfl⟩
            rw [hyj] at cj
            have hbh : bhB h.s q x = ahB y x := by simp only [bhB]; rw [hl]; show ahB (h.s.getD j s0) x = _; rw [hyj]
            have HBH := hid hbh
            clear hl hyj hbh
            obtain ⟨_, _, _, _, _, _, _, _, _, _, g10, _, _, _, _⟩ := cj.always
            clear cj
            go_upto_region 8 with (go_at_call 28; refine HRl.out.mono ?_; rintro e w8 ⟨rfl, hw⟩; rw [hw]; clear hw w8)
            clear c0 d0
            have hne : Nonempty (Later wc) := ⟨⟨wc, Below.refl _ _⟩⟩
            have c0 : ∀ g : Later wc, g.now.cell? ⟨w.heap.size, 0, none⟩ = some (.slice (some a) sn sc) := fun g => g.cell ((HT.out.below HL.out).below HBl.out).c0
            obtain ⟨_, _, _, _, _, _, _, _, _, d9, _, _, _, _, _⟩ := HBX.out.at.always
            by_cases h0 : y.en = 0
            · have e1 : (y.en == 0) = true := by simp [h0]
              have HR : Hid (okH h = false) := HNS.out (by rw [HBH.out]; simp [ahB, opB, h0])
              clear h0
              refine wp_region_later (by kernel_rfl) (by kernel_rfl) ?_
              repeat (go_big_quiet_step (fail))
              refine wpQuiet_nil ?_
              rintro w4 ⟨⟨_, b4⟩, rfl⟩
              go_wp2_with fail
              go_ret
              exact ⟨ret_bool HR.out.symm, q_trans (q_trans HB.out HBl.out) b4⟩
            · have e1 : (y.en == 0) = false := by simp [h0]
              by_cases h5 : y.en ≥ x.st
              · have HR : Hid (okH h = false) := HNS.out (by rw [HBH.out]; simp [ahB]; omega)
                clear h0
                refine wp_region_later (by kernel_rfl) (by kernel_rfl) ?_
                repeat (go_big_quiet_step (fail))
                refine wpQuiet_nil ?_
                rintro w4 ⟨⟨_, b4⟩, rfl⟩
                go_wp2_with fail
                go_ret
                exact ⟨ret_bool HR.out.symm, q_trans (q_trans HB.out HBl.out) b4⟩
              · have HF : Hid (spB h.s q = true) := HSP.out (by rw [HBH.out]; simp [ahB, opB, h0]; omega)
                clear h0
                refine wp_region_later (by kernel_rfl) (by kernel_rfl) ?_
                repeat (go_big_quiet_step (fail))
                refine wpQuiet_nil ?_
                rintro w4 ⟨⟨_, b4⟩, rfl⟩
                go_wp2_with fail
                go_roundw
                case rel => exact ⟨q + 1, by omega, by go_num, (fun i hi => by
                  rcases Nat.lt_or_ge i q with y | y
                  · exact HG.out i y
                  · obtain rfl : i = q := by omega
                    exact HF.out), hid (q_trans HL.out (q_trans HBl.out b4))⟩
                case measure => simp [intOf]; omega
    · obtain rfl : sn = q := by omega
      have HSS : Hid (okS h.s = true) := okS_iff.2 (fun i hi => HG.out i (by have := HN1.out; omega))
      go_wp2_with fail
      clear c0 c1 HG
      replace HT := hid (HT.out.below HL.out)
      clear HL HB0
      obtain ⟨V, hV⟩ : ∃ V, V = wr := ⟨_, rfl⟩
      subst hV
      go_loopw [6] (fun i wr => ∃ q : Nat, q ≤ en ∧ i = .int .i64 q ∧ Hid (∀ i, i < q → evB h.e i = true) ∧ Hid (Below V.heap.size V wr)) (fun i _ => en - (intOf i).toNat)
      case atStart => exact ⟨0, Nat.zero_le _, rfl, fun c hc => absurd hc (by omega), Below.refl _ _⟩
      case round =>
        obtain ⟨q, hq9, rfl, HG, HL⟩ := hrel
        have c0 : wr.cell? ⟨w.heap.size, 0, none⟩ = some (.slice so sn sc) := (HT.out.below HL.out).c0
        have c1 : wr.cell? ⟨w.heap.size, 1, none⟩ = some (.slice eo en ec) := (HT.out.below HL.out).c1
        have HB5 := hid (q_trans HB.out HL.out)
        by_cases hlt : q < en
        · have i1 : (0 : Int) ≤ (q : Int) := by omega
          have i2 : (q : Int) < (en : Int) := by omega
          obtain ⟨xs, exs, hxs⟩ := (HH.out.below HB5.out).e
          have hqx : q < xs.length := by have h9 := HN3.out; rw [← exs, List.length_map] at h9; omega
          have HQ : Hid (q < h.e.length) := by unfold Hid; rw [← exs, List.length_map]; exact hqx
          obtain ⟨a, ea, ca⟩ := atE_of hxs.has.row q hqx
          obtain rfl : eo = some a := ea
          have HX : Hid (E h.e q = (xs.getD q (e0, nilH)).1) := by unfold Hid; rw [← exs, E_map hqx]
          have hprev : ∀ p, p < q → ∃ y : Ev × Hd, (E h.e p).sp = y.1.sp ∧ AtE wr (a.add (p * 12)) y := by
            intro p hp
            obtain ⟨a2, ea2, cp⟩ := atE_of hxs.has.row p (by omega)
            cases ea2
            exact ⟨_, by rw [← exs, E_map (by omega)], cp⟩
          have HPV := hid hprev
          clear hprev
          generalize xs.getD q (e0, nilH) = z at ca HX
          obtain ⟨x, u⟩ := z
          replace HX : Hid (E h.e q = x) := HX
          clear hxs exs hqx
          obtain ⟨d0, d1, d2, d3, d4, d5, d6, d7, d8, d9, d10, d11⟩ := ca
          dsimp only at d0 d1 d2 d3 d4 d5 d6 d7 d8 d9 d10 d11
          have hwl : w.heap.size < wr.heap.size := Nat.lt_of_lt_of_le HT.out.lt HL.out.size
          go_upto_region 14 with fail
          have HBX : Hid (Eb (wr.alloc (.cells #[.int .i64 x.k, .int .i64 x.co, .int .i64 x.c.k, .int .u64 x.c.a, .int .u64 x.c.b, .int .i64 x.c.r, .int .i64 x.c.g, .int .i64 x.c.t, .int .i64 x.c.s, .int .i64 x.c.v, .int .i64 x.sp, .slice u.o u.n u.c] 34)) wr.heap.size (x, u)) := eb_new wr (x, u)
          have HBl := hid (alloc_below wr (.cells #[.int .i64 x.k, .int .i64 x.co, .int .i64 x.c.k, .int .u64 x.c.a, .int .u64 x.c.b, .int .i64 x.c.r, .int .i64 x.c.g, .int .i64 x.c.t, .int .i64 x.c.s, .int .i64 x.c.v, .int .i64 x.sp, .slice u.o u.n u.c] 34))
          generalize wr.alloc (.cells #[.int .i64 x.k, .int .i64 x.co, .int .i64 x.c.k, .int .u64 x.c.a, .int .u64 x.c.b, .int .i64 x.c.r, .int .i64 x.c.g, .int .i64 x.c.t, .int .i64 x.c.s, .int .i64 x.c.v, .int .i64 x.sp, .slice u.o u.n u.c] 34) = W2 at HBX HBl ⊢
          clear d0 d1 d2 d3 d4 d5 d6 d7 d8 d9 d10 d11 c0 c1
          have hne : Nonempty (Later W2) := ⟨⟨W2, Below.refl _ _⟩⟩
          have HCo : Hid (∀ V, Calls Try.prog 32 #[.int .i64 x.co] V fun e w' => e = .returned (.bool (okC x.co)) ∧ Below V.heap.size V w') := fun V => (rcore_any x.co V).mono fun _ _ ⟨a, b⟩ => ⟨a, b ▸ Below.refl _ _⟩
          obtain ⟨vB, hvB⟩ : ∃ v : Bool, v = !(flB x (lp h.e q)) := ⟨_, rfl⟩
          have HVK := hid hvB
          have HLO := hid (lp_pre HG.out)
          obtain ⟨d0, d1, d2, d3, d4, d5, d6, d7, d8, d9, d10, d11⟩ := HBX.out.at.always
          dsimp only at d0 d1 d2 d3 d4 d5 d6 d7 d8 d9 d10 d11
          have c1 : ∀ g : Later W2, g.now.cell? ⟨w.heap.size, 1, none⟩ = some (.slice (some a) en ec) := fun g => g.cell ((HT.out.below HL.out).below HBl.out).c1
          go_cut [142] from 96 to 142 (fun s wx => s = .bool vB ∧ Hid (Below W2.heap.size W2 wx))
          case first =>
            have h0 : 0 ≤ lp h.e q := HLO.out
            by_cases k1 : x.k < 0
            · have HV : Hid (vB = true) := by unfold Hid; rw [hvB, flB_no (by omega)]; rfl
              refine wp_region_later (by kernel_rfl) (by kernel_rfl) ?_
              repeat (go_big_quiet_step (first | (go_at_call 32; with_reducible exact later_call (HCo.out _))))
              refine wpQuiet_nil ?_
              rintro w3 ⟨⟨_, b3⟩, rfl⟩
              go_wp2_with fail
              go_meet
              exact ⟨by rw [HV.out], hid b3⟩
            · by_cases k2 : x.k > 3
              · have HV : Hid (vB = true) := by unfold Hid; rw [hvB, flB_no (by omega)]; rfl
                refine wp_region_later (by kernel_rfl) (by kernel_rfl) ?_
                repeat (go_big_quiet_step (first | (go_at_call 32; with_reducible exact later_call (HCo.out _))))
                refine wpQuiet_nil ?_
                rintro w3 ⟨⟨_, b3⟩, rfl⟩
                go_wp2_with fail
                go_meet
                exact ⟨by rw [HV.out], hid b3⟩
              · cases hc : okC x.co with
                | false =>
                  rw [hc] at HCo
                  have HV : Hid (vB = true) := by unfold Hid; rw [hvB, flB_no (by rw [hc]; simp)]; rfl
                  refine wp_region_later (by kernel_rfl) (by kernel_rfl) ?_
                  repeat (go_big_quiet_step (first | (go_at_call 32; with_reducible exact later_call (HCo.out _))))
                  refine wpQuiet_nil ?_
                  rintro w3 ⟨⟨_, b3⟩, rfl⟩
                  go_wp2_with fail
                  go_meet
                  exact ⟨by rw [HV.out], hid b3⟩
                | true =>
                  rw [hc] at HCo
                  by_cases h1 : x.sp < 1
                  · have HV : Hid (vB = true) := by unfold Hid; rw [hvB, flB_no (by omega)]; rfl
                    refine wp_region_later (by kernel_rfl) (by kernel_rfl) ?_
                    repeat (go_big_quiet_step (first | (go_at_call 32; with_reducible exact later_call (HCo.out _))))
                    refine wpQuiet_nil ?_
                    rintro w3 ⟨⟨_, b3⟩, rfl⟩
                    go_wp2_with fail
                    go_meet
                    exact ⟨by rw [HV.out], hid b3⟩
                  · by_cases hq0 : (q : Int) > 0
                    · have hq0b : decide (0 < q) = true := by simp; omega
                      have hq0n : 0 < q := by omega
                      obtain ⟨p, hp⟩ : ∃ p, p + 1 = q := ⟨q - 1, by omega⟩
                      have hq1 : (q : Int) - 1 = (p : Int) := by omega
                      have hq2 : IntKind.i64.wrap (p : Int) = (p : Int) := by rw [IntKind.wrap_i64] <;> omega
                      have i3 : (0 : Int) ≤ (p : Int) := by omega
                      have i4 : (p : Int) < (en : Int) := by omega
                      obtain ⟨y, hy, cp⟩ := HPV.out p (by omega)
                      replace cp := cp.below HBl.out
                      have hlo : lp h.e q = y.1.sp := by rw [← hp]; exact hy
                      rw [hlo] at hvB
                      have HVB := hid hvB
                      clear hvB hp hlo hy
                      obtain ⟨_, _, _, _, _, _, _, _, _, _, g10, _⟩ := cp.always
                      clear cp
                      generalize y.1.sp = Y at HVB g10
                      by_cases h2 : x.sp ≤ Y
                      · have HV : Hid (vB = true) := by unfold Hid; rw [HVB.out, flB_no (by omega)]; rfl
                        refine wp_region_later (by kernel_rfl) (by kernel_rfl) ?_
                        repeat (go_big_quiet_step (first | (go_at_call 32; with_reducible exact later_call (HCo.out _))))
                        refine wpQuiet_nil ?_
                        rintro w3 ⟨⟨_, b3⟩, rfl⟩
                        go_wp2_with fail
                        go_meet
                        exact ⟨by rw [HV.out], hid b3⟩
                      · have HV : Hid (vB = false) := by unfold Hid; rw [HVB.out, flB_iff.2 ⟨by omega, by omega, hc, by omega⟩]; rfl
                        refine wp_region_later (by kernel_rfl) (by kernel_rfl) ?_
                        repeat (go_big_quiet_step (first | (go_at_call 32; with_reducible exact later_call (HCo.out _))))
                        refine wpQuiet_nil ?_
                        rintro w3 ⟨⟨_, b3⟩, rfl⟩
                        go_wp2_with fail
                        go_meet
                        exact ⟨by rw [HV.out], hid b3⟩
                    · have hq0b : decide (0 < q) = false := by simp; omega
                      have hlo : lp h.e q = 0 := by
                        have : q = 0 := by omega
                        rw [this]
                        rfl
                      rw [hlo] at hvB
                      have HV : Hid (vB = false) := by unfold Hid; rw [hvB, flB_iff.2 ⟨by omega, by omega, hc, by omega⟩]; rfl
                      clear hvB hlo
                      refine wp_region_later (by kernel_rfl) (by kernel_rfl) ?_
                      repeat (go_big_quiet_step (first | (go_at_call 32; with_reducible exact later_call (HCo.out _))))
                      refine wpQuiet_nil ?_
                      rintro w3 ⟨⟨_, b3⟩, rfl⟩
                      go_wp2_with fail
                      go_meet
                      exact ⟨by rw [HV.out], hid b3⟩
          case rest =>
            obtain ⟨rfl, HB3⟩ := hcut
            clear d0 d1 d2 d3 d4 d5 d6 d7 d8 d9 d10 d11 c1 hne HCo hvB
            replace HBX := hid (HBX.out.below HB3.out)
            replace HBl := hid (q_trans HBl.out HB3.out)
            cases hv : vB with
            | true =>
              have HR : Hid (okH h = false) := by
                have h1 : evB h.e q = false := by
                  have h2 := HVK.out
                  rw [hv] at h2
                  unfold evB
                  rw [HX.out]
                  revert h2
                  cases flB x (lp h.e q) <;> simp
                have h3 : okE h.e = false := okE_not.2 fun g => by rw [g q HQ.out] at h1; cases h1
                simp [Hid, okH, h3]
              go_wp2_with fail
              go_ret
              exact ⟨ret_bool HR.out.symm, q_trans HB5.out HBl.out⟩
            | false =>
              have HF : Hid (evB h.e q = true) := by
                have h2 := HVK.out
                rw [hv] at h2
                unfold Hid evB
                rw [HX.out]
                revert h2
                cases flB x (lp h.e q) <;> simp
              clear hv HVK
              go_wp2_with fail
              go_roundw
              case rel => exact ⟨q + 1, by omega, by go_num, (fun i hi => by
                rcases Nat.lt_or_ge i q with y | y
                · exact HG.out i y
                · obtain rfl : i = q := by omega
                  exact HF.out), hid (q_trans HL.out HBl.out)⟩
              case measure => simp [intOf]; omega
        · obtain rfl : en = q := by omega
          have HEE : Hid (okE h.e = true) := okE_iff.2 (fun i hi => HG.out i (by have := HN3.out; omega))
          have HR : Hid (okH h = true) := okH_iff.2 ⟨HSS.out, HEE.out⟩
          go_wp2_with fail
          go_ret
          exact ⟨ret_bool HR.out.symm, HB5.out⟩
theorem ris_any (x : Hh) (h : Hs) (w : World) (hs : x.s.n ≤ 5000) (he : x.e.n ≤ 5000) (HH : Hid (HasH w x h)) :
    Calls Try.prog 17 #[(.agg #[.slice x.s.o x.s.n x.s.c, .slice x.e.o x.e.n x.e.c])] w fun e w' => e = .returned (.bool (okH h)) ∧ Below w.heap.size w w' := ris_in x.s.o x.e.o x.s.n x.s.c x.e.n x.e.c h w hs he HH
end Go.Proofs.Ytmnkbkhfonngeaa.Hi
