/- What the document's Is and place do. -/
import Derived.Test.YtnagpedkmfmniaaArRIn
namespace Go.Proofs.Ytnagpedkmfmniaa.Ar
open Go.RowKit Go.Proofs.Ytnagpedkmfmniaa.Ha

theorem okA_no {a : Ar} (h : ¬ Ok a) : okA a = false := okA_not.2 h
set_option maxRecDepth 100000 in
set_option maxHeartbeats 8000000 in
theorem ris_in (xo fo : Option Addr) (tn tc fn fc : Nat) (a : Ar) (w : World) (HS : Hid (Sm a)) (HH : Hid (HasA w ⟨⟨xo, tn, tc⟩, ⟨fo, fn, fc⟩⟩ a)) (h1 : 1 ≤ tn) (h2 : tn ≤ 64) (h3 : 1 ≤ fn) (h4 : fn ≤ 64) :
    Calls Try.prog 17 #[.agg #[.slice xo tn tc, .slice fo fn fc]] w fun e w' => e = .returned (.bool (okA a)) ∧ Below w.heap.size w w' := by
  have HTN : Hid (tn = a.ts.length) := HH.out.tn
  have HFN : Hid (fn = a.fr.length) := HH.out.fn
  have HB := hid (bx_new w ⟨⟨xo, tn, tc⟩, ⟨fo, fn, fc⟩⟩)
  go_enter Try.func17, Try.ntmps17
  go_wp2
  go_loopw [3] (fun s3 wr => ∃ c : Nat, c ≤ fn ∧ s3 = .int .i64 c ∧ Hid (∀ p, p ∈ upto a.fr c 0 → OkP a p) ∧ Hid (Bx w wr ⟨⟨xo, tn, tc⟩, ⟨fo, fn, fc⟩⟩)) (fun s3 _ => fn - (intOf s3).toNat)
  case atStart => exact ⟨0, Nat.zero_le _, rfl, by simp [Hid, upto], HB⟩
  case round =>
    clear HB
    obtain ⟨c, hc, rfl, HP, HB⟩ := hrel
    obtain ⟨c0, c1, cf⟩ := HB.out.box
    by_cases hlt : c < fn
    · have i1 : (0 : Int) ≤ (c : Int) := by omega
      have i2 : (c : Int) < (fn : Int) := by omega
      have HC : Hid (c < a.fr.length) := by have := HFN.out; exact (by omega : c < a.fr.length)
      obtain ⟨fa, o1, m1, x1, e, ca0, hL⟩ := HH.out.list c HC.out
      have e : fo = some fa := e
      subst e
      have HCA := hid ca0
      have HL := hid hL
      have HM := hid hL.len
      have ca := (kept_below (S := fun _ => False) HB.out.low).cell ca0 (fun e => e)
      clear hL ca0
      by_cases hm : m1 ≤ 64
      · have m64 : (m1 : Int) ≤ 64 := by omega
        go_wp2
        clear c0 c1 cf ca
        go_loopw [4] (fun s4 wr => ∃ k : Nat, k ≤ m1 ∧ s4 = .int .i64 k ∧ Hid (∀ p, p ∈ upto a.fr c k → OkP a p) ∧ Hid (Bx w wr ⟨⟨xo, tn, tc⟩, ⟨some fa, fn, fc⟩⟩)) (fun s4 _ => m1 - (intOf s4).toNat)
        case atStart => exact ⟨0, Nat.zero_le _, rfl, HP, HB⟩
        case round =>
          clear HP HB
          obtain ⟨k, hk, rfl, HP, HB⟩ := hrel
          obtain ⟨c0, c1, cf⟩ := HB.out.box
          have ca := (kept_below (S := fun _ => False) HB.out.low).cell HCA.out (fun e => e)
          by_cases hlt2 : k < m1
          · have j1 : (0 : Int) ≤ (k : Int) := by omega
            have j2 : (k : Int) < (m1 : Int) := by omega
            have HK : Hid (k < (a.fr.getD c []).length) := by have := HM.out; exact (by omega : k < (a.fr.getD c []).length)
            obtain ⟨la, rfl, cl⟩ := (HL.out.below HB.out.low).cell k hlt2
            have HPM := hid (mem_at HC.out HK.out)
            obtain ⟨p, hp⟩ : ∃ p, (a.fr.getD c []).getD k 0 = p := ⟨_, rfl⟩
            rw [hp] at cl HPM
            have HPP := hid hp
            clear hp
            by_cases hp0 : 0 ≤ p
            · by_cases hp1 : p < (tn : Int)
              · obtain ⟨q, rfl⟩ : ∃ q : Nat, p = (q : Int) := ⟨p.toNat, by omega⟩
                obtain ⟨ta, e, hAt⟩ := HH.out.t.at_ q (by show q < tn; omega)
                have e : xo = some ta := e
                subst e
                obtain ⟨t, ht⟩ : ∃ t, a.ts.getD q Th.zero = t := ⟨_, rfl⟩
                rw [ht] at hAt
                have HTT : Hid (at_ a.ts (q : Int) = t) := ht
                have HAt := hid hAt
                clear ht hAt
                obtain ⟨t0, t1, t2, t3, t4, t5, t6, t7⟩ := HAt.out.below HB.out.low
                go_wp2_with fail
                refine (rlive_any t _).mono ?_
                rintro e w2 ⟨rfl, b2⟩
                replace HB := hid (HB.out.below b2)
                clear b2 c0 c1 cf ca cl t0 t1 t2 t3 t4 t5 t6 t7
                cases hb : liveT t with
                | true =>
                  have HR := hid (okA_no (a := a) (fun h => by have := (h.places _ HPM.out).nl; rw [HTT.out, hb] at this; cases this))
                  clear hb
                  go_wp2_with fail
                  go_ret
                  exact ⟨ret_bool HR.out.symm, HB.out.low⟩
                | false =>
                  have HLV := hid hb
                  clear hb
                  obtain ⟨c0, c1, cf⟩ := HB.out.box
                  obtain ⟨t0, t1, t2, t3, t4, t5, t6, t7⟩ := HAt.out.below HB.out.low
                  by_cases hg : t.gen = -1
                  · have HR := hid (okA_no (a := a) (fun h => by have := (h.places _ HPM.out).ng; rw [HTT.out] at this; exact this hg))
                    have e1 := beq_of hg
                    clear hg
                    go_wp2_with fail
                    go_ret
                    exact ⟨ret_bool HR.out.symm, HB.out.low⟩
                  · have e1 := bne_of hg
                    have HGN := hid hg
                    clear hg
                    go_wp2_with fail
                    refine (rin_any ⟨⟨some ta, tn, tc⟩, ⟨some fa, fn, fc⟩⟩ a (q : Int) _ HS (HH.out.below HB.out.low)).mono ?_
                    rintro e w3 ⟨rfl, b3⟩
                    replace HB := hid (HB.out.below b3)
                    clear b3 c0 c1 cf t0 t1 t2 t3 t4 t5 t6 t7
                    obtain ⟨N, hN⟩ : ∃ N, cnt a.fr (q : Int) = N := ⟨_, rfl⟩
                    rw [hN]
                    by_cases h1' : N = 1
                    · have HP2 : Hid (∀ p, p ∈ upto a.fr c (k + 1) → OkP a p) := by
                        intro p hp
                        rw [upto_succ HK.out, HPP.out, List.mem_append, List.mem_singleton] at hp
                        rcases hp with hp | hp
                        · exact HP.out p hp
                        · subst hp
                          exact ⟨by omega, by have := HTN.out; omega, by rw [HTT.out]; exact HLV.out, by rw [HTT.out]; exact HGN.out, hN.trans h1'⟩
                      subst h1'
                      clear hN
                      go_wp2_with fail
                      go_roundw
                      case rel => exact ⟨k + 1, by omega, by go_num, HP2, HB⟩
                      case measure => simp [intOf]; omega
                    · have HR := hid (okA_no (a := a) (fun h => h1' (by rw [← hN]; exact (h.places _ HPM.out).one)))
                      have e2 : ((N : Int) == 1) = false := bne_of (by omega)
                      have e3 : ((N : Int) != 1) = true := by rw [bne, e2]; rfl
                      clear hN h1'
                      go_wp2_with fail
                      go_ret
                      exact ⟨ret_bool HR.out.symm, HB.out.low⟩
              · have HR := hid (okA_no (a := a) (fun h => hp1 (by have := (h.places _ HPM.out).p1; have := HTN.out; omega)))
                go_wp2_with fail
                go_ret
                exact ⟨ret_bool HR.out.symm, HB.out.low⟩
            · have HR := hid (okA_no (a := a) (fun h => hp0 (h.places _ HPM.out).p0))
              go_wp2_with fail
              go_ret
              exact ⟨ret_bool HR.out.symm, HB.out.low⟩
          · obtain rfl : k = m1 := by omega
            have HP2 : Hid (∀ p, p ∈ upto a.fr (c + 1) 0 → OkP a p) := by
              have := HP.out
              rw [HM.out, upto_full HC.out, ← upto_zero] at this
              exact this
            go_wp2_with fail
            go_roundw
            case rel => exact ⟨c + 1, by omega, by go_num, HP2, HB⟩
            case measure => simp [intOf]; omega
      · have m64 : (64 : Int) < (m1 : Int) := by omega
        have HR := hid (okA_no (a := a) (fun h => hm (by have := h.len c HC.out; have := HM.out; omega)))
        go_wp2_with fail
        go_ret
        exact ⟨ret_bool HR.out.symm, HB.out.low⟩
    · obtain rfl : c = fn := by omega
      have HPL : Hid (plB a = true) := by
        have := HP.out
        rw [upto_zero, List.take_of_length_le (by have := HFN.out; omega)] at this
        unfold Hid plB
        rw [List.all_eq_true]
        exact fun p hp => okPB_iff.2 (this p hp)
      go_wp2
      clear c0 c1 cf HP
      go_loopw [6] (fun s6 wr => ∃ q : Nat, q ≤ tn ∧ s6 = .int .i64 q ∧ Hid (∀ j, j < q → okTB (a.ts.getD j Th.zero) = true) ∧ Hid (Bx w wr ⟨⟨xo, tn, tc⟩, ⟨fo, c, fc⟩⟩)) (fun s6 _ => tn - (intOf s6).toNat)
      case atStart => exact ⟨0, Nat.zero_le _, rfl, fun j hj => absurd hj (by omega), HB⟩
      case round =>
        clear HB
        obtain ⟨q, hq, rfl, HO, HB⟩ := hrel
        obtain ⟨c0, c1, cf⟩ := HB.out.box
        by_cases hlt2 : q < tn
        · have i1 : (0 : Int) ≤ (q : Int) := by omega
          have i2 : (q : Int) < (tn : Int) := by omega
          obtain ⟨ta, e, hAt⟩ := (HH.out.below HB.out.low).t.at_ q hlt2
          have e : xo = some ta := e
          subst e
          obtain ⟨t, ht⟩ : ∃ t, a.ts.getD q Th.zero = t := ⟨_, rfl⟩
          rw [ht] at hAt
          have HTT := hid ht
          have HQ : Hid (q < a.ts.length) := by have := HTN.out; exact (by omega : q < a.ts.length)
          have HNO : Hid (¬ OkT t → okA a = false) := fun h => okA_no (fun k => h (by rw [← HTT.out]; exact k.things q HQ.out))
          have HYS : Hid (OkT t → ∀ j, j < q + 1 → okTB (a.ts.getD j Th.zero) = true) := fun h => all_take HO.out (by rw [HTT.out]; exact okTB_iff.2 h)
          have HLI : Hid (liveT t = true ↔ (1 ≤ t.ty ∧ t.ty ≤ 5)) := live_iff
          obtain ⟨t0, t1, t2, t3, t4, t5, t6, t7⟩ := hAt
          have HIN := hid (inT_new wr t 40)
          replace HB := hid (HB.out.below (alloc_below wr (.cells #[.int .i64 t.ty, .int .i64 t.gen, .int .i64 t.refs, .int .i64 t.st, .int .i64 t.sz, .int .i64 t.wa, .int .i64 t.fm, .int .i64 t.va] 40)))
          clear ht
          by_cases g1 : 0 ≤ t.ty
          · by_cases g2 : t.ty ≤ 5
            · by_cases g3 : -1 ≤ t.gen
              · by_cases g4 : t.gen ≤ 4095
                · by_cases g5 : t.gen = -1
                  · have e5 := beq_of g5
                    cases hb : liveT t with
                    | true =>
                      have HR := hid (HNO.out (fun k => by have := k.gl g5; rw [hb] at this; cases this))
                      have HBL := hid hb
                      clear hb g5
                      go_wp2_with fail
                      refine (rlive_any t _).mono ?_
                      rintro e v1 ⟨rfl, k1⟩
                      rw [HBL.out]
                      replace HB := hid (HB.out.below k1)
                      replace HIN := hid (HIN.out.below k1)
                      obtain ⟨d0, d1, d2, d3, d4, d5, d6, d7, df⟩ := HIN.out
                      clear k1
                      go_wp2_with fail
                      go_ret
                      exact ⟨ret_bool HR.out.symm, HB.out.low⟩
                    | false =>
                      have HBL := hid hb
                      have HG5 := hid g5
                      clear hb g5
                      by_cases g6 : 0 ≤ t.refs
                      · by_cases g7 : t.refs = 0
                        · have HY2 := hid (HYS.out ⟨g1, g2, g3, g4, fun _ => HBL.out, g6, fun _ => g7⟩)
                          have e7 : ¬ 0 < t.refs := by omega
                          clear g7
                          go_wp2_with fail
                          refine (rlive_any t _).mono ?_
                          rintro e v1 ⟨rfl, k1⟩
                          rw [HBL.out]
                          replace HB := hid (HB.out.below k1)
                          replace HIN := hid (HIN.out.below k1)
                          obtain ⟨d0, d1, d2, d3, d4, d5, d6, d7, df⟩ := HIN.out
                          clear k1
                          go_wp2_with fail
                          go_roundw
                          case rel => exact ⟨q + 1, by omega, by go_num, HY2, HB⟩
                          case measure => simp [intOf]; omega
                        · have HR := hid (HNO.out (fun k => g7 (k.rl HBL.out)))
                          have e7 : 0 < t.refs := by omega
                          clear g7
                          go_wp2_with fail
                          refine (rlive_any t _).mono ?_
                          rintro e v1 ⟨rfl, k1⟩
                          rw [HBL.out]
                          replace HB := hid (HB.out.below k1)
                          replace HIN := hid (HIN.out.below k1)
                          obtain ⟨d0, d1, d2, d3, d4, d5, d6, d7, df⟩ := HIN.out
                          clear k1
                          go_wp2_with fail
                          refine (rlive_any t _).mono ?_
                          rintro e v2 ⟨rfl, k2⟩
                          rw [HBL.out]
                          replace HB := hid (HB.out.below k2)
                          clear k2
                          go_wp2_with fail
                          go_ret
                          exact ⟨ret_bool HR.out.symm, HB.out.low⟩
                      · have HR := hid (HNO.out (fun k => g6 k.r0))
                        go_wp2_with fail
                        refine (rlive_any t _).mono ?_
                        rintro e v1 ⟨rfl, k1⟩
                        rw [HBL.out]
                        replace HB := hid (HB.out.below k1)
                        replace HIN := hid (HIN.out.below k1)
                        obtain ⟨d0, d1, d2, d3, d4, d5, d6, d7, df⟩ := HIN.out
                        clear k1
                        go_wp2_with fail
                        go_ret
                        exact ⟨ret_bool HR.out.symm, HB.out.low⟩
                  · have e5 := bne_of g5
                    have HG5 := hid g5
                    clear g5
                    by_cases g6 : 0 ≤ t.refs
                    · by_cases g7 : t.refs = 0
                      · have HY2 := hid (HYS.out ⟨g1, g2, g3, g4, fun e => absurd e HG5.out, g6, fun _ => g7⟩)
                        have e7 : ¬ 0 < t.refs := by omega
                        clear g7
                        go_wp2_with fail
                        go_roundw
                        case rel => exact ⟨q + 1, by omega, by go_num, HY2, HB⟩
                        case measure => simp [intOf]; omega
                      · have e7 : 0 < t.refs := by omega
                        cases hb : liveT t with
                        | true =>
                          have HY2 := hid (HYS.out ⟨g1, g2, g3, g4, fun e => absurd e HG5.out, g6, fun e => by rw [hb] at e; cases e⟩)
                          have HBL := hid hb
                          clear hb g7
                          go_wp2_with fail
                          refine (rlive_any t _).mono ?_
                          rintro e v1 ⟨rfl, k1⟩
                          rw [HBL.out]
                          replace HB := hid (HB.out.below k1)
                          replace HIN := hid (HIN.out.below k1)
                          obtain ⟨d0, d1, d2, d3, d4, d5, d6, d7, df⟩ := HIN.out
                          clear k1
                          go_wp2_with fail
                          go_roundw
                          case rel => exact ⟨q + 1, by omega, by go_num, HY2, HB⟩
                          case measure => simp [intOf]; omega
                        | false =>
                          have HR := hid (HNO.out (fun k => g7 (k.rl hb)))
                          have HBL := hid hb
                          clear hb g7
                          go_wp2_with fail
                          refine (rlive_any t _).mono ?_
                          rintro e v1 ⟨rfl, k1⟩
                          rw [HBL.out]
                          replace HB := hid (HB.out.below k1)
                          replace HIN := hid (HIN.out.below k1)
                          obtain ⟨d0, d1, d2, d3, d4, d5, d6, d7, df⟩ := HIN.out
                          clear k1
                          go_wp2_with fail
                          go_ret
                          exact ⟨ret_bool HR.out.symm, HB.out.low⟩
                    · have HR := hid (HNO.out (fun k => g6 k.r0))
                      go_wp2_with fail
                      go_ret
                      exact ⟨ret_bool HR.out.symm, HB.out.low⟩
                · have HR := hid (HNO.out (fun k => g4 k.g1))
                  go_wp2_with fail
                  go_ret
                  exact ⟨ret_bool HR.out.symm, HB.out.low⟩
              · have HR := hid (HNO.out (fun k => g3 k.g0))
                go_wp2_with fail
                go_ret
                exact ⟨ret_bool HR.out.symm, HB.out.low⟩
            · have HR := hid (HNO.out (fun k => g2 k.ty5))
              go_wp2_with fail
              go_ret
              exact ⟨ret_bool HR.out.symm, HB.out.low⟩
          · have HR := hid (HNO.out (fun k => g1 k.ty0))
            go_wp2_with fail
            go_ret
            exact ⟨ret_bool HR.out.symm, HB.out.low⟩
        · obtain rfl : q = tn := by omega
          have HR := hid (okA_iff.2 (ok_of (a := a) (by have := HTN.out; omega) (by have := HTN.out; omega) (by have := HFN.out; omega) (by have := HFN.out; omega) (fun j hj => HO.out j (by have := HTN.out; omega)) HPL.out))
          go_wp2_with fail
          go_ret
          exact ⟨ret_bool HR.out.symm, HB.out.low⟩
end Go.Proofs.Ytnagpedkmfmniaa.Ar
