/- AddrFronts. -/
import Derived.Test.YthnfekdoibhnpaaDoorAdLive
import Derived.Test.YthnfekdoibhnpaaDoorAdCut
import Derived.Test.YthnfekdoibhnpaaDoorAdFrontM
namespace Go.Proofs.YthnfekdoibhnpaaDoor.Ad
open Go.RowKit
open Cp (K)

set_option maxRecDepth 100000 in
set_option maxHeartbeats 2000000 in
theorem fronts_any (to : Option Addr) (m cap' : Nat) (t : List (List K)) (r : K) (ao : Option Addr) (n cap : Nat) (l : List P) (w : World) (hN : HasN w to m cap' t) (hL : HasP w ao n cap l) (hT : Cp.Tabs w) :
    Calls Tryd.prog 6 #[.slice to m cap', (.agg #[.int .i64 r.t, .int .i64 r.r, .int .i64 r.b, .int .i64 r.o, .int .i64 r.g]), .slice ao n cap] w fun e w' => e = .returned (.bool true) ∧ Below w.heap.size w w' := by
  have HN := hid hN
  have HL := hid hL
  have HT := hid hT
  clear hN hL hT
  go_enter Tryd.func6, Tryd.ntmps6
  go_wp2_with fail
  have B0 := hid (alloc_below w (.cells #[.int .i64 r.t, .int .i64 r.r, .int .i64 r.b, .int .i64 r.o, .int .i64 r.g] 41))
  have R0 := hid (atK_new w r 41)
  generalize w.alloc (.cells #[.int .i64 r.t, .int .i64 r.r, .int .i64 r.b, .int .i64 r.o, .int .i64 r.g] 41) = W0 at B0 R0 ⊢
  refine (small_any to ao m n cap cap' t W0 (HN.out.below B0.out)).mono ?_
  rintro e w1 ⟨b, rfl, hb, b1⟩
  have B1 := hid (q_trans B0.out b1)
  have R1 := hid (R0.out.below b1)
  clear b1 B0 R0
  cases b with
  | false =>
    clear hb
    go_wp2_with fail
    refine (live_any _ (HT.out.below B1.out)).mono ?_
    rintro e w2 ⟨rfl, b2⟩
    go_wp2_with fail
    go_ret
    exact ⟨rfl, q_trans B1.out b2⟩
  | true =>
    have h20 := (hb rfl).2.1
    clear hb
    by_cases h2 : n < 2
    · have i2 : (n : Int) < 2 := by omega
      go_wp2_with fail
      refine (live_any _ (HT.out.below B1.out)).mono ?_
      rintro e w2 ⟨rfl, b2⟩
      go_wp2_with fail
      go_ret
      exact ⟨rfl, q_trans B1.out b2⟩
    · have i2 : ¬ (n : Int) < 2 := by omega
      obtain ⟨c0, c1, c2, c3, c4⟩ := R1.out
      go_wp2_with fail
      refine (pFind_any to ao m n cap cap' t r l w1 (HT.out.below B1.out) (HN.out.below B1.out) (HL.out.below B1.out)).mono ?_
      rintro e w2 ⟨po, pn, pc, rfl, hp, b2⟩
      cases hf : fndB t r l with
      | false =>
        have HR := hid (fnd_no hf)
        rw [HR.out.2.1, HR.out.2.2]
        have hpn : pn = 0 := by have := hp.len; rw [HR.out.1] at this; exact this
        subst hpn
        have B2 := hid (q_trans (q_trans B1.out b2) (alloc_below w2 (.cells #[.int .i64 0, .int .i64 0] 43)))
        have A2 : Hid (AtP (w2.alloc (.cells #[.int .i64 0, .int .i64 0] 43)) ⟨w2.heap.size, 0, none⟩ (0, 0)) := at_new w2 (0, 0) 43
        have q1 := eqk_yes (a := (0, 0)) (b := (0, 0)) rfl
        clear c0 c1 c2 c3 c4 hf hp b2
        obtain ⟨a0, a1⟩ := A2.out
        go_wp2_with (go_at_call 14; refine (num_any _ _).mono ?_; rintro e w9 ⟨rfl, rfl⟩)
        refine (live_any _ (HT.out.below B2.out)).mono ?_
        rintro e w3 ⟨rfl, b3⟩
        have B3 := hid (q_trans B2.out b3)
        clear b3
        go_wp2_with fail
        go_ret
        exact ⟨rfl, B3.out⟩
      | true =>
        have HR := hid (fnd_yes hf)
        have HFB := hid hf
        obtain ⟨j, rfl⟩ : ∃ j, n = j + 1 := ⟨n - 1, by omega⟩
        generalize hka : fndK t r l = ka
        rw [HR.out.2.2]
        have HKA := hid hka
        have D2 := hid (alloc_below w2 (.cells #[.int .i64 ka.1, .int .i64 ka.2] 43))
        have P2 := hid (hp.below D2.out)
        have B2 := hid (q_trans (q_trans B1.out b2) D2.out)
        have R2 := hid ((R1.out.below b2).below D2.out)
        have A2 := hid (at_new w2 ka 43)
        clear b2 hp B1 R1 c0 c1 c2 c3 c4 hka hf
        have HF1 : Hid (∀ W : World, Below w.heap.size w W → Calls Tryd.prog 19 #[.slice to m cap', (.agg #[.int .i64 r.t, .int .i64 r.r, .int .i64 r.b, .int .i64 r.o, .int .i64 r.g]), .slice ao j cap] W fun e w' => ∃ ko kn kc, e = .returned (.tuple #[(.agg #[.int .i64 (fndK t r (l.take j)).1, .int .i64 (fndK t r (l.take j)).2]), .slice ko kn kc, .int .i64 (fndE t r (l.take j))]) ∧ HasP w' ko kn kc (fndL t r (l.take j)) ∧ Below W.heap.size W w' ∧ (∀ a, ko = some a → W.heap.size ≤ a.block)) := fun W hW => pFind_new to ao m j cap cap' t r _ W (HT.out.below hW) (HN.out.below hW) ((HL.out.below hW).take j (by omega))
        have rt := run_toS ao j (j + 1) cap (by have := HL.out.cap; omega)
        go_wp2_with (go_at_call 14; refine (num_any _ _).mono ?_; rintro e w9 ⟨rfl, rfl⟩)
        have hS : SR w.heap.size r (w2.alloc (.cells #[.int .i64 ka.1, .int .i64 ka.2] 43)) := sr_at R2.out
        generalize w2.heap.size = kb at A2 ⊢
        generalize w2.alloc (.cells #[.int .i64 ka.1, .int .i64 ka.2] 43) = W2 at P2 B2 R2 A2 hS ⊢
        have HNC : Hid (w.heap.size ≠ W2.heap.size) := Nat.ne_of_lt (World.block_lt_of_cell? W2 _ hS.1)
        have HZ0 : Hid (Bp (W2.alloc (.cells #[.int .i64 0, .int .i64 0] 43)).drew W2.heap.size (0, 0)) := (bp_new W2 (0, 0) 43).below (Below.refl _ _).drew
        go_region_held3 (SR w.heap.size r) (first | with_reducible assumption | with_reducible exact sr_drew hS | with_reducible exact HS3.out | with_reducible exact sr_drew HS3.out | with_reducible exact sr_alloc HS3.out _ | with_reducible exact sr_two HS3.out HNC.out | with_reducible exact sr_drew (sr_two HS3.out HNC.out) | with_reducible exact sr_alloc hS _ | with_reducible exact sr_drew (sr_alloc hS _) | with_reducible exact sr_alloc (sr_drew hS) _ | with_reducible exact sr_drew (sr_alloc HS3.out _))
          (first
            | (go_at_call 19; refine (HF1.out _ (by first | exact B2.out | exact B2.out.drew | exact (q_alloc B2.out _).drew | exact q_alloc B2.out.drew _)).mono ?_; rintro e w3 ⟨qo, qn, qc, rfl, h3, b3, h5⟩; have HQ3 := hid h3; have HQn := hid h5; have HB3 : Hid (Below W2.heap.size W2 w3) := (by first | exact b3 | exact q_trans (Below.refl _ W2).drew b3 | exact q_trans (alloc_below W2 _).drew b3); have HS3 : Hid (SR w.heap.size r w3) := sr_keep hS HB3.out; (try (have HZ3 : Hid (Bp w3 W2.heap.size (0, 0)) := HZ0.out.below b3; obtain ⟨z0, z1, z2, z3⟩ := HZ3.out)); clear h3 b3 h5)
            | fail)
        all_goals clear rt hS HS3 HNC HZ0 HF1
        · have HP3 := hid ((P2.out.below HB3.out).below (alloc_below w3 (.cells #[.int .i64 (fndK t r (l.take j)).1, .int .i64 (fndK t r (l.take j)).2] 43)))
          have HQ4 := hid (HQ3.out.below (alloc_below w3 (.cells #[.int .i64 (fndK t r (l.take j)).1, .int .i64 (fndK t r (l.take j)).2] 43)))
          have A3 := hid ((A2.out.below HB3.out).below (alloc_below w3 (.cells #[.int .i64 (fndK t r (l.take j)).1, .int .i64 (fndK t r (l.take j)).2] 43)))
          have E3 := hid (at_new w3 (fndK t r (l.take j)) 43)
          have B3 := hid (q_trans (q_trans B2.out HB3.out) (alloc_below w3 (.cells #[.int .i64 (fndK t r (l.take j)).1, .int .i64 (fndK t r (l.take j)).2] 43)))
          generalize w3.alloc (.cells #[.int .i64 (fndK t r (l.take j)).1, .int .i64 (fndK t r (l.take j)).2] 43) = W3 at HP3 HQ4 A3 E3 B3 ⊢
          generalize w3.heap.size = eb at E3 ⊢
          clear HB3 HQ3 P2 A2 R2 B2
          obtain ⟨i, rfl⟩ : ∃ i, j = i + 1 := ⟨j - 1, by omega⟩
          obtain ⟨c, hfr⟩ := fr_of (i := i) HL.out.len.symm HFB.out
          have HFr := hid hfr
          have hpn : pn = i + 1 + 1 := by rw [HP3.out.len, hfr.len]
          subst hpn
          have hqn : qn = i + 1 := by rw [HQ4.out.len, ← hfr.tk, List.length_take, hfr.len]; omega
          subst hqn
          rw [hfr.e]
          obtain ⟨pa, rfl, cp1⟩ := HP3.out.at i (by omega)
          obtain ⟨pa2, ep, cp2⟩ := HP3.out.at (i + 1) (by omega)
          cases ep
          rw [hfr.g1] at cp1
          rw [hfr.g2, HKA.out] at cp2
          have HSm : Hid (∀ g : Later W3, Calls Tryd.prog 23 #[.slice qo (i + 1) qc, .slice (some pa) (i + 1) pc] g.now fun e w' => e = .returned (.bool true) ∧ Below g.now.heap.size g.now w') := by
            intro g
            refine ksame_yes (by omega) (HQ4.out.below g.low) ?_
            have := (HP3.out.below g.low).take (i + 1) (by omega)
            rw [HFr.out.tk] at this
            exact this
          have rt2 : ∀ W : World, (Instr.slice 45 (.slice (some pa) (i + 1 + 1) pc) none (some (.int .i64 ((i : Int) + 1))) none).run Tryd.prog W = .ok (.slice (some pa) (i + 1) pc) W := fun W => by
            have := run_toK (some pa) (i + 1) (i + 1 + 1) pc (by have := HP3.out.cap; omega) W
            simpa using this
          have HG0 : Hid (getC t (fndK t r (l.take (i + 1))) = c ∧ slB t (fndK t r (l.take (i + 1))) = true) := ⟨hfr.gc, hfr.sl⟩
          have HKS : Hid (c.t = 2 ∧ c.b = (l.getD (i + 1) (0, 0)).1 ∧ c.r.tmod 2 = 1 ∧ ka.1 = c.o ∧ ka.2 = (l.getD (i + 1) (0, 0)).2) := ⟨hfr.ct, hfr.cb, hfr.cr, by rw [← HKA.out]; exact hfr.k1, by rw [← HKA.out]; exact hfr.k2⟩
          generalize fndK t r (l.take (i + 1)) = k2 at E3 cp1 HG0 ⊢
          have q1 := eqk_yes (a := ka) (b := ka) rfl
          have q2 := eqk_yes (a := k2) (b := k2) rfl
          obtain ⟨x0, x1⟩ := cp1.always
          obtain ⟨y0, y1⟩ := cp2.always
          obtain ⟨a0, a1⟩ := A3.out.always
          obtain ⟨e0, e1⟩ := E3.out.always
          have hne : Nonempty (Later W3) := ⟨⟨_, Below.refl _ _⟩⟩
          clear hfr cp1 cp2
          go_wp2_with (go_at_call 14; refine (num_any _ _).mono ?_; rintro e w9 ⟨rfl, rfl⟩)
          refine wp_region_later (by kernel_rfl) (by kernel_rfl) ?_
          repeat (go_big_quiet_step (first | (go_at_call 14; exact later_same (num_any _ _)) | (go_at_call 23; exact later_call (HSm.out _))))
          refine wpQuiet_nil ?_
          rintro w4 ⟨⟨_, b4⟩, rfl⟩
          have A4 := hid (A3.out.below b4)
          have E4 := hid (E3.out.below b4)
          have B4 := hid (q_trans B3.out b4)
          clear b4 A3 E3 B3 HP3 HQ4 x0 x1 y0 y1 a0 a1 e0 e1 hne rt2 q1 q2 HSm HFr HFB HR HKA
          have HGt : Hid (Calls Tryd.prog 21 #[.slice to m cap', (.agg #[.int .i64 k2.1, .int .i64 k2.2])] w4 fun e w' => e = .returned (.tuple #[(.agg #[.int .i64 c.t, .int .i64 c.r, .int .i64 c.b, .int .i64 c.o, .int .i64 c.g]), .bool true]) ∧ Below w4.heap.size w4 w') := by
            have := pGet_any to m cap' t k2 w4 (HN.out.below B4.out)
            rwa [HG0.out.1, HG0.out.2] at this
          obtain ⟨e0, e1⟩ := E4.out
          go_wp2_with fail
          refine HGt.out.mono ?_
          rintro e w5 ⟨rfl, b5⟩
          have D5 := hid (alloc_below w5 (.cells #[.int .i64 c.t, .int .i64 c.r, .int .i64 c.b, .int .i64 c.o, .int .i64 c.g] 41))
          have A5 := hid ((A4.out.below b5).below D5.out)
          have C5 := hid (atK_new w5 c 41)
          have B5 := hid (q_trans (q_trans B4.out b5) D5.out)
          clear b5 A4 E4 B4 HGt HG0 e0 e1
          go_wp2_with fail
          obtain ⟨la, rfl, cl⟩ := (HL.out.below B5.out).at (i + 1) (by omega)
          generalize l.getD (i + 1) (0, 0) = s at cl HKS
          obtain ⟨s1, s2⟩ := s
          obtain ⟨ka1, ka2⟩ := ka
          obtain ⟨ct, cr, cbb, co, cg⟩ := c
          obtain ⟨z1, z2, z3, z4, z5⟩ := HKS.out
          simp only at z1 z2 z3 z4 z5
          subst z1 z2 z4 z5
          have HLv : Hid (∀ g : Later (w5.alloc (.cells #[.int .i64 (⟨2, cr, cbb, ka1, cg⟩ : K).t, .int .i64 (⟨2, cr, cbb, ka1, cg⟩ : K).r, .int .i64 (⟨2, cr, cbb, ka1, cg⟩ : K).b, .int .i64 (⟨2, cr, cbb, ka1, cg⟩ : K).o, .int .i64 (⟨2, cr, cbb, ka1, cg⟩ : K).g] 41)), Calls Tryd.prog 9 #[] g.now fun e w' => e = .returned (.bool true) ∧ Below g.now.heap.size g.now w') := fun g => live_any _ (HT.out.below (q_trans B5.out g.low))
          have q1 := eqk_yes (a := (ka1, ka2)) (b := (ka1, ka2)) rfl
          obtain ⟨x0, x1⟩ := cl.always
          obtain ⟨a0, a1⟩ := A5.out.always
          obtain ⟨c0, c1, c2, c3, c4⟩ := C5.out.always
          have hne : Nonempty (Later (w5.alloc (.cells #[.int .i64 (⟨2, cr, cbb, ka1, cg⟩ : K).t, .int .i64 (⟨2, cr, cbb, ka1, cg⟩ : K).r, .int .i64 (⟨2, cr, cbb, ka1, cg⟩ : K).b, .int .i64 (⟨2, cr, cbb, ka1, cg⟩ : K).o, .int .i64 (⟨2, cr, cbb, ka1, cg⟩ : K).g] 41))) := ⟨⟨_, Below.refl _ _⟩⟩
          clear cl HKS A5 C5
          refine wp_region_later (by kernel_rfl) (by kernel_rfl) ?_
          repeat (go_big_quiet_step (first | (go_at_call 9; exact later_call (HLv.out _))))
          refine wpQuiet_nil ?_
          rintro w6 ⟨⟨_, b6⟩, rfl⟩
          have B6 := hid (q_trans B5.out b6)
          clear b6 x0 x1 a0 a1 c0 c1 c2 c3 c4 hne q1 HLv z3
          go_wp2_with fail
          go_ret
          exact ⟨rfl, B6.out⟩
        · have D3 := hid (low2 (d := W2.heap.size) (u0 := .int .i64 (fndK t r (l.take j)).1) (u1 := .int .i64 (fndK t r (l.take j)).2) HB3.out (Nat.le_refl _))
          have HP3 := hid (P2.out.below D3.out)
          have HQ4 := hid (HQ3.out.kept (kept2 w3 W2.heap.size (.int .i64 (fndK t r (l.take j)).1) (.int .i64 (fndK t r (l.take j)).2)) (fun _ a e h => by have := HQn.out a e; simp at this; omega))
          have A3 := hid (A2.out.below D3.out)
          have E3 := hid ((HZ3.out.set2 (fndK t r (l.take j))).atP)
          have B3 := hid (q_trans B2.out D3.out)
          clear D3 HZ3 z0 z1 z2 z3
          generalize (w3.setCell ⟨W2.heap.size, 0, none⟩ (.int .i64 (fndK t r (l.take j)).1)).setCell ⟨W2.heap.size, 1, none⟩ (.int .i64 (fndK t r (l.take j)).2) = W3 at HP3 HQ4 A3 E3 B3 ⊢
          generalize W2.heap.size = eb at E3 ⊢
          clear HB3 HQ3 P2 A2 R2 B2
          obtain ⟨i, rfl⟩ : ∃ i, j = i + 1 := ⟨j - 1, by omega⟩
          obtain ⟨c, hfr⟩ := fr_of (i := i) HL.out.len.symm HFB.out
          have HFr := hid hfr
          have hpn : pn = i + 1 + 1 := by rw [HP3.out.len, hfr.len]
          subst hpn
          have hqn : qn = i + 1 := by rw [HQ4.out.len, ← hfr.tk, List.length_take, hfr.len]; omega
          subst hqn
          rw [hfr.e]
          obtain ⟨pa, rfl, cp1⟩ := HP3.out.at i (by omega)
          obtain ⟨pa2, ep, cp2⟩ := HP3.out.at (i + 1) (by omega)
          cases ep
          rw [hfr.g1] at cp1
          rw [hfr.g2, HKA.out] at cp2
          have HSm : Hid (∀ g : Later W3, Calls Tryd.prog 23 #[.slice qo (i + 1) qc, .slice (some pa) (i + 1) pc] g.now fun e w' => e = .returned (.bool true) ∧ Below g.now.heap.size g.now w') := by
            intro g
            refine ksame_yes (by omega) (HQ4.out.below g.low) ?_
            have := (HP3.out.below g.low).take (i + 1) (by omega)
            rw [HFr.out.tk] at this
            exact this
          have rt2 : ∀ W : World, (Instr.slice 45 (.slice (some pa) (i + 1 + 1) pc) none (some (.int .i64 ((i : Int) + 1))) none).run Tryd.prog W = .ok (.slice (some pa) (i + 1) pc) W := fun W => by
            have := run_toK (some pa) (i + 1) (i + 1 + 1) pc (by have := HP3.out.cap; omega) W
            simpa using this
          have HG0 : Hid (getC t (fndK t r (l.take (i + 1))) = c ∧ slB t (fndK t r (l.take (i + 1))) = true) := ⟨hfr.gc, hfr.sl⟩
          have HKS : Hid (c.t = 2 ∧ c.b = (l.getD (i + 1) (0, 0)).1 ∧ c.r.tmod 2 = 1 ∧ ka.1 = c.o ∧ ka.2 = (l.getD (i + 1) (0, 0)).2) := ⟨hfr.ct, hfr.cb, hfr.cr, by rw [← HKA.out]; exact hfr.k1, by rw [← HKA.out]; exact hfr.k2⟩
          generalize fndK t r (l.take (i + 1)) = k2 at E3 cp1 HG0 ⊢
          have q1 := eqk_yes (a := ka) (b := ka) rfl
          have q2 := eqk_yes (a := k2) (b := k2) rfl
          obtain ⟨x0, x1⟩ := cp1.always
          obtain ⟨y0, y1⟩ := cp2.always
          obtain ⟨a0, a1⟩ := A3.out.always
          obtain ⟨e0, e1⟩ := E3.out.always
          have hne : Nonempty (Later W3) := ⟨⟨_, Below.refl _ _⟩⟩
          clear hfr cp1 cp2
          go_wp2_with (go_at_call 14; refine (num_any _ _).mono ?_; rintro e w9 ⟨rfl, rfl⟩)
          refine wp_region_later (by kernel_rfl) (by kernel_rfl) ?_
          repeat (go_big_quiet_step (first | (go_at_call 14; exact later_same (num_any _ _)) | (go_at_call 23; exact later_call (HSm.out _))))
          refine wpQuiet_nil ?_
          rintro w4 ⟨⟨_, b4⟩, rfl⟩
          have A4 := hid (A3.out.below b4)
          have E4 := hid (E3.out.below b4)
          have B4 := hid (q_trans B3.out b4)
          clear b4 A3 E3 B3 HP3 HQ4 x0 x1 y0 y1 a0 a1 e0 e1 hne rt2 q1 q2 HSm HFr HFB HR HKA
          have HGt : Hid (Calls Tryd.prog 21 #[.slice to m cap', (.agg #[.int .i64 k2.1, .int .i64 k2.2])] w4 fun e w' => e = .returned (.tuple #[(.agg #[.int .i64 c.t, .int .i64 c.r, .int .i64 c.b, .int .i64 c.o, .int .i64 c.g]), .bool true]) ∧ Below w4.heap.size w4 w') := by
            have := pGet_any to m cap' t k2 w4 (HN.out.below B4.out)
            rwa [HG0.out.1, HG0.out.2] at this
          obtain ⟨e0, e1⟩ := E4.out
          go_wp2_with fail
          refine HGt.out.mono ?_
          rintro e w5 ⟨rfl, b5⟩
          have D5 := hid (alloc_below w5 (.cells #[.int .i64 c.t, .int .i64 c.r, .int .i64 c.b, .int .i64 c.o, .int .i64 c.g] 41))
          have A5 := hid ((A4.out.below b5).below D5.out)
          have C5 := hid (atK_new w5 c 41)
          have B5 := hid (q_trans (q_trans B4.out b5) D5.out)
          clear b5 A4 E4 B4 HGt HG0 e0 e1
          go_wp2_with fail
          obtain ⟨la, rfl, cl⟩ := (HL.out.below B5.out).at (i + 1) (by omega)
          generalize l.getD (i + 1) (0, 0) = s at cl HKS
          obtain ⟨s1, s2⟩ := s
          obtain ⟨ka1, ka2⟩ := ka
          obtain ⟨ct, cr, cbb, co, cg⟩ := c
          obtain ⟨z1, z2, z3, z4, z5⟩ := HKS.out
          simp only at z1 z2 z3 z4 z5
          subst z1 z2 z4 z5
          have HLv : Hid (∀ g : Later (w5.alloc (.cells #[.int .i64 (⟨2, cr, cbb, ka1, cg⟩ : K).t, .int .i64 (⟨2, cr, cbb, ka1, cg⟩ : K).r, .int .i64 (⟨2, cr, cbb, ka1, cg⟩ : K).b, .int .i64 (⟨2, cr, cbb, ka1, cg⟩ : K).o, .int .i64 (⟨2, cr, cbb, ka1, cg⟩ : K).g] 41)), Calls Tryd.prog 9 #[] g.now fun e w' => e = .returned (.bool true) ∧ Below g.now.heap.size g.now w') := fun g => live_any _ (HT.out.below (q_trans B5.out g.low))
          have q1 := eqk_yes (a := (ka1, ka2)) (b := (ka1, ka2)) rfl
          obtain ⟨x0, x1⟩ := cl.always
          obtain ⟨a0, a1⟩ := A5.out.always
          obtain ⟨c0, c1, c2, c3, c4⟩ := C5.out.always
          have hne : Nonempty (Later (w5.alloc (.cells #[.int .i64 (⟨2, cr, cbb, ka1, cg⟩ : K).t, .int .i64 (⟨2, cr, cbb, ka1, cg⟩ : K).r, .int .i64 (⟨2, cr, cbb, ka1, cg⟩ : K).b, .int .i64 (⟨2, cr, cbb, ka1, cg⟩ : K).o, .int .i64 (⟨2, cr, cbb, ka1, cg⟩ : K).g] 41))) := ⟨⟨_, Below.refl _ _⟩⟩
          clear cl HKS A5 C5
          refine wp_region_later (by kernel_rfl) (by kernel_rfl) ?_
          repeat (go_big_quiet_step (first | (go_at_call 9; exact later_call (HLv.out _))))
          refine wpQuiet_nil ?_
          rintro w6 ⟨⟨_, b6⟩, rfl⟩
          have B6 := hid (q_trans B5.out b6)
          clear b6 x0 x1 a0 a1 c0 c1 c2 c3 c4 hne q1 HLv z3
          go_wp2_with fail
          go_ret
          exact ⟨rfl, B6.out⟩
end Go.Proofs.YthnfekdoibhnpaaDoor.Ad
