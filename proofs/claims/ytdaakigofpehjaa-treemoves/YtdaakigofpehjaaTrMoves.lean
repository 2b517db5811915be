/- TreeMoves. -/
import Derived.Test.YtdaakigofpehjaaTrOrder
namespace Go.Proofs.Ytdaakigofpehjaa.Tr
open Go.RowKit

/-- Four keys' boxes. -/
theorem four_keys (w : World) (a b c d : P) (T : TypeId) (W : World) (h : (((w.alloc (.cells #[.int .i64 a.1, .int .i64 a.2] T)).alloc (.cells #[.int .i64 b.1, .int .i64 b.2] T)).alloc (.cells #[.int .i64 c.1, .int .i64 c.2] T)).alloc (.cells #[.int .i64 d.1, .int .i64 d.2] T) = W) : Below w.heap.size w W ∧ AtP W ⟨w.heap.size, 0, none⟩ a ∧ AtP W ⟨w.heap.size + 1, 0, none⟩ b ∧ AtP W ⟨w.heap.size + 1 + 1, 0, none⟩ c ∧ AtP W ⟨w.heap.size + 1 + 1 + 1, 0, none⟩ d := by
  subst h
  obtain ⟨h0, h1, h2, h3⟩ := three_keys w a b c T _ rfl
  refine ⟨q_alloc h0 _, h1.below (alloc_below _ _), h2.below (alloc_below _ _), h3.below (alloc_below _ _), ?_⟩
  have := at_new (((w.alloc (.cells #[.int .i64 a.1, .int .i64 a.2] T)).alloc (.cells #[.int .i64 b.1, .int .i64 b.2] T)).alloc (.cells #[.int .i64 c.1, .int .i64 c.2] T)) d T
  simp only [World.size_alloc] at this
  exact this
theorem two_boxes (w : World) (x y : P) (T : TypeId) : Bp ((w.alloc (.cells #[.int .i64 x.1, .int .i64 x.2] T)).alloc (.cells #[.int .i64 y.1, .int .i64 y.2] T)).drew w.heap.size x ∧ Bp ((w.alloc (.cells #[.int .i64 x.1, .int .i64 x.2] T)).alloc (.cells #[.int .i64 y.1, .int .i64 y.2] T)).drew (w.heap.size + 1) y ∧ Below w.heap.size w ((w.alloc (.cells #[.int .i64 x.1, .int .i64 x.2] T)).alloc (.cells #[.int .i64 y.1, .int .i64 y.2] T)).drew :=
  ⟨((bp_new w x T).below (alloc_below _ _)).below (Below.refl _ _).drew, (bp_two w _ y T).below (Below.refl _ _).drew, (q_alloc (alloc_below w _) _).drew⟩
theorem num_low (x : Int) (w : World) : Calls Try.prog 13 #[.int .i64 x] w fun e w' => e = .returned (.int .i64 x) ∧ Below w.heap.size w w' := by
  refine (num_any x w).mono ?_
  rintro e w' ⟨rfl, rfl⟩
  exact ⟨rfl, Below.refl _ _⟩
set_option maxHeartbeats 1600000 in
theorem moves_long (ao : Option Addr) (n cap : Nat) (f r a b : P) (w : World) (h : 60 < n) :
    Calls Try.prog 8 #[.slice ao n cap, (.agg #[.int .i64 f.1, .int .i64 f.2]), (.agg #[.int .i64 r.1, .int .i64 r.2]), (.agg #[.int .i64 a.1, .int .i64 a.2]), (.agg #[.int .i64 b.1, .int .i64 b.2])] w fun e w' => e = .returned (.bool true) ∧ Below w.heap.size w w' := by
  have B0 := hid (q_alloc (q_alloc (q_alloc (alloc_below w (.cells #[.int .i64 f.1, .int .i64 f.2] 24)) (.cells #[.int .i64 r.1, .int .i64 r.2] 24)) (.cells #[.int .i64 a.1, .int .i64 a.2] 24)) (.cells #[.int .i64 b.1, .int .i64 b.2] 24))
  have i1 : (n : Int) > 60 := by omega
  clear h
  go_enter Try.func8, Try.ntmps8
  go_wp2_with (go_at_call 9; refine (live_any _).mono ?_; rintro e w2 ⟨rfl, b⟩)
  go_ret
  exact ⟨rfl, q_trans B0.out b⟩
set_option maxRecDepth 100000 in
set_option maxHeartbeats 8000000 in
theorem moves_in (ao : Option Addr) (n cap : Nat) (l : List Ac) (f r a b : P) (w : World) (hn : n ≤ 60) (HH : Hid (HasC w ao n cap l)) :
    Calls Try.prog 8 #[.slice ao n cap, (.agg #[.int .i64 f.1, .int .i64 f.2]), (.agg #[.int .i64 r.1, .int .i64 r.2]), (.agg #[.int .i64 a.1, .int .i64 a.2]), (.agg #[.int .i64 b.1, .int .i64 b.2])] w fun e w' => e = .returned (.bool true) ∧ Below w.heap.size w w' := by
  have j1 : ¬ (n : Int) > 60 := by omega
  go_enter Try.func8, Try.ntmps8
  go_wp2_with fail
  obtain ⟨W, hW⟩ : ∃ W, (((w.alloc (.cells #[.int .i64 f.1, .int .i64 f.2] 24)).alloc (.cells #[.int .i64 r.1, .int .i64 r.2] 24)).alloc (.cells #[.int .i64 a.1, .int .i64 a.2] 24)).alloc (.cells #[.int .i64 b.1, .int .i64 b.2] 24) = W := ⟨_, rfl⟩
  obtain ⟨b0, k0, k1, k2, k3⟩ := four_keys w _ _ _ _ _ W hW
  rw [hW]
  have B := hid b0
  have K0 := hid k0
  have K1 := hid k1
  have K2 := hid k2
  have K3 := hid k3
  clear hW b0 k0 k1 k2 k3
  refine (grown_any ao n cap l W (by omega) (HH.out.below B.out)).mono ?_
  rintro e w0 ⟨to, tn, tc, rfl, hh, bb⟩
  have G := hid hh
  replace B := hid (q_trans B.out bb)
  replace K0 := hid (K0.out.below bb)
  replace K1 := hid (K1.out.below bb)
  replace K2 := hid (K2.out.below bb)
  replace K3 := hid (K3.out.below bb)
  clear hh bb
  obtain ⟨t, ht⟩ : ∃ t, gr l = t := ⟨_, rfl⟩
  have HTr : Hid (Tree t) := by unfold Hid; rw [← ht]; exact gr_tree l
  rw [ht] at G
  clear ht
  have hl : tn ≤ 1000 := by have h1 := G.out.len; have h2 := HTr.out.len; omega
  obtain ⟨f0, f1⟩ := K0.out
  obtain ⟨r0, r1⟩ := K1.out
  obtain ⟨a0, a1⟩ := K2.out
  obtain ⟨b0, b1⟩ := K3.out
  go_wp2_with fail
  refine (mov_any to tn tc t f r _ hl G).mono ?_
  rintro e w1 ⟨uo, un, uc, rfl, hh, bb⟩
  replace B := hid (q_trans B.out bb)
  replace G := hid (G.out.below bb)
  replace K0 := hid (K0.out.below bb)
  replace K1 := hid (K1.out.below bb)
  replace K2 := hid (K2.out.below bb)
  replace K3 := hid (K3.out.below bb)
  have U := hid hh
  clear hh
  clear f0 f1 r0 r1 a0 a1 b0 b1
  clear bb
  obtain ⟨f0, f1⟩ := K0.out
  obtain ⟨r0, r1⟩ := K1.out
  obtain ⟨a0, a1⟩ := K2.out
  obtain ⟨b0, b1⟩ := K3.out
  go_wp2_with fail
  refine (mar_any to tn tc t a true _ hl G).mono ?_
  rintro e w2 ⟨mo, mn, mc, rfl, hh, bb⟩
  replace B := hid (q_trans B.out bb)
  replace G := hid (G.out.below bb)
  replace U := hid (U.out.below bb)
  replace K0 := hid (K0.out.below bb)
  replace K1 := hid (K1.out.below bb)
  replace K2 := hid (K2.out.below bb)
  replace K3 := hid (K3.out.below bb)
  have M := hid hh
  clear hh
  clear f0 f1 r0 r1 a0 a1 b0 b1
  clear bb
  obtain ⟨f0, f1⟩ := K0.out
  obtain ⟨r0, r1⟩ := K1.out
  obtain ⟨a0, a1⟩ := K2.out
  obtain ⟨b0, b1⟩ := K3.out
  obtain ⟨y, hy⟩ : ∃ y, dsB t a b = y := ⟨_, rfl⟩
  have HY := hid hy
  clear hy
  by_cases h : maE t a = 0
  · skip
    have HMa : Hid (dsB (maA t a true) a b = y) := by unfold Hid; rw [ma_des HTr.out h a b]; exact HY.out
    have hml : mn ≤ 1000 := by have h1 := M.out.len; have h2 := (ma_tree (k := a) (on := true) HTr.out).len; omega
    have C1 : Hid (∀ W : World, Below w2.heap.size w2 W → Calls Try.prog 24 #[.slice mo mn mc, (.agg #[.int .i64 a.1, .int .i64 a.2]), (.agg #[.int .i64 b.1, .int .i64 b.2])] W fun e w' => e = .returned (.bool y) ∧ Below W.heap.size W w') := fun W hW => ds_at y hml (M.out.below hW) HMa.out
    have C2 : Hid (∀ W : World, Below w2.heap.size w2 W → Calls Try.prog 24 #[.slice to tn tc, (.agg #[.int .i64 a.1, .int .i64 a.2]), (.agg #[.int .i64 b.1, .int .i64 b.2])] W fun e w' => e = .returned (.bool y) ∧ Below W.heap.size W w') := fun W hW => ds_at y hl (G.out.below hW) HY.out
    rw [h]
    clear h
    clear f0 f1 r0 r1 a0 a1 b0 b1
    have hnn : Nonempty (Later w2) := ⟨⟨_, Below.refl _ _⟩⟩
    obtain ⟨f0, f1⟩ := K0.out.always
    obtain ⟨r0, r1⟩ := K1.out.always
    obtain ⟨a0, a1⟩ := K2.out.always
    obtain ⟨b0, b1⟩ := K3.out.always
    go_wp2_with fail
    have hyy : (y != y) = false := by simp
    refine wp_region_later (by kernel_rfl) (by kernel_rfl) ?_
    repeat (go_big_quiet_step (first | (go_at_call 13; exact later_call (num_low _ _)) | (go_at_call 24; with_reducible exact later_call (C1.out _ (Later.low _))) | (go_at_call 24; with_reducible exact later_call (C2.out _ (Later.low _)))))
    refine wpQuiet_nil ?_
    rintro w9 ⟨⟨_, b9⟩, rfl⟩
    replace B := hid (q_trans B.out b9)
    replace G := hid (G.out.below b9)
    replace U := hid (U.out.below b9)
    replace K0 := hid (K0.out.below b9)
    replace K1 := hid (K1.out.below b9)
    replace K2 := hid (K2.out.below b9)
    replace K3 := hid (K3.out.below b9)
    clear b9 hnn
    clear f0 f1 r0 r1 a0 a1 b0 b1
    obtain ⟨f0, f1⟩ := K0.out
    obtain ⟨r0, r1⟩ := K1.out
    obtain ⟨a0, a1⟩ := K2.out
    obtain ⟨b0, b1⟩ := K3.out
    clear C1 C2 hyy M
    by_cases h2 : moE t f r = 0
    · skip
      by_cases ha : a = r
      · skip
        have e1 := eqk_yes ha
        rw [h2]
        clear ha h2
        go_wp2_with (go_at_call 13; refine (num_any _ _).mono ?_; rintro e wq ⟨rfl, hq⟩; rw [hq]; clear hq wq)
        refine (live_any _).mono ?_
        rintro e wz ⟨rfl, bb⟩
        have BZ := hid (q_trans B.out bb)
        clear bb
        go_wp2_with fail
        go_ret
        exact ⟨rfl, BZ.out⟩
      · skip
        have e1 := eqk_no ha
        by_cases hb : b = r
        · skip
          have e2 := eqk_yes hb
          rw [h2]
          clear ha hb h2
          go_wp2_with (go_at_call 13; refine (num_any _ _).mono ?_; rintro e wq ⟨rfl, hq⟩; rw [hq]; clear hq wq)
          refine (live_any _).mono ?_
          rintro e wz ⟨rfl, bb⟩
          have BZ := hid (q_trans B.out bb)
          clear bb
          go_wp2_with fail
          go_ret
          exact ⟨rfl, BZ.out⟩
        · skip
          have e2 := eqk_no hb
          have HM := hid (mo_des HTr.out h2 ha hb)
          rw [h2]
          clear ha hb h2
          go_wp2_with (go_at_call 13; refine (num_any _ _).mono ?_; rintro e wq ⟨rfl, hq⟩; rw [hq]; clear hq wq)
          clear e1 e2
          have hS : SK (w.heap.size + 1 + 1) a (w.heap.size + 1 + 1 + 1) b w9 := ⟨K2.out.c0, K2.out.c1, K3.out.c0, K3.out.c1⟩
          clear f0 f1 r0 r1 a0 a1 b0 b1
          go_region_held3 (SK (w.heap.size + 1 + 1) a (w.heap.size + 1 + 1 + 1) b) (first | with_reducible assumption | with_reducible exact sk_drew hS | with_reducible exact sk_alloc hS _ | with_reducible exact sk_drew (sk_alloc hS _) | with_reducible exact sk_alloc (sk_drew hS) _ | with_reducible exact sk_alloc (sk_alloc hS _) _ | with_reducible exact sk_drew (sk_alloc (sk_alloc hS _) _)) (fail)
          · skip
            obtain ⟨tx, ty, tb⟩ := two_boxes w9 a b 24
            have BW := hid tb
            have BX := hid tx
            have BY := hid ty
            clear tx ty tb hS
            have HX9 : Hid (w9.heap.size ≤ w9.heap.size) := by unfold Hid; omega
            have HY9 : Hid (w9.heap.size ≤ w9.heap.size + 1) := by unfold Hid; omega
            have HNe : Hid (w9.heap.size ≠ w9.heap.size + 1) := by unfold Hid; omega
            generalize ((w9.alloc (.cells #[.int .i64 a.1, .int .i64 a.2] 24)).alloc (.cells #[.int .i64 b.1, .int .i64 b.2] 24)).drew = V at BW BX BY ⊢
            generalize hb1 : w9.heap.size + 1 = by_ at BY HY9 HNe ⊢
            obtain ⟨bx, hb2⟩ : ∃ bx, w9.heap.size = bx := ⟨_, rfl⟩
            rw [hb2] at BX HNe
            have HX9b : Hid (w9.heap.size ≤ bx) := Nat.le_of_eq hb2
            rw [hb2]
            clear HX9
            have HX9 := HX9b
            clear HX9b hb1
            clear hb2
            obtain ⟨f0, f1⟩ := K0.out.below BW.out
            obtain ⟨r0, r1⟩ := K1.out.below BW.out
            obtain ⟨a0, a1⟩ := K2.out.below BW.out
            obtain ⟨b0, b1⟩ := K3.out.below BW.out
            by_cases ea : a = f
            · skip
              have e1 := eqk_yes ea
              have HXr : Hid (rn f r a = r) := if_pos ea
              clear ea
              obtain ⟨q0, q1, q2, q3⟩ := BX.out
              by_cases eb : b = f
              · skip
                have e2 := eqk_yes eb
                have HYr : Hid (rn f r b = r) := if_pos eb
                clear eb
                have BW1 := hid (q_set (q_set BW.out (p := ⟨bx, 0, none⟩) HX9.out (.int .i64 r.1)) (p := ⟨bx, 1, none⟩) HX9.out (.int .i64 r.2))
                have BX1 := hid (bp_put BX.out r)
                have BY1 := hid ((BY.out.other (c := bx) (j := 0) (.int .i64 r.1) (Ne.symm HNe.out)).other (c := bx) (j := 1) (.int .i64 r.2) (Ne.symm HNe.out))
                obtain ⟨f2, f3⟩ := K0.out.below BW1.out
                obtain ⟨r2, r3⟩ := K1.out.below BW1.out
                obtain ⟨a2, a3⟩ := K2.out.below BW1.out
                obtain ⟨b2, b3⟩ := K3.out.below BW1.out
                obtain ⟨y0, y1, y2, y3⟩ := BY1.out
                have BW2 := hid (q_set (q_set BW1.out (p := ⟨by_, 0, none⟩) HY9.out (.int .i64 r.1)) (p := ⟨by_, 1, none⟩) HY9.out (.int .i64 r.2))
                have BY2 := hid (bp_put BY1.out r)
                have BX2 := hid ((BX1.out.other (c := by_) (j := 0) (.int .i64 r.1) HNe.out).other (c := by_) (j := 1) (.int .i64 r.2) HNe.out)
                obtain ⟨f4, f5⟩ := K0.out.below BW2.out
                obtain ⟨r4, r5⟩ := K1.out.below BW2.out
                obtain ⟨a4, a5⟩ := K2.out.below BW2.out
                obtain ⟨b4, b5⟩ := K3.out.below BW2.out
                obtain ⟨hdm, hkm, hlm⟩ := HM.out
                rw [HXr.out, HYr.out, HY.out] at hdm
                have HDm := hid hdm
                have HKm := hid hkm
                have HLm := hid hlm
                clear hdm hkm hlm
                have hun : un = tn := by have h1 := U.out.len; have h2 := HLm.out; have h3 := G.out.len; omega
                subst hun
                go_wp2_with fail
                refine (find_at (k := f) (plc (moA t f r) f) false hl (U.out.below BW2.out) rfl HKm.out).mono ?_
                rintro e w10 ⟨rfl, bb⟩
                have BW3 := hid (q_trans BW2.out bb)
                have BX3 := hid (BX2.out.below bb)
                have BY3 := hid (BY2.out.below bb)
                clear bb
                have C1 : Hid (∀ W : World, Below w10.heap.size w10 W → Calls Try.prog 24 #[.slice uo un uc, (.agg #[.int .i64 r.1, .int .i64 r.2]), (.agg #[.int .i64 r.1, .int .i64 r.2])] W fun e w' => e = .returned (.bool y) ∧ Below W.heap.size W w') := fun W hW => ds_at y hl ((U.out.below BW3.out).below hW) HDm.out
                have C2 : Hid (∀ W : World, Below w10.heap.size w10 W → Calls Try.prog 24 #[.slice to un tc, (.agg #[.int .i64 a.1, .int .i64 a.2]), (.agg #[.int .i64 b.1, .int .i64 b.2])] W fun e w' => e = .returned (.bool y) ∧ Below W.heap.size W w') := fun W hW => ds_at y hl ((G.out.below BW3.out).below hW) HY.out
                have hnn : Nonempty (Later w10) := ⟨⟨_, Below.refl _ _⟩⟩
                obtain ⟨g0, g1⟩ := (show AtP w10 ⟨bx, 0, none⟩ r from ⟨BX3.out.c0, BX3.out.c1⟩).always
                obtain ⟨g2, g3⟩ := (show AtP w10 ⟨by_, 0, none⟩ r from ⟨BY3.out.c0, BY3.out.c1⟩).always
                obtain ⟨g4, g5⟩ := (K2.out.below BW3.out).always
                obtain ⟨g6, g7⟩ := (K3.out.below BW3.out).always
                go_wp2_with fail
                have hyy : (y == y) = true := by simp
                refine wp_region_later (by kernel_rfl) (by kernel_rfl) ?_
                repeat (go_big_quiet_step (first | (go_at_call 9; exact later_call (live_any _)) | (go_at_call 24; with_reducible exact later_call (C1.out _ (Later.low _))) | (go_at_call 24; with_reducible exact later_call (C2.out _ (Later.low _)))))
                refine wpQuiet_nil ?_
                rintro w11 ⟨⟨_, b11⟩, rfl⟩
                have BZ := hid (q_trans (q_trans B.out BW3.out) b11)
                clear b11 hnn g0 g1 g2 g3 g4 g5 g6 g7 C1 C2
                go_wp2_with fail
                go_ret
                exact ⟨rfl, BZ.out⟩
              · skip
                have e2 := eqk_no eb
                have HYr : Hid (rn f r b = b) := if_neg eb
                clear eb
                have BW1 := hid (q_set (q_set BW.out (p := ⟨bx, 0, none⟩) HX9.out (.int .i64 r.1)) (p := ⟨bx, 1, none⟩) HX9.out (.int .i64 r.2))
                have BX1 := hid (bp_put BX.out r)
                have BY1 := hid ((BY.out.other (c := bx) (j := 0) (.int .i64 r.1) (Ne.symm HNe.out)).other (c := bx) (j := 1) (.int .i64 r.2) (Ne.symm HNe.out))
                obtain ⟨f2, f3⟩ := K0.out.below BW1.out
                obtain ⟨r2, r3⟩ := K1.out.below BW1.out
                obtain ⟨a2, a3⟩ := K2.out.below BW1.out
                obtain ⟨b2, b3⟩ := K3.out.below BW1.out
                have BW2 := BW1
                have BX2 := BX1
                have BY2 := BY1
                obtain ⟨hdm, hkm, hlm⟩ := HM.out
                rw [HXr.out, HYr.out, HY.out] at hdm
                have HDm := hid hdm
                have HKm := hid hkm
                have HLm := hid hlm
                clear hdm hkm hlm
                have hun : un = tn := by have h1 := U.out.len; have h2 := HLm.out; have h3 := G.out.len; omega
                subst hun
                go_wp2_with fail
                refine (find_at (k := f) (plc (moA t f r) f) false hl (U.out.below BW2.out) rfl HKm.out).mono ?_
                rintro e w10 ⟨rfl, bb⟩
                have BW3 := hid (q_trans BW2.out bb)
                have BX3 := hid (BX2.out.below bb)
                have BY3 := hid (BY2.out.below bb)
                clear bb
                have C1 : Hid (∀ W : World, Below w10.heap.size w10 W → Calls Try.prog 24 #[.slice uo un uc, (.agg #[.int .i64 r.1, .int .i64 r.2]), (.agg #[.int .i64 b.1, .int .i64 b.2])] W fun e w' => e = .returned (.bool y) ∧ Below W.heap.size W w') := fun W hW => ds_at y hl ((U.out.below BW3.out).below hW) HDm.out
                have C2 : Hid (∀ W : World, Below w10.heap.size w10 W → Calls Try.prog 24 #[.slice to un tc, (.agg #[.int .i64 a.1, .int .i64 a.2]), (.agg #[.int .i64 b.1, .int .i64 b.2])] W fun e w' => e = .returned (.bool y) ∧ Below W.heap.size W w') := fun W hW => ds_at y hl ((G.out.below BW3.out).below hW) HY.out
                have hnn : Nonempty (Later w10) := ⟨⟨_, Below.refl _ _⟩⟩
                obtain ⟨g0, g1⟩ := (show AtP w10 ⟨bx, 0, none⟩ r from ⟨BX3.out.c0, BX3.out.c1⟩).always
                obtain ⟨g2, g3⟩ := (show AtP w10 ⟨by_, 0, none⟩ b from ⟨BY3.out.c0, BY3.out.c1⟩).always
                obtain ⟨g4, g5⟩ := (K2.out.below BW3.out).always
                obtain ⟨g6, g7⟩ := (K3.out.below BW3.out).always
                go_wp2_with fail
                have hyy : (y == y) = true := by simp
                refine wp_region_later (by kernel_rfl) (by kernel_rfl) ?_
                repeat (go_big_quiet_step (first | (go_at_call 9; exact later_call (live_any _)) | (go_at_call 24; with_reducible exact later_call (C1.out _ (Later.low _))) | (go_at_call 24; with_reducible exact later_call (C2.out _ (Later.low _)))))
                refine wpQuiet_nil ?_
                rintro w11 ⟨⟨_, b11⟩, rfl⟩
                have BZ := hid (q_trans (q_trans B.out BW3.out) b11)
                clear b11 hnn g0 g1 g2 g3 g4 g5 g6 g7 C1 C2
                go_wp2_with fail
                go_ret
                exact ⟨rfl, BZ.out⟩
            · skip
              have e1 := eqk_no ea
              have HXr : Hid (rn f r a = a) := if_neg ea
              clear ea
              by_cases eb : b = f
              · skip
                have e2 := eqk_yes eb
                have HYr : Hid (rn f r b = r) := if_pos eb
                clear eb
                have BW1 := BW
                have BX1 := BX
                have BY1 := BY
                obtain ⟨y0, y1, y2, y3⟩ := BY1.out
                have BW2 := hid (q_set (q_set BW1.out (p := ⟨by_, 0, none⟩) HY9.out (.int .i64 r.1)) (p := ⟨by_, 1, none⟩) HY9.out (.int .i64 r.2))
                have BY2 := hid (bp_put BY1.out r)
                have BX2 := hid ((BX1.out.other (c := by_) (j := 0) (.int .i64 r.1) HNe.out).other (c := by_) (j := 1) (.int .i64 r.2) HNe.out)
                obtain ⟨f4, f5⟩ := K0.out.below BW2.out
                obtain ⟨r4, r5⟩ := K1.out.below BW2.out
                obtain ⟨a4, a5⟩ := K2.out.below BW2.out
                obtain ⟨b4, b5⟩ := K3.out.below BW2.out
                obtain ⟨hdm, hkm, hlm⟩ := HM.out
                rw [HXr.out, HYr.out, HY.out] at hdm
                have HDm := hid hdm
                have HKm := hid hkm
                have HLm := hid hlm
                clear hdm hkm hlm
                have hun : un = tn := by have h1 := U.out.len; have h2 := HLm.out; have h3 := G.out.len; omega
                subst hun
                go_wp2_with fail
                refine (find_at (k := f) (plc (moA t f r) f) false hl (U.out.below BW2.out) rfl HKm.out).mono ?_
                rintro e w10 ⟨rfl, bb⟩
                have BW3 := hid (q_trans BW2.out bb)
                have BX3 := hid (BX2.out.below bb)
                have BY3 := hid (BY2.out.below bb)
                clear bb
                have C1 : Hid (∀ W : World, Below w10.heap.size w10 W → Calls Try.prog 24 #[.slice uo un uc, (.agg #[.int .i64 a.1, .int .i64 a.2]), (.agg #[.int .i64 r.1, .int .i64 r.2])] W fun e w' => e = .returned (.bool y) ∧ Below W.heap.size W w') := fun W hW => ds_at y hl ((U.out.below BW3.out).below hW) HDm.out
                have C2 : Hid (∀ W : World, Below w10.heap.size w10 W → Calls Try.prog 24 #[.slice to un tc, (.agg #[.int .i64 a.1, .int .i64 a.2]), (.agg #[.int .i64 b.1, .int .i64 b.2])] W fun e w' => e = .returned (.bool y) ∧ Below W.heap.size W w') := fun W hW => ds_at y hl ((G.out.below BW3.out).below hW) HY.out
                have hnn : Nonempty (Later w10) := ⟨⟨_, Below.refl _ _⟩⟩
                obtain ⟨g0, g1⟩ := (show AtP w10 ⟨bx, 0, none⟩ a from ⟨BX3.out.c0, BX3.out.c1⟩).always
                obtain ⟨g2, g3⟩ := (show AtP w10 ⟨by_, 0, none⟩ r from ⟨BY3.out.c0, BY3.out.c1⟩).always
                obtain ⟨g4, g5⟩ := (K2.out.below BW3.out).always
                obtain ⟨g6, g7⟩ := (K3.out.below BW3.out).always
                go_wp2_with fail
                have hyy : (y == y) = true := by simp
                refine wp_region_later (by kernel_rfl) (by kernel_rfl) ?_
                repeat (go_big_quiet_step (first | (go_at_call 9; exact later_call (live_any _)) | (go_at_call 24; with_reducible exact later_call (C1.out _ (Later.low _))) | (go_at_call 24; with_reducible exact later_call (C2.out _ (Later.low _)))))
                refine wpQuiet_nil ?_
                rintro w11 ⟨⟨_, b11⟩, rfl⟩
                have BZ := hid (q_trans (q_trans B.out BW3.out) b11)
                clear b11 hnn g0 g1 g2 g3 g4 g5 g6 g7 C1 C2
                go_wp2_with fail
                go_ret
                exact ⟨rfl, BZ.out⟩
              · skip
                have e2 := eqk_no eb
                have HYr : Hid (rn f r b = b) := if_neg eb
                clear eb
                have BW1 := BW
                have BX1 := BX
                have BY1 := BY
                have BW2 := BW1
                have BX2 := BX1
                have BY2 := BY1
                obtain ⟨hdm, hkm, hlm⟩ := HM.out
                rw [HXr.out, HYr.out, HY.out] at hdm
                have HDm := hid hdm
                have HKm := hid hkm
                have HLm := hid hlm
                clear hdm hkm hlm
                have hun : un = tn := by have h1 := U.out.len; have h2 := HLm.out; have h3 := G.out.len; omega
                subst hun
                go_wp2_with fail
                refine (find_at (k := f) (plc (moA t f r) f) false hl (U.out.below BW2.out) rfl HKm.out).mono ?_
                rintro e w10 ⟨rfl, bb⟩
                have BW3 := hid (q_trans BW2.out bb)
                have BX3 := hid (BX2.out.below bb)
                have BY3 := hid (BY2.out.below bb)
                clear bb
                have C1 : Hid (∀ W : World, Below w10.heap.size w10 W → Calls Try.prog 24 #[.slice uo un uc, (.agg #[.int .i64 a.1, .int .i64 a.2]), (.agg #[.int .i64 b.1, .int .i64 b.2])] W fun e w' => e = .returned (.bool y) ∧ Below W.heap.size W w') := fun W hW => ds_at y hl ((U.out.below BW3.out).below hW) HDm.out
                have C2 : Hid (∀ W : World, Below w10.heap.size w10 W → Calls Try.prog 24 #[.slice to un tc, (.agg #[.int .i64 a.1, .int .i64 a.2]), (.agg #[.int .i64 b.1, .int .i64 b.2])] W fun e w' => e = .returned (.bool y) ∧ Below W.heap.size W w') := fun W hW => ds_at y hl ((G.out.below BW3.out).below hW) HY.out
                have hnn : Nonempty (Later w10) := ⟨⟨_, Below.refl _ _⟩⟩
                obtain ⟨g0, g1⟩ := (show AtP w10 ⟨bx, 0, none⟩ a from ⟨BX3.out.c0, BX3.out.c1⟩).always
                obtain ⟨g2, g3⟩ := (show AtP w10 ⟨by_, 0, none⟩ b from ⟨BY3.out.c0, BY3.out.c1⟩).always
                obtain ⟨g4, g5⟩ := (K2.out.below BW3.out).always
                obtain ⟨g6, g7⟩ := (K3.out.below BW3.out).always
                go_wp2_with fail
                have hyy : (y == y) = true := by simp
                refine wp_region_later (by kernel_rfl) (by kernel_rfl) ?_
                repeat (go_big_quiet_step (first | (go_at_call 9; exact later_call (live_any _)) | (go_at_call 24; with_reducible exact later_call (C1.out _ (Later.low _))) | (go_at_call 24; with_reducible exact later_call (C2.out _ (Later.low _)))))
                refine wpQuiet_nil ?_
                rintro w11 ⟨⟨_, b11⟩, rfl⟩
                have BZ := hid (q_trans (q_trans B.out BW3.out) b11)
                clear b11 hnn g0 g1 g2 g3 g4 g5 g6 g7 C1 C2
                go_wp2_with fail
                go_ret
                exact ⟨rfl, BZ.out⟩
          · skip
            obtain ⟨tx, ty, tb⟩ := two_boxes w9 b a 24
            have BW := hid tb
            have BX := hid ty
            have BY := hid tx
            clear tx ty tb hS
            have HX9 : Hid (w9.heap.size ≤ w9.heap.size + 1) := by unfold Hid; omega
            have HY9 : Hid (w9.heap.size ≤ w9.heap.size) := by unfold Hid; omega
            have HNe : Hid (w9.heap.size + 1 ≠ w9.heap.size) := by unfold Hid; omega
            generalize ((w9.alloc (.cells #[.int .i64 b.1, .int .i64 b.2] 24)).alloc (.cells #[.int .i64 a.1, .int .i64 a.2] 24)).drew = V at BW BX BY ⊢
            generalize hb1 : w9.heap.size + 1 = bx at BX HX9 HNe ⊢
            obtain ⟨by_, hb2⟩ : ∃ by_, w9.heap.size = by_ := ⟨_, rfl⟩
            rw [hb2] at BY HNe
            have HY9b : Hid (w9.heap.size ≤ by_) := Nat.le_of_eq hb2
            rw [hb2]
            clear HY9
            have HY9 := HY9b
            clear HY9b hb1
            clear hb2
            obtain ⟨f0, f1⟩ := K0.out.below BW.out
            obtain ⟨r0, r1⟩ := K1.out.below BW.out
            obtain ⟨a0, a1⟩ := K2.out.below BW.out
            obtain ⟨b0, b1⟩ := K3.out.below BW.out
            by_cases ea : a = f
            · skip
              have e1 := eqk_yes ea
              have HXr : Hid (rn f r a = r) := if_pos ea
              clear ea
              obtain ⟨q0, q1, q2, q3⟩ := BX.out
              by_cases eb : b = f
              · skip
                have e2 := eqk_yes eb
                have HYr : Hid (rn f r b = r) := if_pos eb
                clear eb
                have BW1 := hid (q_set (q_set BW.out (p := ⟨bx, 0, none⟩) HX9.out (.int .i64 r.1)) (p := ⟨bx, 1, none⟩) HX9.out (.int .i64 r.2))
                have BX1 := hid (bp_put BX.out r)
                have BY1 := hid ((BY.out.other (c := bx) (j := 0) (.int .i64 r.1) (Ne.symm HNe.out)).other (c := bx) (j := 1) (.int .i64 r.2) (Ne.symm HNe.out))
                obtain ⟨f2, f3⟩ := K0.out.below BW1.out
                obtain ⟨r2, r3⟩ := K1.out.below BW1.out
                obtain ⟨a2, a3⟩ := K2.out.below BW1.out
                obtain ⟨b2, b3⟩ := K3.out.below BW1.out
                obtain ⟨y0, y1, y2, y3⟩ := BY1.out
                have BW2 := hid (q_set (q_set BW1.out (p := ⟨by_, 0, none⟩) HY9.out (.int .i64 r.1)) (p := ⟨by_, 1, none⟩) HY9.out (.int .i64 r.2))
                have BY2 := hid (bp_put BY1.out r)
                have BX2 := hid ((BX1.out.other (c := by_) (j := 0) (.int .i64 r.1) HNe.out).other (c := by_) (j := 1) (.int .i64 r.2) HNe.out)
                obtain ⟨f4, f5⟩ := K0.out.below BW2.out
                obtain ⟨r4, r5⟩ := K1.out.below BW2.out
                obtain ⟨a4, a5⟩ := K2.out.below BW2.out
                obtain ⟨b4, b5⟩ := K3.out.below BW2.out
                obtain ⟨hdm, hkm, hlm⟩ := HM.out
                rw [HXr.out, HYr.out, HY.out] at hdm
                have HDm := hid hdm
                have HKm := hid hkm
                have HLm := hid hlm
                clear hdm hkm hlm
                have hun : un = tn := by have h1 := U.out.len; have h2 := HLm.out; have h3 := G.out.len; omega
                subst hun
                go_wp2_with fail
                refine (find_at (k := f) (plc (moA t f r) f) false hl (U.out.below BW2.out) rfl HKm.out).mono ?_
                rintro e w10 ⟨rfl, bb⟩
                have BW3 := hid (q_trans BW2.out bb)
                have BX3 := hid (BX2.out.below bb)
                have BY3 := hid (BY2.out.below bb)
                clear bb
                have C1 : Hid (∀ W : World, Below w10.heap.size w10 W → Calls Try.prog 24 #[.slice uo un uc, (.agg #[.int .i64 r.1, .int .i64 r.2]), (.agg #[.int .i64 r.1, .int .i64 r.2])] W fun e w' => e = .returned (.bool y) ∧ Below W.heap.size W w') := fun W hW => ds_at y hl ((U.out.below BW3.out).below hW) HDm.out
                have C2 : Hid (∀ W : World, Below w10.heap.size w10 W → Calls Try.prog 24 #[.slice to un tc, (.agg #[.int .i64 a.1, .int .i64 a.2]), (.agg #[.int .i64 b.1, .int .i64 b.2])] W fun e w' => e = .returned (.bool y) ∧ Below W.heap.size W w') := fun W hW => ds_at y hl ((G.out.below BW3.out).below hW) HY.out
                have hnn : Nonempty (Later w10) := ⟨⟨_, Below.refl _ _⟩⟩
                obtain ⟨g0, g1⟩ := (show AtP w10 ⟨bx, 0, none⟩ r from ⟨BX3.out.c0, BX3.out.c1⟩).always
                obtain ⟨g2, g3⟩ := (show AtP w10 ⟨by_, 0, none⟩ r from ⟨BY3.out.c0, BY3.out.c1⟩).always
                obtain ⟨g4, g5⟩ := (K2.out.below BW3.out).always
                obtain ⟨g6, g7⟩ := (K3.out.below BW3.out).always
                go_wp2_with fail
                have hyy : (y == y) = true := by simp
                refine wp_region_later (by kernel_rfl) (by kernel_rfl) ?_
                repeat (go_big_quiet_step (first | (go_at_call 9; exact later_call (live_any _)) | (go_at_call 24; with_reducible exact later_call (C1.out _ (Later.low _))) | (go_at_call 24; with_reducible exact later_call (C2.out _ (Later.low _)))))
                refine wpQuiet_nil ?_
                rintro w11 ⟨⟨_, b11⟩, rfl⟩
                have BZ := hid (q_trans (q_trans B.out BW3.out) b11)
                clear b11 hnn g0 g1 g2 g3 g4 g5 g6 g7 C1 C2
                go_wp2_with fail
                go_ret
                exact ⟨rfl, BZ.out⟩
              · skip
                have e2 := eqk_no eb
                have HYr : Hid (rn f r b = b) := if_neg eb
                clear eb
                have BW1 := hid (q_set (q_set BW.out (p := ⟨bx, 0, none⟩) HX9.out (.int .i64 r.1)) (p := ⟨bx, 1, none⟩) HX9.out (.int .i64 r.2))
                have BX1 := hid (bp_put BX.out r)
                have BY1 := hid ((BY.out.other (c := bx) (j := 0) (.int .i64 r.1) (Ne.symm HNe.out)).other (c := bx) (j := 1) (.int .i64 r.2) (Ne.symm HNe.out))
                obtain ⟨f2, f3⟩ := K0.out.below BW1.out
                obtain ⟨r2, r3⟩ := K1.out.below BW1.out
                obtain ⟨a2, a3⟩ := K2.out.below BW1.out
                obtain ⟨b2, b3⟩ := K3.out.below BW1.out
                have BW2 := BW1
                have BX2 := BX1
                have BY2 := BY1
                obtain ⟨hdm, hkm, hlm⟩ := HM.out
                rw [HXr.out, HYr.out, HY.out] at hdm
                have HDm := hid hdm
                have HKm := hid hkm
                have HLm := hid hlm
                clear hdm hkm hlm
                have hun : un = tn := by have h1 := U.out.len; have h2 := HLm.out; have h3 := G.out.len; omega
                subst hun
                go_wp2_with fail
                refine (find_at (k := f) (plc (moA t f r) f) false hl (U.out.below BW2.out) rfl HKm.out).mono ?_
                rintro e w10 ⟨rfl, bb⟩
                have BW3 := hid (q_trans BW2.out bb)
                have BX3 := hid (BX2.out.below bb)
                have BY3 := hid (BY2.out.below bb)
                clear bb
                have C1 : Hid (∀ W : World, Below w10.heap.size w10 W → Calls Try.prog 24 #[.slice uo un uc, (.agg #[.int .i64 r.1, .int .i64 r.2]), (.agg #[.int .i64 b.1, .int .i64 b.2])] W fun e w' => e = .returned (.bool y) ∧ Below W.heap.size W w') := fun W hW => ds_at y hl ((U.out.below BW3.out).below hW) HDm.out
                have C2 : Hid (∀ W : World, Below w10.heap.size w10 W → Calls Try.prog 24 #[.slice to un tc, (.agg #[.int .i64 a.1, .int .i64 a.2]), (.agg #[.int .i64 b.1, .int .i64 b.2])] W fun e w' => e = .returned (.bool y) ∧ Below W.heap.size W w') := fun W hW => ds_at y hl ((G.out.below BW3.out).below hW) HY.out
                have hnn : Nonempty (Later w10) := ⟨⟨_, Below.refl _ _⟩⟩
                obtain ⟨g0, g1⟩ := (show AtP w10 ⟨bx, 0, none⟩ r from ⟨BX3.out.c0, BX3.out.c1⟩).always
                obtain ⟨g2, g3⟩ := (show AtP w10 ⟨by_, 0, none⟩ b from ⟨BY3.out.c0, BY3.out.c1⟩).always
                obtain ⟨g4, g5⟩ := (K2.out.below BW3.out).always
                obtain ⟨g6, g7⟩ := (K3.out.below BW3.out).always
                go_wp2_with fail
                have hyy : (y == y) = true := by simp
                refine wp_region_later (by kernel_rfl) (by kernel_rfl) ?_
                repeat (go_big_quiet_step (first | (go_at_call 9; exact later_call (live_any _)) | (go_at_call 24; with_reducible exact later_call (C1.out _ (Later.low _))) | (go_at_call 24; with_reducible exact later_call (C2.out _ (Later.low _)))))
                refine wpQuiet_nil ?_
                rintro w11 ⟨⟨_, b11⟩, rfl⟩
                have BZ := hid (q_trans (q_trans B.out BW3.out) b11)
                clear b11 hnn g0 g1 g2 g3 g4 g5 g6 g7 C1 C2
                go_wp2_with fail
                go_ret
                exact ⟨rfl, BZ.out⟩
            · skip
              have e1 := eqk_no ea
              have HXr : Hid (rn f r a = a) := if_neg ea
              clear ea
              by_cases eb : b = f
              · skip
                have e2 := eqk_yes eb
                have HYr : Hid (rn f r b = r) := if_pos eb
                clear eb
                have BW1 := BW
                have BX1 := BX
                have BY1 := BY
                obtain ⟨y0, y1, y2, y3⟩ := BY1.out
                have BW2 := hid (q_set (q_set BW1.out (p := ⟨by_, 0, none⟩) HY9.out (.int .i64 r.1)) (p := ⟨by_, 1, none⟩) HY9.out (.int .i64 r.2))
                have BY2 := hid (bp_put BY1.out r)
                have BX2 := hid ((BX1.out.other (c := by_) (j := 0) (.int .i64 r.1) HNe.out).other (c := by_) (j := 1) (.int .i64 r.2) HNe.out)
                obtain ⟨f4, f5⟩ := K0.out.below BW2.out
                obtain ⟨r4, r5⟩ := K1.out.below BW2.out
                obtain ⟨a4, a5⟩ := K2.out.below BW2.out
                obtain ⟨b4, b5⟩ := K3.out.below BW2.out
                obtain ⟨hdm, hkm, hlm⟩ := HM.out
                rw [HXr.out, HYr.out, HY.out] at hdm
                have HDm := hid hdm
                have HKm := hid hkm
                have HLm := hid hlm
                clear hdm hkm hlm
                have hun : un = tn := by have h1 := U.out.len; have h2 := HLm.out; have h3 := G.out.len; omega
                subst hun
                go_wp2_with fail
                refine (find_at (k := f) (plc (moA t f r) f) false hl (U.out.below BW2.out) rfl HKm.out).mono ?_
                rintro e w10 ⟨rfl, bb⟩
                have BW3 := hid (q_trans BW2.out bb)
                have BX3 := hid (BX2.out.below bb)
                have BY3 := hid (BY2.out.below bb)
                clear bb
                have C1 : Hid (∀ W : World, Below w10.heap.size w10 W → Calls Try.prog 24 #[.slice uo un uc, (.agg #[.int .i64 a.1, .int .i64 a.2]), (.agg #[.int .i64 r.1, .int .i64 r.2])] W fun e w' => e = .returned (.bool y) ∧ Below W.heap.size W w') := fun W hW => ds_at y hl ((U.out.below BW3.out).below hW) HDm.out
                have C2 : Hid (∀ W : World, Below w10.heap.size w10 W → Calls Try.prog 24 #[.slice to un tc, (.agg #[.int .i64 a.1, .int .i64 a.2]), (.agg #[.int .i64 b.1, .int .i64 b.2])] W fun e w' => e = .returned (.bool y) ∧ Below W.heap.size W w') := fun W hW => ds_at y hl ((G.out.below BW3.out).below hW) HY.out
                have hnn : Nonempty (Later w10) := ⟨⟨_, Below.refl _ _⟩⟩
                obtain ⟨g0, g1⟩ := (show AtP w10 ⟨bx, 0, none⟩ a from ⟨BX3.out.c0, BX3.out.c1⟩).always
                obtain ⟨g2, g3⟩ := (show AtP w10 ⟨by_, 0, none⟩ r from ⟨BY3.out.c0, BY3.out.c1⟩).always
                obtain ⟨g4, g5⟩ := (K2.out.below BW3.out).always
                obtain ⟨g6, g7⟩ := (K3.out.below BW3.out).always
                go_wp2_with fail
                have hyy : (y == y) = true := by simp
                refine wp_region_later (by kernel_rfl) (by kernel_rfl) ?_
                repeat (go_big_quiet_step (first | (go_at_call 9; exact later_call (live_any _)) | (go_at_call 24; with_reducible exact later_call (C1.out _ (Later.low _))) | (go_at_call 24; with_reducible exact later_call (C2.out _ (Later.low _)))))
                refine wpQuiet_nil ?_
                rintro w11 ⟨⟨_, b11⟩, rfl⟩
                have BZ := hid (q_trans (q_trans B.out BW3.out) b11)
                clear b11 hnn g0 g1 g2 g3 g4 g5 g6 g7 C1 C2
                go_wp2_with fail
                go_ret
                exact ⟨rfl, BZ.out⟩
              · skip
                have e2 := eqk_no eb
                have HYr : Hid (rn f r b = b) := if_neg eb
                clear eb
                have BW1 := BW
                have BX1 := BX
                have BY1 := BY
                have BW2 := BW1
                have BX2 := BX1
                have BY2 := BY1
                obtain ⟨hdm, hkm, hlm⟩ := HM.out
                rw [HXr.out, HYr.out, HY.out] at hdm
                have HDm := hid hdm
                have HKm := hid hkm
                have HLm := hid hlm
                clear hdm hkm hlm
                have hun : un = tn := by have h1 := U.out.len; have h2 := HLm.out; have h3 := G.out.len; omega
                subst hun
                go_wp2_with fail
                refine (find_at (k := f) (plc (moA t f r) f) false hl (U.out.below BW2.out) rfl HKm.out).mono ?_
                rintro e w10 ⟨rfl, bb⟩
                have BW3 := hid (q_trans BW2.out bb)
                have BX3 := hid (BX2.out.below bb)
                have BY3 := hid (BY2.out.below bb)
                clear bb
                have C1 : Hid (∀ W : World, Below w10.heap.size w10 W → Calls Try.prog 24 #[.slice uo un uc, (.agg #[.int .i64 a.1, .int .i64 a.2]), (.agg #[.int .i64 b.1, .int .i64 b.2])] W fun e w' => e = .returned (.bool y) ∧ Below W.heap.size W w') := fun W hW => ds_at y hl ((U.out.below BW3.out).below hW) HDm.out
                have C2 : Hid (∀ W : World, Below w10.heap.size w10 W → Calls Try.prog 24 #[.slice to un tc, (.agg #[.int .i64 a.1, .int .i64 a.2]), (.agg #[.int .i64 b.1, .int .i64 b.2])] W fun e w' => e = .returned (.bool y) ∧ Below W.heap.size W w') := fun W hW => ds_at y hl ((G.out.below BW3.out).below hW) HY.out
                have hnn : Nonempty (Later w10) := ⟨⟨_, Below.refl _ _⟩⟩
                obtain ⟨g0, g1⟩ := (show AtP w10 ⟨bx, 0, none⟩ a from ⟨BX3.out.c0, BX3.out.c1⟩).always
                obtain ⟨g2, g3⟩ := (show AtP w10 ⟨by_, 0, none⟩ b from ⟨BY3.out.c0, BY3.out.c1⟩).always
                obtain ⟨g4, g5⟩ := (K2.out.below BW3.out).always
                obtain ⟨g6, g7⟩ := (K3.out.below BW3.out).always
                go_wp2_with fail
                have hyy : (y == y) = true := by simp
                refine wp_region_later (by kernel_rfl) (by kernel_rfl) ?_
                repeat (go_big_quiet_step (first | (go_at_call 9; exact later_call (live_any _)) | (go_at_call 24; with_reducible exact later_call (C1.out _ (Later.low _))) | (go_at_call 24; with_reducible exact later_call (C2.out _ (Later.low _)))))
                refine wpQuiet_nil ?_
                rintro w11 ⟨⟨_, b11⟩, rfl⟩
                have BZ := hid (q_trans (q_trans B.out BW3.out) b11)
                clear b11 hnn g0 g1 g2 g3 g4 g5 g6 g7 C1 C2
                go_wp2_with fail
                go_ret
                exact ⟨rfl, BZ.out⟩
    · skip
      obtain ⟨x2, hx2⟩ : ∃ x, moE t f r = x := ⟨_, rfl⟩
      rw [hx2] at h2 ⊢
      have hx3 : (x2 != 0) = true := by simp [h2]
      clear h2 hx2
      go_wp2_with (go_at_call 13; refine (num_any _ _).mono ?_; rintro e wq ⟨rfl, hq⟩; rw [hq]; clear hq wq)
      refine (live_any _).mono ?_
      rintro e wz ⟨rfl, bb⟩
      have BZ := hid (q_trans B.out bb)
      clear bb
      go_wp2_with fail
      go_ret
      exact ⟨rfl, BZ.out⟩
  · skip
    obtain ⟨x, hx⟩ : ∃ x, maE t a = x := ⟨_, rfl⟩
    rw [hx] at h ⊢
    have hx2 : (x == 0) = false := by simp [h]
    clear h hx
    clear f0 f1 r0 r1 a0 a1 b0 b1
    have hnn : Nonempty (Later w2) := ⟨⟨_, Below.refl _ _⟩⟩
    obtain ⟨f0, f1⟩ := K0.out.always
    obtain ⟨r0, r1⟩ := K1.out.always
    obtain ⟨a0, a1⟩ := K2.out.always
    obtain ⟨b0, b1⟩ := K3.out.always
    go_wp2_with fail
    refine wp_region_later (by kernel_rfl) (by kernel_rfl) ?_
    repeat (go_big_quiet_step (first | (go_at_call 13; exact later_call (num_low _ _))))
    refine wpQuiet_nil ?_
    rintro w9 ⟨⟨_, b9⟩, rfl⟩
    replace B := hid (q_trans B.out b9)
    replace G := hid (G.out.below b9)
    replace U := hid (U.out.below b9)
    replace K0 := hid (K0.out.below b9)
    replace K1 := hid (K1.out.below b9)
    replace K2 := hid (K2.out.below b9)
    replace K3 := hid (K3.out.below b9)
    clear b9 hnn
    clear f0 f1 r0 r1 a0 a1 b0 b1
    obtain ⟨f0, f1⟩ := K0.out
    obtain ⟨r0, r1⟩ := K1.out
    obtain ⟨a0, a1⟩ := K2.out
    obtain ⟨b0, b1⟩ := K3.out
    clear hx2 M
    by_cases h2 : moE t f r = 0
    · skip
      by_cases ha : a = r
      · skip
        have e1 := eqk_yes ha
        rw [h2]
        clear ha h2
        go_wp2_with (go_at_call 13; refine (num_any _ _).mono ?_; rintro e wq ⟨rfl, hq⟩; rw [hq]; clear hq wq)
        refine (live_any _).mono ?_
        rintro e wz ⟨rfl, bb⟩
        have BZ := hid (q_trans B.out bb)
        clear bb
        go_wp2_with fail
        go_ret
        exact ⟨rfl, BZ.out⟩
      · skip
        have e1 := eqk_no ha
        by_cases hb : b = r
        · skip
          have e2 := eqk_yes hb
          rw [h2]
          clear ha hb h2
          go_wp2_with (go_at_call 13; refine (num_any _ _).mono ?_; rintro e wq ⟨rfl, hq⟩; rw [hq]; clear hq wq)
          refine (live_any _).mono ?_
          rintro e wz ⟨rfl, bb⟩
          have BZ := hid (q_trans B.out bb)
          clear bb
          go_wp2_with fail
          go_ret
          exact ⟨rfl, BZ.out⟩
        · skip
          have e2 := eqk_no hb
          have HM := hid (mo_des HTr.out h2 ha hb)
          rw [h2]
          clear ha hb h2
          go_wp2_with (go_at_call 13; refine (num_any _ _).mono ?_; rintro e wq ⟨rfl, hq⟩; rw [hq]; clear hq wq)
          clear e1 e2
          have hS : SK (w.heap.size + 1 + 1) a (w.heap.size + 1 + 1 + 1) b w9 := ⟨K2.out.c0, K2.out.c1, K3.out.c0, K3.out.c1⟩
          clear f0 f1 r0 r1 a0 a1 b0 b1
          go_region_held3 (SK (w.heap.size + 1 + 1) a (w.heap.size + 1 + 1 + 1) b) (first | with_reducible assumption | with_reducible exact sk_drew hS | with_reducible exact sk_alloc hS _ | with_reducible exact sk_drew (sk_alloc hS _) | with_reducible exact sk_alloc (sk_drew hS) _ | with_reducible exact sk_alloc (sk_alloc hS _) _ | with_reducible exact sk_drew (sk_alloc (sk_alloc hS _) _)) (fail)
          · skip
            obtain ⟨tx, ty, tb⟩ := two_boxes w9 a b 24
            have BW := hid tb
            have BX := hid tx
            have BY := hid ty
            clear tx ty tb hS
            have HX9 : Hid (w9.heap.size ≤ w9.heap.size) := by unfold Hid; omega
            have HY9 : Hid (w9.heap.size ≤ w9.heap.size + 1) := by unfold Hid; omega
            have HNe : Hid (w9.heap.size ≠ w9.heap.size + 1) := by unfold Hid; omega
            generalize ((w9.alloc (.cells #[.int .i64 a.1, .int .i64 a.2] 24)).alloc (.cells #[.int .i64 b.1, .int .i64 b.2] 24)).drew = V at BW BX BY ⊢
            generalize hb1 : w9.heap.size + 1 = by_ at BY HY9 HNe ⊢
            obtain ⟨bx, hb2⟩ : ∃ bx, w9.heap.size = bx := ⟨_, rfl⟩
            rw [hb2] at BX HNe
            have HX9b : Hid (w9.heap.size ≤ bx) := Nat.le_of_eq hb2
            rw [hb2]
            clear HX9
            have HX9 := HX9b
            clear HX9b hb1
            clear hb2
            obtain ⟨f0, f1⟩ := K0.out.below BW.out
            obtain ⟨r0, r1⟩ := K1.out.below BW.out
            obtain ⟨a0, a1⟩ := K2.out.below BW.out
            obtain ⟨b0, b1⟩ := K3.out.below BW.out
            by_cases ea : a = f
            · skip
              have e1 := eqk_yes ea
              have HXr : Hid (rn f r a = r) := if_pos ea
              clear ea
              obtain ⟨q0, q1, q2, q3⟩ := BX.out
              by_cases eb : b = f
              · skip
                have e2 := eqk_yes eb
                have HYr : Hid (rn f r b = r) := if_pos eb
                clear eb
                have BW1 := hid (q_set (q_set BW.out (p := ⟨bx, 0, none⟩) HX9.out (.int .i64 r.1)) (p := ⟨bx, 1, none⟩) HX9.out (.int .i64 r.2))
                have BX1 := hid (bp_put BX.out r)
                have BY1 := hid ((BY.out.other (c := bx) (j := 0) (.int .i64 r.1) (Ne.symm HNe.out)).other (c := bx) (j := 1) (.int .i64 r.2) (Ne.symm HNe.out))
                obtain ⟨f2, f3⟩ := K0.out.below BW1.out
                obtain ⟨r2, r3⟩ := K1.out.below BW1.out
                obtain ⟨a2, a3⟩ := K2.out.below BW1.out
                obtain ⟨b2, b3⟩ := K3.out.below BW1.out
                obtain ⟨y0, y1, y2, y3⟩ := BY1.out
                have BW2 := hid (q_set (q_set BW1.out (p := ⟨by_, 0, none⟩) HY9.out (.int .i64 r.1)) (p := ⟨by_, 1, none⟩) HY9.out (.int .i64 r.2))
                have BY2 := hid (bp_put BY1.out r)
                have BX2 := hid ((BX1.out.other (c := by_) (j := 0) (.int .i64 r.1) HNe.out).other (c := by_) (j := 1) (.int .i64 r.2) HNe.out)
                obtain ⟨f4, f5⟩ := K0.out.below BW2.out
                obtain ⟨r4, r5⟩ := K1.out.below BW2.out
                obtain ⟨a4, a5⟩ := K2.out.below BW2.out
                obtain ⟨b4, b5⟩ := K3.out.below BW2.out
                obtain ⟨hdm, hkm, hlm⟩ := HM.out
                rw [HXr.out, HYr.out, HY.out] at hdm
                have HDm := hid hdm
                have HKm := hid hkm
                have HLm := hid hlm
                clear hdm hkm hlm
                have hun : un = tn := by have h1 := U.out.len; have h2 := HLm.out; have h3 := G.out.len; omega
                subst hun
                go_wp2_with fail
                refine (find_at (k := f) (plc (moA t f r) f) false hl (U.out.below BW2.out) rfl HKm.out).mono ?_
                rintro e w10 ⟨rfl, bb⟩
                have BW3 := hid (q_trans BW2.out bb)
                have BX3 := hid (BX2.out.below bb)
                have BY3 := hid (BY2.out.below bb)
                clear bb
                have C1 : Hid (∀ W : World, Below w10.heap.size w10 W → Calls Try.prog 24 #[.slice uo un uc, (.agg #[.int .i64 r.1, .int .i64 r.2]), (.agg #[.int .i64 r.1, .int .i64 r.2])] W fun e w' => e = .returned (.bool y) ∧ Below W.heap.size W w') := fun W hW => ds_at y hl ((U.out.below BW3.out).below hW) HDm.out
                have C2 : Hid (∀ W : World, Below w10.heap.size w10 W → Calls Try.prog 24 #[.slice to un tc, (.agg #[.int .i64 a.1, .int .i64 a.2]), (.agg #[.int .i64 b.1, .int .i64 b.2])] W fun e w' => e = .returned (.bool y) ∧ Below W.heap.size W w') := fun W hW => ds_at y hl ((G.out.below BW3.out).below hW) HY.out
                have hnn : Nonempty (Later w10) := ⟨⟨_, Below.refl _ _⟩⟩
                obtain ⟨g0, g1⟩ := (show AtP w10 ⟨bx, 0, none⟩ r from ⟨BX3.out.c0, BX3.out.c1⟩).always
                obtain ⟨g2, g3⟩ := (show AtP w10 ⟨by_, 0, none⟩ r from ⟨BY3.out.c0, BY3.out.c1⟩).always
                obtain ⟨g4, g5⟩ := (K2.out.below BW3.out).always
                obtain ⟨g6, g7⟩ := (K3.out.below BW3.out).always
                go_wp2_with fail
                have hyy : (y == y) = true := by simp
                refine wp_region_later (by kernel_rfl) (by kernel_rfl) ?_
                repeat (go_big_quiet_step (first | (go_at_call 9; exact later_call (live_any _)) | (go_at_call 24; with_reducible exact later_call (C1.out _ (Later.low _))) | (go_at_call 24; with_reducible exact later_call (C2.out _ (Later.low _)))))
                refine wpQuiet_nil ?_
                rintro w11 ⟨⟨_, b11⟩, rfl⟩
                have BZ := hid (q_trans (q_trans B.out BW3.out) b11)
                clear b11 hnn g0 g1 g2 g3 g4 g5 g6 g7 C1 C2
                go_wp2_with fail
                go_ret
                exact ⟨rfl, BZ.out⟩
              · skip
                have e2 := eqk_no eb
                have HYr : Hid (rn f r b = b) := if_neg eb
                clear eb
                have BW1 := hid (q_set (q_set BW.out (p := ⟨bx, 0, none⟩) HX9.out (.int .i64 r.1)) (p := ⟨bx, 1, none⟩) HX9.out (.int .i64 r.2))
                have BX1 := hid (bp_put BX.out r)
                have BY1 := hid ((BY.out.other (c := bx) (j := 0) (.int .i64 r.1) (Ne.symm HNe.out)).other (c := bx) (j := 1) (.int .i64 r.2) (Ne.symm HNe.out))
                obtain ⟨f2, f3⟩ := K0.out.below BW1.out
                obtain ⟨r2, r3⟩ := K1.out.below BW1.out
                obtain ⟨a2, a3⟩ := K2.out.below BW1.out
                obtain ⟨b2, b3⟩ := K3.out.below BW1.out
                have BW2 := BW1
                have BX2 := BX1
                have BY2 := BY1
                obtain ⟨hdm, hkm, hlm⟩ := HM.out
                rw [HXr.out, HYr.out, HY.out] at hdm
                have HDm := hid hdm
                have HKm := hid hkm
                have HLm := hid hlm
                clear hdm hkm hlm
                have hun : un = tn := by have h1 := U.out.len; have h2 := HLm.out; have h3 := G.out.len; omega
                subst hun
                go_wp2_with fail
                refine (find_at (k := f) (plc (moA t f r) f) false hl (U.out.below BW2.out) rfl HKm.out).mono ?_
                rintro e w10 ⟨rfl, bb⟩
                have BW3 := hid (q_trans BW2.out bb)
                have BX3 := hid (BX2.out.below bb)
                have BY3 := hid (BY2.out.below bb)
                clear bb
                have C1 : Hid (∀ W : World, Below w10.heap.size w10 W → Calls Try.prog 24 #[.slice uo un uc, (.agg #[.int .i64 r.1, .int .i64 r.2]), (.agg #[.int .i64 b.1, .int .i64 b.2])] W fun e w' => e = .returned (.bool y) ∧ Below W.heap.size W w') := fun W hW => ds_at y hl ((U.out.below BW3.out).below hW) HDm.out
                have C2 : Hid (∀ W : World, Below w10.heap.size w10 W → Calls Try.prog 24 #[.slice to un tc, (.agg #[.int .i64 a.1, .int .i64 a.2]), (.agg #[.int .i64 b.1, .int .i64 b.2])] W fun e w' => e = .returned (.bool y) ∧ Below W.heap.size W w') := fun W hW => ds_at y hl ((G.out.below BW3.out).below hW) HY.out
                have hnn : Nonempty (Later w10) := ⟨⟨_, Below.refl _ _⟩⟩
                obtain ⟨g0, g1⟩ := (show AtP w10 ⟨bx, 0, none⟩ r from ⟨BX3.out.c0, BX3.out.c1⟩).always
                obtain ⟨g2, g3⟩ := (show AtP w10 ⟨by_, 0, none⟩ b from ⟨BY3.out.c0, BY3.out.c1⟩).always
                obtain ⟨g4, g5⟩ := (K2.out.below BW3.out).always
                obtain ⟨g6, g7⟩ := (K3.out.below BW3.out).always
                go_wp2_with fail
                have hyy : (y == y) = true := by simp
                refine wp_region_later (by kernel_rfl) (by kernel_rfl) ?_
                repeat (go_big_quiet_step (first | (go_at_call 9; exact later_call (live_any _)) | (go_at_call 24; with_reducible exact later_call (C1.out _ (Later.low _))) | (go_at_call 24; with_reducible exact later_call (C2.out _ (Later.low _)))))
                refine wpQuiet_nil ?_
                rintro w11 ⟨⟨_, b11⟩, rfl⟩
                have BZ := hid (q_trans (q_trans B.out BW3.out) b11)
                clear b11 hnn g0 g1 g2 g3 g4 g5 g6 g7 C1 C2
                go_wp2_with fail
                go_ret
                exact ⟨rfl, BZ.out⟩
            · skip
              have e1 := eqk_no ea
              have HXr : Hid (rn f r a = a) := if_neg ea
              clear ea
              by_cases eb : b = f
              · skip
                have e2 := eqk_yes eb
                have HYr : Hid (rn f r b = r) := if_pos eb
                clear eb
                have BW1 := BW
                have BX1 := BX
                have BY1 := BY
                obtain ⟨y0, y1, y2, y3⟩ := BY1.out
                have BW2 := hid (q_set (q_set BW1.out (p := ⟨by_, 0, none⟩) HY9.out (.int .i64 r.1)) (p := ⟨by_, 1, none⟩) HY9.out (.int .i64 r.2))
                have BY2 := hid (bp_put BY1.out r)
                have BX2 := hid ((BX1.out.other (c := by_) (j := 0) (.int .i64 r.1) HNe.out).other (c := by_) (j := 1) (.int .i64 r.2) HNe.out)
                obtain ⟨f4, f5⟩ := K0.out.below BW2.out
                obtain ⟨r4, r5⟩ := K1.out.below BW2.out
                obtain ⟨a4, a5⟩ := K2.out.below BW2.out
                obtain ⟨b4, b5⟩ := K3.out.below BW2.out
                obtain ⟨hdm, hkm, hlm⟩ := HM.out
                rw [HXr.out, HYr.out, HY.out] at hdm
                have HDm := hid hdm
                have HKm := hid hkm
                have HLm := hid hlm
                clear hdm hkm hlm
                have hun : un = tn := by have h1 := U.out.len; have h2 := HLm.out; have h3 := G.out.len; omega
                subst hun
                go_wp2_with fail
                refine (find_at (k := f) (plc (moA t f r) f) false hl (U.out.below BW2.out) rfl HKm.out).mono ?_
                rintro e w10 ⟨rfl, bb⟩
                have BW3 := hid (q_trans BW2.out bb)
                have BX3 := hid (BX2.out.below bb)
                have BY3 := hid (BY2.out.below bb)
                clear bb
                have C1 : Hid (∀ W : World, Below w10.heap.size w10 W → Calls Try.prog 24 #[.slice uo un uc, (.agg #[.int .i64 a.1, .int .i64 a.2]), (.agg #[.int .i64 r.1, .int .i64 r.2])] W fun e w' => e = .returned (.bool y) ∧ Below W.heap.size W w') := fun W hW => ds_at y hl ((U.out.below BW3.out).below hW) HDm.out
                have C2 : Hid (∀ W : World, Below w10.heap.size w10 W → Calls Try.prog 24 #[.slice to un tc, (.agg #[.int .i64 a.1, .int .i64 a.2]), (.agg #[.int .i64 b.1, .int .i64 b.2])] W fun e w' => e = .returned (.bool y) ∧ Below W.heap.size W w') := fun W hW => ds_at y hl ((G.out.below BW3.out).below hW) HY.out
                have hnn : Nonempty (Later w10) := ⟨⟨_, Below.refl _ _⟩⟩
                obtain ⟨g0, g1⟩ := (show AtP w10 ⟨bx, 0, none⟩ a from ⟨BX3.out.c0, BX3.out.c1⟩).always
                obtain ⟨g2, g3⟩ := (show AtP w10 ⟨by_, 0, none⟩ r from ⟨BY3.out.c0, BY3.out.c1⟩).always
                obtain ⟨g4, g5⟩ := (K2.out.below BW3.out).always
                obtain ⟨g6, g7⟩ := (K3.out.below BW3.out).always
                go_wp2_with fail
                have hyy : (y == y) = true := by simp
                refine wp_region_later (by kernel_rfl) (by kernel_rfl) ?_
                repeat (go_big_quiet_step (first | (go_at_call 9; exact later_call (live_any _)) | (go_at_call 24; with_reducible exact later_call (C1.out _ (Later.low _))) | (go_at_call 24; with_reducible exact later_call (C2.out _ (Later.low _)))))
                refine wpQuiet_nil ?_
                rintro w11 ⟨⟨_, b11⟩, rfl⟩
                have BZ := hid (q_trans (q_trans B.out BW3.out) b11)
                clear b11 hnn g0 g1 g2 g3 g4 g5 g6 g7 C1 C2
                go_wp2_with fail
                go_ret
                exact ⟨rfl, BZ.out⟩
              · skip
                have e2 := eqk_no eb
                have HYr : Hid (rn f r b = b) := if_neg eb
                clear eb
                have BW1 := BW
                have BX1 := BX
                have BY1 := BY
                have BW2 := BW1
                have BX2 := BX1
                have BY2 := BY1
                obtain ⟨hdm, hkm, hlm⟩ := HM.out
                rw [HXr.out, HYr.out, HY.out] at hdm
                have HDm := hid hdm
                have HKm := hid hkm
                have HLm := hid hlm
                clear hdm hkm hlm
                have hun : un = tn := by have h1 := U.out.len; have h2 := HLm.out; have h3 := G.out.len; omega
                subst hun
                go_wp2_with fail
                refine (find_at (k := f) (plc (moA t f r) f) false hl (U.out.below BW2.out) rfl HKm.out).mono ?_
                rintro e w10 ⟨rfl, bb⟩
                have BW3 := hid (q_trans BW2.out bb)
                have BX3 := hid (BX2.out.below bb)
                have BY3 := hid (BY2.out.below bb)
                clear bb
                have C1 : Hid (∀ W : World, Below w10.heap.size w10 W → Calls Try.prog 24 #[.slice uo un uc, (.agg #[.int .i64 a.1, .int .i64 a.2]), (.agg #[.int .i64 b.1, .int .i64 b.2])] W fun e w' => e = .returned (.bool y) ∧ Below W.heap.size W w') := fun W hW => ds_at y hl ((U.out.below BW3.out).below hW) HDm.out
                have C2 : Hid (∀ W : World, Below w10.heap.size w10 W → Calls Try.prog 24 #[.slice to un tc, (.agg #[.int .i64 a.1, .int .i64 a.2]), (.agg #[.int .i64 b.1, .int .i64 b.2])] W fun e w' => e = .returned (.bool y) ∧ Below W.heap.size W w') := fun W hW => ds_at y hl ((G.out.below BW3.out).below hW) HY.out
                have hnn : Nonempty (Later w10) := ⟨⟨_, Below.refl _ _⟩⟩
                obtain ⟨g0, g1⟩ := (show AtP w10 ⟨bx, 0, none⟩ a from ⟨BX3.out.c0, BX3.out.c1⟩).always
                obtain ⟨g2, g3⟩ := (show AtP w10 ⟨by_, 0, none⟩ b from ⟨BY3.out.c0, BY3.out.c1⟩).always
                obtain ⟨g4, g5⟩ := (K2.out.below BW3.out).always
                obtain ⟨g6, g7⟩ := (K3.out.below BW3.out).always
                go_wp2_with fail
                have hyy : (y == y) = true := by simp
                refine wp_region_later (by kernel_rfl) (by kernel_rfl) ?_
                repeat (go_big_quiet_step (first | (go_at_call 9; exact later_call (live_any _)) | (go_at_call 24; with_reducible exact later_call (C1.out _ (Later.low _))) | (go_at_call 24; with_reducible exact later_call (C2.out _ (Later.low _)))))
                refine wpQuiet_nil ?_
                rintro w11 ⟨⟨_, b11⟩, rfl⟩
                have BZ := hid (q_trans (q_trans B.out BW3.out) b11)
                clear b11 hnn g0 g1 g2 g3 g4 g5 g6 g7 C1 C2
                go_wp2_with fail
                go_ret
                exact ⟨rfl, BZ.out⟩
          · skip
            obtain ⟨tx, ty, tb⟩ := two_boxes w9 b a 24
            have BW := hid tb
            have BX := hid ty
            have BY := hid tx
            clear tx ty tb hS
            have HX9 : Hid (w9.heap.size ≤ w9.heap.size + 1) := by unfold Hid; omega
            have HY9 : Hid (w9.heap.size ≤ w9.heap.size) := by unfold Hid; omega
            have HNe : Hid (w9.heap.size + 1 ≠ w9.heap.size) := by unfold Hid; omega
            generalize ((w9.alloc (.cells #[.int .i64 b.1, .int .i64 b.2] 24)).alloc (.cells #[.int .i64 a.1, .int .i64 a.2] 24)).drew = V at BW BX BY ⊢
            generalize hb1 : w9.heap.size + 1 = bx at BX HX9 HNe ⊢
            obtain ⟨by_, hb2⟩ : ∃ by_, w9.heap.size = by_ := ⟨_, rfl⟩
            rw [hb2] at BY HNe
            have HY9b : Hid (w9.heap.size ≤ by_) := Nat.le_of_eq hb2
            rw [hb2]
            clear HY9
            have HY9 := HY9b
            clear HY9b hb1
            clear hb2
            obtain ⟨f0, f1⟩ := K0.out.below BW.out
            obtain ⟨r0, r1⟩ := K1.out.below BW.out
            obtain ⟨a0, a1⟩ := K2.out.below BW.out
            obtain ⟨b0, b1⟩ := K3.out.below BW.out
            by_cases ea : a = f
            · skip
              have e1 := eqk_yes ea
              have HXr : Hid (rn f r a = r) := if_pos ea
              clear ea
              obtain ⟨q0, q1, q2, q3⟩ := BX.out
              by_cases eb : b = f
              · skip
                have e2 := eqk_yes eb
                have HYr : Hid (rn f r b = r) := if_pos eb
                clear eb
                have BW1 := hid (q_set (q_set BW.out (p := ⟨bx, 0, none⟩) HX9.out (.int .i64 r.1)) (p := ⟨bx, 1, none⟩) HX9.out (.int .i64 r.2))
                have BX1 := hid (bp_put BX.out r)
                have BY1 := hid ((BY.out.other (c := bx) (j := 0) (.int .i64 r.1) (Ne.symm HNe.out)).other (c := bx) (j := 1) (.int .i64 r.2) (Ne.symm HNe.out))
                obtain ⟨f2, f3⟩ := K0.out.below BW1.out
                obtain ⟨r2, r3⟩ := K1.out.below BW1.out
                obtain ⟨a2, a3⟩ := K2.out.below BW1.out
                obtain ⟨b2, b3⟩ := K3.out.below BW1.out
                obtain ⟨y0, y1, y2, y3⟩ := BY1.out
                have BW2 := hid (q_set (q_set BW1.out (p := ⟨by_, 0, none⟩) HY9.out (.int .i64 r.1)) (p := ⟨by_, 1, none⟩) HY9.out (.int .i64 r.2))
                have BY2 := hid (bp_put BY1.out r)
                have BX2 := hid ((BX1.out.other (c := by_) (j := 0) (.int .i64 r.1) HNe.out).other (c := by_) (j := 1) (.int .i64 r.2) HNe.out)
                obtain ⟨f4, f5⟩ := K0.out.below BW2.out
                obtain ⟨r4, r5⟩ := K1.out.below BW2.out
                obtain ⟨a4, a5⟩ := K2.out.below BW2.out
                obtain ⟨b4, b5⟩ := K3.out.below BW2.out
                obtain ⟨hdm, hkm, hlm⟩ := HM.out
                rw [HXr.out, HYr.out, HY.out] at hdm
                have HDm := hid hdm
                have HKm := hid hkm
                have HLm := hid hlm
                clear hdm hkm hlm
                have hun : un = tn := by have h1 := U.out.len; have h2 := HLm.out; have h3 := G.out.len; omega
                subst hun
                go_wp2_with fail
                refine (find_at (k := f) (plc (moA t f r) f) false hl (U.out.below BW2.out) rfl HKm.out).mono ?_
                rintro e w10 ⟨rfl, bb⟩
                have BW3 := hid (q_trans BW2.out bb)
                have BX3 := hid (BX2.out.below bb)
                have BY3 := hid (BY2.out.below bb)
                clear bb
                have C1 : Hid (∀ W : World, Below w10.heap.size w10 W → Calls Try.prog 24 #[.slice uo un uc, (.agg #[.int .i64 r.1, .int .i64 r.2]), (.agg #[.int .i64 r.1, .int .i64 r.2])] W fun e w' => e = .returned (.bool y) ∧ Below W.heap.size W w') := fun W hW => ds_at y hl ((U.out.below BW3.out).below hW) HDm.out
                have C2 : Hid (∀ W : World, Below w10.heap.size w10 W → Calls Try.prog 24 #[.slice to un tc, (.agg #[.int .i64 a.1, .int .i64 a.2]), (.agg #[.int .i64 b.1, .int .i64 b.2])] W fun e w' => e = .returned (.bool y) ∧ Below W.heap.size W w') := fun W hW => ds_at y hl ((G.out.below BW3.out).below hW) HY.out
                have hnn : Nonempty (Later w10) := ⟨⟨_, Below.refl _ _⟩⟩
                obtain ⟨g0, g1⟩ := (show AtP w10 ⟨bx, 0, none⟩ r from ⟨BX3.out.c0, BX3.out.c1⟩).always
                obtain ⟨g2, g3⟩ := (show AtP w10 ⟨by_, 0, none⟩ r from ⟨BY3.out.c0, BY3.out.c1⟩).always
                obtain ⟨g4, g5⟩ := (K2.out.below BW3.out).always
                obtain ⟨g6, g7⟩ := (K3.out.below BW3.out).always
                go_wp2_with fail
                have hyy : (y == y) = true := by simp
                refine wp_region_later (by kernel_rfl) (by kernel_rfl) ?_
                repeat (go_big_quiet_step (first | (go_at_call 9; exact later_call (live_any _)) | (go_at_call 24; with_reducible exact later_call (C1.out _ (Later.low _))) | (go_at_call 24; with_reducible exact later_call (C2.out _ (Later.low _)))))
                refine wpQuiet_nil ?_
                rintro w11 ⟨⟨_, b11⟩, rfl⟩
                have BZ := hid (q_trans (q_trans B.out BW3.out) b11)
                clear b11 hnn g0 g1 g2 g3 g4 g5 g6 g7 C1 C2
                go_wp2_with fail
                go_ret
                exact ⟨rfl, BZ.out⟩
              · skip
                have e2 := eqk_no eb
                have HYr : Hid (rn f r b = b) := if_neg eb
                clear eb
                have BW1 := hid (q_set (q_set BW.out (p := ⟨bx, 0, none⟩) HX9.out (.int .i64 r.1)) (p := ⟨bx, 1, none⟩) HX9.out (.int .i64 r.2))
                have BX1 := hid (bp_put BX.out r)
                have BY1 := hid ((BY.out.other (c := bx) (j := 0) (.int .i64 r.1) (Ne.symm HNe.out)).other (c := bx) (j := 1) (.int .i64 r.2) (Ne.symm HNe.out))
                obtain ⟨f2, f3⟩ := K0.out.below BW1.out
                obtain ⟨r2, r3⟩ := K1.out.below BW1.out
                obtain ⟨a2, a3⟩ := K2.out.below BW1.out
                obtain ⟨b2, b3⟩ := K3.out.below BW1.out
                have BW2 := BW1
                have BX2 := BX1
                have BY2 := BY1
                obtain ⟨hdm, hkm, hlm⟩ := HM.out
                rw [HXr.out, HYr.out, HY.out] at hdm
                have HDm := hid hdm
                have HKm := hid hkm
                have HLm := hid hlm
                clear hdm hkm hlm
                have hun : un = tn := by have h1 := U.out.len; have h2 := HLm.out; have h3 := G.out.len; omega
                subst hun
                go_wp2_with fail
                refine (find_at (k := f) (plc (moA t f r) f) false hl (U.out.below BW2.out) rfl HKm.out).mono ?_
                rintro e w10 ⟨rfl, bb⟩
                have BW3 := hid (q_trans BW2.out bb)
                have BX3 := hid (BX2.out.below bb)
                have BY3 := hid (BY2.out.below bb)
                clear bb
                have C1 : Hid (∀ W : World, Below w10.heap.size w10 W → Calls Try.prog 24 #[.slice uo un uc, (.agg #[.int .i64 r.1, .int .i64 r.2]), (.agg #[.int .i64 b.1, .int .i64 b.2])] W fun e w' => e = .returned (.bool y) ∧ Below W.heap.size W w') := fun W hW => ds_at y hl ((U.out.below BW3.out).below hW) HDm.out
                have C2 : Hid (∀ W : World, Below w10.heap.size w10 W → Calls Try.prog 24 #[.slice to un tc, (.agg #[.int .i64 a.1, .int .i64 a.2]), (.agg #[.int .i64 b.1, .int .i64 b.2])] W fun e w' => e = .returned (.bool y) ∧ Below W.heap.size W w') := fun W hW => ds_at y hl ((G.out.below BW3.out).below hW) HY.out
                have hnn : Nonempty (Later w10) := ⟨⟨_, Below.refl _ _⟩⟩
                obtain ⟨g0, g1⟩ := (show AtP w10 ⟨bx, 0, none⟩ r from ⟨BX3.out.c0, BX3.out.c1⟩).always
                obtain ⟨g2, g3⟩ := (show AtP w10 ⟨by_, 0, none⟩ b from ⟨BY3.out.c0, BY3.out.c1⟩).always
                obtain ⟨g4, g5⟩ := (K2.out.below BW3.out).always
                obtain ⟨g6, g7⟩ := (K3.out.below BW3.out).always
                go_wp2_with fail
                have hyy : (y == y) = true := by simp
                refine wp_region_later (by kernel_rfl) (by kernel_rfl) ?_
                repeat (go_big_quiet_step (first | (go_at_call 9; exact later_call (live_any _)) | (go_at_call 24; with_reducible exact later_call (C1.out _ (Later.low _))) | (go_at_call 24; with_reducible exact later_call (C2.out _ (Later.low _)))))
                refine wpQuiet_nil ?_
                rintro w11 ⟨⟨_, b11⟩, rfl⟩
                have BZ := hid (q_trans (q_trans B.out BW3.out) b11)
                clear b11 hnn g0 g1 g2 g3 g4 g5 g6 g7 C1 C2
                go_wp2_with fail
                go_ret
                exact ⟨rfl, BZ.out⟩
            · skip
              have e1 := eqk_no ea
              have HXr : Hid (rn f r a = a) := if_neg ea
              clear ea
              by_cases eb : b = f
              · skip
                have e2 := eqk_yes eb
                have HYr : Hid (rn f r b = r) := if_pos eb
                clear eb
                have BW1 := BW
                have BX1 := BX
                have BY1 := BY
                obtain ⟨y0, y1, y2, y3⟩ := BY1.out
                have BW2 := hid (q_set (q_set BW1.out (p := ⟨by_, 0, none⟩) HY9.out (.int .i64 r.1)) (p := ⟨by_, 1, none⟩) HY9.out (.int .i64 r.2))
                have BY2 := hid (bp_put BY1.out r)
                have BX2 := hid ((BX1.out.other (c := by_) (j := 0) (.int .i64 r.1) HNe.out).other (c := by_) (j := 1) (.int .i64 r.2) HNe.out)
                obtain ⟨f4, f5⟩ := K0.out.below BW2.out
                obtain ⟨r4, r5⟩ := K1.out.below BW2.out
                obtain ⟨a4, a5⟩ := K2.out.below BW2.out
                obtain ⟨b4, b5⟩ := K3.out.below BW2.out
                obtain ⟨hdm, hkm, hlm⟩ := HM.out
                rw [HXr.out, HYr.out, HY.out] at hdm
                have HDm := hid hdm
                have HKm := hid hkm
                have HLm := hid hlm
                clear hdm hkm hlm
                have hun : un = tn := by have h1 := U.out.len; have h2 := HLm.out; have h3 := G.out.len; omega
                subst hun
                go_wp2_with fail
                refine (find_at (k := f) (plc (moA t f r) f) false hl (U.out.below BW2.out) rfl HKm.out).mono ?_
                rintro e w10 ⟨rfl, bb⟩
                have BW3 := hid (q_trans BW2.out bb)
                have BX3 := hid (BX2.out.below bb)
                have BY3 := hid (BY2.out.below bb)
                clear bb
                have C1 : Hid (∀ W : World, Below w10.heap.size w10 W → Calls Try.prog 24 #[.slice uo un uc, (.agg #[.int .i64 a.1, .int .i64 a.2]), (.agg #[.int .i64 r.1, .int .i64 r.2])] W fun e w' => e = .returned (.bool y) ∧ Below W.heap.size W w') := fun W hW => ds_at y hl ((U.out.below BW3.out).below hW) HDm.out
                have C2 : Hid (∀ W : World, Below w10.heap.size w10 W → Calls Try.prog 24 #[.slice to un tc, (.agg #[.int .i64 a.1, .int .i64 a.2]), (.agg #[.int .i64 b.1, .int .i64 b.2])] W fun e w' => e = .returned (.bool y) ∧ Below W.heap.size W w') := fun W hW => ds_at y hl ((G.out.below BW3.out).below hW) HY.out
                have hnn : Nonempty (Later w10) := ⟨⟨_, Below.refl _ _⟩⟩
                obtain ⟨g0, g1⟩ := (show AtP w10 ⟨bx, 0, none⟩ a from ⟨BX3.out.c0, BX3.out.c1⟩).always
                obtain ⟨g2, g3⟩ := (show AtP w10 ⟨by_, 0, none⟩ r from ⟨BY3.out.c0, BY3.out.c1⟩).always
                obtain ⟨g4, g5⟩ := (K2.out.below BW3.out).always
                obtain ⟨g6, g7⟩ := (K3.out.below BW3.out).always
                go_wp2_with fail
                have hyy : (y == y) = true := by simp
                refine wp_region_later (by kernel_rfl) (by kernel_rfl) ?_
                repeat (go_big_quiet_step (first | (go_at_call 9; exact later_call (live_any _)) | (go_at_call 24; with_reducible exact later_call (C1.out _ (Later.low _))) | (go_at_call 24; with_reducible exact later_call (C2.out _ (Later.low _)))))
                refine wpQuiet_nil ?_
                rintro w11 ⟨⟨_, b11⟩, rfl⟩
                have BZ := hid (q_trans (q_trans B.out BW3.out) b11)
                clear b11 hnn g0 g1 g2 g3 g4 g5 g6 g7 C1 C2
                go_wp2_with fail
                go_ret
                exact ⟨rfl, BZ.out⟩
              · skip
                have e2 := eqk_no eb
                have HYr : Hid (rn f r b = b) := if_neg eb
                clear eb
                have BW1 := BW
                have BX1 := BX
                have BY1 := BY
                have BW2 := BW1
                have BX2 := BX1
                have BY2 := BY1
                obtain ⟨hdm, hkm, hlm⟩ := HM.out
                rw [HXr.out, HYr.out, HY.out] at hdm
                have HDm := hid hdm
                have HKm := hid hkm
                have HLm := hid hlm
                clear hdm hkm hlm
                have hun : un = tn := by have h1 := U.out.len; have h2 := HLm.out; have h3 := G.out.len; omega
                subst hun
                go_wp2_with fail
                refine (find_at (k := f) (plc (moA t f r) f) false hl (U.out.below BW2.out) rfl HKm.out).mono ?_
                rintro e w10 ⟨rfl, bb⟩
                have BW3 := hid (q_trans BW2.out bb)
                have BX3 := hid (BX2.out.below bb)
                have BY3 := hid (BY2.out.below bb)
                clear bb
                have C1 : Hid (∀ W : World, Below w10.heap.size w10 W → Calls Try.prog 24 #[.slice uo un uc, (.agg #[.int .i64 a.1, .int .i64 a.2]), (.agg #[.int .i64 b.1, .int .i64 b.2])] W fun e w' => e = .returned (.bool y) ∧ Below W.heap.size W w') := fun W hW => ds_at y hl ((U.out.below BW3.out).below hW) HDm.out
                have C2 : Hid (∀ W : World, Below w10.heap.size w10 W → Calls Try.prog 24 #[.slice to un tc, (.agg #[.int .i64 a.1, .int .i64 a.2]), (.agg #[.int .i64 b.1, .int .i64 b.2])] W fun e w' => e = .returned (.bool y) ∧ Below W.heap.size W w') := fun W hW => ds_at y hl ((G.out.below BW3.out).below hW) HY.out
                have hnn : Nonempty (Later w10) := ⟨⟨_, Below.refl _ _⟩⟩
                obtain ⟨g0, g1⟩ := (show AtP w10 ⟨bx, 0, none⟩ a from ⟨BX3.out.c0, BX3.out.c1⟩).always
                obtain ⟨g2, g3⟩ := (show AtP w10 ⟨by_, 0, none⟩ b from ⟨BY3.out.c0, BY3.out.c1⟩).always
                obtain ⟨g4, g5⟩ := (K2.out.below BW3.out).always
                obtain ⟨g6, g7⟩ := (K3.out.below BW3.out).always
                go_wp2_with fail
                have hyy : (y == y) = true := by simp
                refine wp_region_later (by kernel_rfl) (by kernel_rfl) ?_
                repeat (go_big_quiet_step (first | (go_at_call 9; exact later_call (live_any _)) | (go_at_call 24; with_reducible exact later_call (C1.out _ (Later.low _))) | (go_at_call 24; with_reducible exact later_call (C2.out _ (Later.low _)))))
                refine wpQuiet_nil ?_
                rintro w11 ⟨⟨_, b11⟩, rfl⟩
                have BZ := hid (q_trans (q_trans B.out BW3.out) b11)
                clear b11 hnn g0 g1 g2 g3 g4 g5 g6 g7 C1 C2
                go_wp2_with fail
                go_ret
                exact ⟨rfl, BZ.out⟩
    · skip
      obtain ⟨x2, hx2⟩ : ∃ x, moE t f r = x := ⟨_, rfl⟩
      rw [hx2] at h2 ⊢
      have hx3 : (x2 != 0) = true := by simp [h2]
      clear h2 hx2
      go_wp2_with (go_at_call 13; refine (num_any _ _).mono ?_; rintro e wq ⟨rfl, hq⟩; rw [hq]; clear hq wq)
      refine (live_any _).mono ?_
      rintro e wz ⟨rfl, bb⟩
      have BZ := hid (q_trans B.out bb)
      clear bb
      go_wp2_with fail
      go_ret
      exact ⟨rfl, BZ.out⟩
/-- TREEMOVES. -/
theorem moves_any (ao : Option Addr) (n cap : Nat) (l : List Ac) (f r a b : P) (w : World) (HH : HasC w ao n cap l) :
    Calls Try.prog 8 #[.slice ao n cap, (.agg #[.int .i64 f.1, .int .i64 f.2]), (.agg #[.int .i64 r.1, .int .i64 r.2]), (.agg #[.int .i64 a.1, .int .i64 a.2]), (.agg #[.int .i64 b.1, .int .i64 b.2])] w fun e w' => e = .returned (.bool true) ∧ Below w.heap.size w w' := by
  rcases Nat.lt_or_ge 60 n with q | q
  · exact moves_long ao n cap f r a b w q
  · exact moves_in ao n cap l f r a b w q HH
end Go.Proofs.Ytdaakigofpehjaa.Tr
