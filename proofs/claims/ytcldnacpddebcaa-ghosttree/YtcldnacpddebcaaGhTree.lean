/- GhostTree: if what befell is what a tree did, one descends from another one in the tree just if it does so here. -/
import Derived.Test.YtcldnacpddebcaaGhLive
import Derived.Test.YtcldnacpddebcaaGhRel
import Derived.Test.YtcldnacpddebcaaTrXB
import Derived.Test.YtcldnacpddebcaaTrXC
import Derived.Test.YtcldnacpddebcaaTrXD
import Derived.Test.YtcldnacpddebcaaTrXE
namespace Go.Proofs.Ytcldnacpddebcaa.Gh
open Go.RowKit
open Go.Proofs.Ytcldnacpddebcaa.Tr

theorem kk_new (w : World) (a b : P) : AtP ((w.alloc (.cells #[.int .i64 a.1, .int .i64 a.2] 27)).alloc (.cells #[.int .i64 b.1, .int .i64 b.2] 27)) ⟨w.heap.size, 0, none⟩ a ∧ AtP ((w.alloc (.cells #[.int .i64 a.1, .int .i64 a.2] 27)).alloc (.cells #[.int .i64 b.1, .int .i64 b.2] 27)) ⟨w.heap.size + 1, 0, none⟩ b ∧ Below w.heap.size w ((w.alloc (.cells #[.int .i64 a.1, .int .i64 a.2] 27)).alloc (.cells #[.int .i64 b.1, .int .i64 b.2] 27)) := by
  refine ⟨(at_new w a 27).below (alloc_below _ _), ?_, q_alloc (alloc_below _ _) _⟩
  have h := at_new (w.alloc (.cells #[.int .i64 a.1, .int .i64 a.2] 27)) b 27
  rwa [show (w.alloc (.cells #[.int .i64 a.1, .int .i64 a.2] 27)).heap.size = w.heap.size + 1 by simp] at h
set_option maxHeartbeats 800000 in
theorem tree_long (ao : Option Addr) (n cap : Nat) (a b : P) (w : World) (h : 80 < n) :
    Calls Try.prog 6 #[.slice ao n cap, (.agg #[.int .i64 a.1, .int .i64 a.2]), (.agg #[.int .i64 b.1, .int .i64 b.2])] w fun e w' => e = .returned (.bool true) ∧ Below w.heap.size w w' := by
  have i1 : (n : Int) > 80 := by omega
  clear h
  go_enter Try.func6, Try.ntmps6
  go_wp2_with (go_at_call 10; refine (live_any _).mono ?_; rintro e w2 ⟨rfl, bb⟩)
  go_ret
  exact ⟨rfl, q_trans (q_alloc (alloc_below _ _) _) bb⟩
/-- What a tree that a change answered is behind an append onto births: it lies in new blocks. -/
theorem tree_app {W1 w2 w3 w4 : World} {H0 H1 : Nat} {o : Obj} {xo do' : Option Addr} {xn xc dn dc : Nat} {u : List Br} {d : List Bi} (h : NewB H1 w2 xo xn xc u) (b3 : Below w2.heap.size w2 w3) (hd : MineZ W1 H0 do' dn dc d) (hH : W1.heap.size ≤ H1)
    (grow : (w3.alloc o).grownBy w4 (Value.ownBlock (.slice do' dn dc))) : HasB w4 xo xn xc u := by
  have h3 := (h.has.below b3).below (alloc_below w3 o)
  refine ⟨h3.len, h3.nil, h3.cap, h3.row.kept (kept_grown grow) fun h0 a e s => h.off h0 a e ?_⟩
  have := (World.ownsRow.lt hd.2 a.block s.symm).2
  omega
set_option maxRecDepth 100000 in
set_option maxHeartbeats 8000000 in
theorem tree_in (ao : Option Addr) (n cap : Nat) (l : List Bi) (a b : P) (w : World) (hn : n ≤ 80) (HH : Hid (HasZ w ao n cap l)) :
    Calls Try.prog 6 #[.slice ao n cap, (.agg #[.int .i64 a.1, .int .i64 a.2]), (.agg #[.int .i64 b.1, .int .i64 b.2])] w fun e w' => e = .returned (.bool true) ∧ Below w.heap.size w w' := by
  have HN := hid HH.out.len
  have j1 : ¬ (n : Int) > 80 := by omega
  go_enter Try.func6, Try.ntmps6
  go_wp2_with fail
  obtain ⟨g1, g2, g4⟩ := kk_new w a b
  have K1 := hid g1
  have K2 := hid g2
  have B := hid g4
  clear g1 g2 g4
  generalize (w.alloc (.cells #[.int .i64 a.1, .int .i64 a.2] 27)).alloc (.cells #[.int .i64 b.1, .int .i64 b.2] 27) = W0 at K1 K2 B ⊢
  go_loopw [7, 8, 9] (fun s7 s8 s9 wr => ∃ (q : Nat) (to' : Option Addr) (tn tc : Nat) (do' : Option Addr) (dn dc : Nat) (t : List Br) (d : List Bi), q ≤ n ∧ s9 = .int .i64 q ∧ s7 = .slice to' tn tc ∧ s8 = .slice do' dn dc ∧ dn ≤ q ∧ Hid (HasB wr to' tn tc t) ∧ Hid (MineZ wr W0.heap.size do' dn dc d) ∧ Hid (Tg t d) ∧ Hid (Below W0.heap.size W0 wr)) (fun _ _ i _ => n - (intOf i).toNat)
  case atStart => exact ⟨0, none, 0, 0, none, 0, 0, [], [], Nat.zero_le _, rfl, rfl, rfl, Nat.le_refl _, hasB_nil _, mineZ_nil _ _, tg_nil, Below.refl _ _⟩
  case round =>
    obtain ⟨q, to', tn, tc, do', dn, dc, t, d, hq, rfl, rfl, rfl, hdq, HT, HM, HG, HB⟩ := hrel
    have htn : tn ≤ 1000 := by have h1 := HT.out.len; have h2 := HG.out.rel.tr.len; omega
    by_cases hlt : q < n
    · have i1 : (0 : Int) ≤ (q : Int) := by omega
      have i2 : (q : Int) < (n : Int) := by omega
      obtain ⟨ad, rfl, ca⟩ := (HH.out.below (q_trans B.out HB.out)).at q hlt
      obtain ⟨x, hx⟩ : ∃ x, l.getD q z0B = x := ⟨_, rfl⟩
      rw [hx] at ca
      clear hx
      obtain ⟨c0, c1, c2, c3, c4⟩ := ca
      have HZ := hid (atZ_new wr x 29)
      have BX := hid (alloc_below wr (.cells #[.int .i64 x.kind, .int .i64 x.key.1, .int .i64 x.key.2, .int .i64 x.fm.1, .int .i64 x.fm.2] 29))
      obtain ⟨kd, hkd⟩ : ∃ kd, x.kind = kd := ⟨_, rfl⟩
      by_cases k1 : kd = 1
      · have HK : Hid (x.kind = 1) := by rw [← k1]; exact hkd
        subst k1
        rw [hkd] at c0 HZ BX
        clear hkd
        have HE : Hid (trE t x = roE t x.key ∧ trA t x = roA t x.key) := by
          unfold trE trA
          rw [if_pos HK.out, if_pos HK.out]
          exact ⟨rfl, rfl⟩
        obtain ⟨z0, z1, z2, z3, z4⟩ := HZ.out
        rw [HK.out] at z0
        go_wp2_with fail
        refine (root_new to' tn tc t x.key _ (by omega) (HT.out.below BX.out)).mono ?_
        rintro e w2 ⟨xo, xn, xc, rfl, h2, b2⟩
        have H2 := hid h2
        have Z2 := hid (HZ.out.below b2)
        have B2 := hid (q_trans BX.out b2)
        clear h2 b2 z0 z1 z2 z3 z4 c0 c1 c2 c3 c4
        obtain ⟨v, hv⟩ : ∃ v, roE t x.key = v := ⟨_, rfl⟩
        rw [hv]
        go_wp2_with fail
        refine (gnum_low v _).mono ?_
        rintro e w3 ⟨rfl, b3⟩
        have B3 := hid (q_trans B2.out b3)
        have Z3 := hid (Z2.out.below b3)
        have HM3 := hid (HM.out.below B3.out)
        by_cases hv0 : v = 0
        · have HGn : Hid (Tg (roA t x.key) (d ++ [x])) := by
            have h := tg_yes HG.out (by have := HM.out.1; omega) (x := x) (by rw [HE.out.1, hv, hv0])
            rw [HE.out.2] at h
            exact h
          subst hv0
          clear hv
          have hvt : ((0 : Int) == 0) = true := by decide
          obtain ⟨z0, z1, z2, z3, z4⟩ := Z3.out
          have HO := hid (HM3.out.2.alloc (.cells #[.int .i64 x.kind, .int .i64 x.key.1, .int .i64 x.key.2, .int .i64 x.fm.1, .int .i64 x.fm.2] 29))
          have HRw : Hid (Row (w3.alloc (.cells #[.int .i64 x.kind, .int .i64 x.key.1, .int .i64 x.key.2, .int .i64 x.fm.1, .int .i64 x.fm.2] 29)) (some ⟨w3.heap.size, 0, none⟩) (zrs [x])) := (hasZ_new w3 [x] 29).row
          have HBz := hid (q_alloc (HB.out.trans (B3.out.mono HB.out.size)) (.cells #[.int .i64 x.kind, .int .i64 x.key.1, .int .i64 x.key.2, .int .i64 x.fm.1, .int .i64 x.fm.2] 29))
          have HB3 := hid b3
          clear b3
          go_wp2_with (at_builtin; go_loud (refine wpList_append_row _ rfl (.tmp 79) (.tmp 81) 47 29 _ 5 40 rfl Try.underlying47 infoZ rfl (by decide) (by decide) W0.heap.size _ dn (zrs d) rfl HO.out _ 1 1 (zrs [x]) rfl rfl (fun h => by cases h) HRw.out (zrs_one _) (by omega) HBz.out.size ?_; intro ao3 cap3 w4 own3 grow3; apply Hid.out))
          have HA4 := hid (MineZ.append (HM3.out.below (alloc_below _ _)) HBz.out.size (k := [x]) rfl own3 grow3)
          have HU : Hid (HasB w4 xo xn xc (roA t x.key)) := tree_app H2.out HB3.out HM.out (Nat.le_of_lt (by simp)) grow3
          have HBn : Hid (Below W0.heap.size W0 w4) := HBz.out.trans HA4.out.2
          clear own3 grow3 HO HRw HBz z0 z1 z2 z3 z4 Z3 Z2 HB3
          unfold Hid
          go_wp2_with fail
          go_roundw
          case rel => exact ⟨q + 1, xo, xn, xc, ao3, dn + 1, cap3, _, d ++ [x], by omega, by go_num, rfl, rfl, by omega, HU, HA4.out.1, HGn, HBn⟩
          case measure => simp [intOf]; omega
        · have HAn : Hid (roA t x.key = t) := by
            unfold Hid
            rw [← HE.out.2]
            exact tr_no (by rw [HE.out.1, hv]; exact hv0)
          have hv1 : (v == 0) = false := by simp [hv0]
          have HU : Hid (HasB w3 xo xn xc t) := by
            have h := H2.out.has.below b3
            rw [HAn.out] at h
            exact h
          have HBn : Hid (Below W0.heap.size W0 w3) := HB.out.trans (B3.out.mono HB.out.size)
          clear hv hv0 b3 Z3 Z2
          go_wp2_with fail
          go_roundw
          case rel => exact ⟨q + 1, xo, xn, xc, do', dn, dc, t, d, by omega, by go_num, rfl, rfl, by omega, HU, HM3, HG, HBn⟩
          case measure => simp [intOf]; omega
      by_cases k2 : kd = 2
      · have HK : Hid (x.kind = 2) := by rw [← k2]; exact hkd
        subst k2
        rw [hkd] at c0 HZ BX
        clear hkd
        have HE : Hid (trE t x = inE t x.fm x.key ∧ trA t x = inA t x.fm x.key) := by
          unfold trE trA
          rw [if_neg (by rw [HK.out]; decide), if_pos HK.out, if_neg (by rw [HK.out]; decide), if_pos HK.out]
          exact ⟨rfl, rfl⟩
        obtain ⟨z0, z1, z2, z3, z4⟩ := HZ.out
        rw [HK.out] at z0
        go_wp2_with fail
        refine (ins_new to' tn tc t x.fm x.key _ (by omega) (HT.out.below BX.out)).mono ?_
        rintro e w2 ⟨xo, xn, xc, rfl, h2, b2⟩
        have H2 := hid h2
        have Z2 := hid (HZ.out.below b2)
        have B2 := hid (q_trans BX.out b2)
        clear h2 b2 z0 z1 z2 z3 z4 c0 c1 c2 c3 c4
        obtain ⟨v, hv⟩ : ∃ v, inE t x.fm x.key = v := ⟨_, rfl⟩
        rw [hv]
        go_wp2_with fail
        refine (gnum_low v _).mono ?_
        rintro e w3 ⟨rfl, b3⟩
        have B3 := hid (q_trans B2.out b3)
        have Z3 := hid (Z2.out.below b3)
        have HM3 := hid (HM.out.below B3.out)
        by_cases hv0 : v = 0
        · have HGn : Hid (Tg (inA t x.fm x.key) (d ++ [x])) := by
            have h := tg_yes HG.out (by have := HM.out.1; omega) (x := x) (by rw [HE.out.1, hv, hv0])
            rw [HE.out.2] at h
            exact h
          subst hv0
          clear hv
          have hvt : ((0 : Int) == 0) = true := by decide
          obtain ⟨z0, z1, z2, z3, z4⟩ := Z3.out
          have HO := hid (HM3.out.2.alloc (.cells #[.int .i64 x.kind, .int .i64 x.key.1, .int .i64 x.key.2, .int .i64 x.fm.1, .int .i64 x.fm.2] 29))
          have HRw : Hid (Row (w3.alloc (.cells #[.int .i64 x.kind, .int .i64 x.key.1, .int .i64 x.key.2, .int .i64 x.fm.1, .int .i64 x.fm.2] 29)) (some ⟨w3.heap.size, 0, none⟩) (zrs [x])) := (hasZ_new w3 [x] 29).row
          have HBz := hid (q_alloc (HB.out.trans (B3.out.mono HB.out.size)) (.cells #[.int .i64 x.kind, .int .i64 x.key.1, .int .i64 x.key.2, .int .i64 x.fm.1, .int .i64 x.fm.2] 29))
          have HB3 := hid b3
          clear b3
          go_wp2_with (at_builtin; go_loud (refine wpList_append_row _ rfl (.tmp 79) (.tmp 81) 47 29 _ 5 40 rfl Try.underlying47 infoZ rfl (by decide) (by decide) W0.heap.size _ dn (zrs d) rfl HO.out _ 1 1 (zrs [x]) rfl rfl (fun h => by cases h) HRw.out (zrs_one _) (by omega) HBz.out.size ?_; intro ao3 cap3 w4 own3 grow3; apply Hid.out))
          have HA4 := hid (MineZ.append (HM3.out.below (alloc_below _ _)) HBz.out.size (k := [x]) rfl own3 grow3)
          have HU : Hid (HasB w4 xo xn xc (inA t x.fm x.key)) := tree_app H2.out HB3.out HM.out (Nat.le_of_lt (by simp)) grow3
          have HBn : Hid (Below W0.heap.size W0 w4) := HBz.out.trans HA4.out.2
          clear own3 grow3 HO HRw HBz z0 z1 z2 z3 z4 Z3 Z2 HB3
          unfold Hid
          go_wp2_with fail
          go_roundw
          case rel => exact ⟨q + 1, xo, xn, xc, ao3, dn + 1, cap3, _, d ++ [x], by omega, by go_num, rfl, rfl, by omega, HU, HA4.out.1, HGn, HBn⟩
          case measure => simp [intOf]; omega
        · have HAn : Hid (inA t x.fm x.key = t) := by
            unfold Hid
            rw [← HE.out.2]
            exact tr_no (by rw [HE.out.1, hv]; exact hv0)
          have hv1 : (v == 0) = false := by simp [hv0]
          have HU : Hid (HasB w3 xo xn xc t) := by
            have h := H2.out.has.below b3
            rw [HAn.out] at h
            exact h
          have HBn : Hid (Below W0.heap.size W0 w3) := HB.out.trans (B3.out.mono HB.out.size)
          clear hv hv0 b3 Z3 Z2
          go_wp2_with fail
          go_roundw
          case rel => exact ⟨q + 1, xo, xn, xc, do', dn, dc, t, d, by omega, by go_num, rfl, rfl, by omega, HU, HM3, HG, HBn⟩
          case measure => simp [intOf]; omega
      by_cases k3 : kd = 3
      · have HK : Hid (x.kind = 3) := by rw [← k3]; exact hkd
        subst k3
        rw [hkd] at c0 HZ BX
        clear hkd
        have HE : Hid (trE t x = moE t x.fm x.key ∧ trA t x = moA t x.fm x.key) := by
          unfold trE trA
          rw [if_neg (by rw [HK.out]; decide), if_neg (by rw [HK.out]; decide), if_pos HK.out, if_neg (by rw [HK.out]; decide), if_neg (by rw [HK.out]; decide), if_pos HK.out]
          exact ⟨rfl, rfl⟩
        obtain ⟨z0, z1, z2, z3, z4⟩ := HZ.out
        rw [HK.out] at z0
        go_wp2_with fail
        refine (mov_new to' tn tc t x.fm x.key _ (by omega) (HT.out.below BX.out)).mono ?_
        rintro e w2 ⟨xo, xn, xc, rfl, h2, b2⟩
        have H2 := hid h2
        have Z2 := hid (HZ.out.below b2)
        have B2 := hid (q_trans BX.out b2)
        clear h2 b2 z0 z1 z2 z3 z4 c0 c1 c2 c3 c4
        obtain ⟨v, hv⟩ : ∃ v, moE t x.fm x.key = v := ⟨_, rfl⟩
        rw [hv]
        go_wp2_with fail
        refine (gnum_low v _).mono ?_
        rintro e w3 ⟨rfl, b3⟩
        have B3 := hid (q_trans B2.out b3)
        have Z3 := hid (Z2.out.below b3)
        have HM3 := hid (HM.out.below B3.out)
        by_cases hv0 : v = 0
        · have HGn : Hid (Tg (moA t x.fm x.key) (d ++ [x])) := by
            have h := tg_yes HG.out (by have := HM.out.1; omega) (x := x) (by rw [HE.out.1, hv, hv0])
            rw [HE.out.2] at h
            exact h
          subst hv0
          clear hv
          have hvt : ((0 : Int) == 0) = true := by decide
          obtain ⟨z0, z1, z2, z3, z4⟩ := Z3.out
          have HO := hid (HM3.out.2.alloc (.cells #[.int .i64 x.kind, .int .i64 x.key.1, .int .i64 x.key.2, .int .i64 x.fm.1, .int .i64 x.fm.2] 29))
          have HRw : Hid (Row (w3.alloc (.cells #[.int .i64 x.kind, .int .i64 x.key.1, .int .i64 x.key.2, .int .i64 x.fm.1, .int .i64 x.fm.2] 29)) (some ⟨w3.heap.size, 0, none⟩) (zrs [x])) := (hasZ_new w3 [x] 29).row
          have HBz := hid (q_alloc (HB.out.trans (B3.out.mono HB.out.size)) (.cells #[.int .i64 x.kind, .int .i64 x.key.1, .int .i64 x.key.2, .int .i64 x.fm.1, .int .i64 x.fm.2] 29))
          have HB3 := hid b3
          clear b3
          go_wp2_with (at_builtin; go_loud (refine wpList_append_row _ rfl (.tmp 79) (.tmp 81) 47 29 _ 5 40 rfl Try.underlying47 infoZ rfl (by decide) (by decide) W0.heap.size _ dn (zrs d) rfl HO.out _ 1 1 (zrs [x]) rfl rfl (fun h => by cases h) HRw.out (zrs_one _) (by omega) HBz.out.size ?_; intro ao3 cap3 w4 own3 grow3; apply Hid.out))
          have HA4 := hid (MineZ.append (HM3.out.below (alloc_below _ _)) HBz.out.size (k := [x]) rfl own3 grow3)
          have HU : Hid (HasB w4 xo xn xc (moA t x.fm x.key)) := tree_app H2.out HB3.out HM.out (Nat.le_of_lt (by simp)) grow3
          have HBn : Hid (Below W0.heap.size W0 w4) := HBz.out.trans HA4.out.2
          clear own3 grow3 HO HRw HBz z0 z1 z2 z3 z4 Z3 Z2 HB3
          unfold Hid
          go_wp2_with fail
          go_roundw
          case rel => exact ⟨q + 1, xo, xn, xc, ao3, dn + 1, cap3, _, d ++ [x], by omega, by go_num, rfl, rfl, by omega, HU, HA4.out.1, HGn, HBn⟩
          case measure => simp [intOf]; omega
        · have HAn : Hid (moA t x.fm x.key = t) := by
            unfold Hid
            rw [← HE.out.2]
            exact tr_no (by rw [HE.out.1, hv]; exact hv0)
          have hv1 : (v == 0) = false := by simp [hv0]
          have HU : Hid (HasB w3 xo xn xc t) := by
            have h := H2.out.has.below b3
            rw [HAn.out] at h
            exact h
          have HBn : Hid (Below W0.heap.size W0 w3) := HB.out.trans (B3.out.mono HB.out.size)
          clear hv hv0 b3 Z3 Z2
          go_wp2_with fail
          go_roundw
          case rel => exact ⟨q + 1, xo, xn, xc, do', dn, dc, t, d, by omega, by go_num, rfl, rfl, by omega, HU, HM3, HG, HBn⟩
          case measure => simp [intOf]; omega
      by_cases k4 : kd = 4
      · have HK : Hid (x.kind = 4) := by rw [← k4]; exact hkd
        subst k4
        rw [hkd] at c0 HZ BX
        clear hkd
        have HE : Hid (trE t x = reE t x.key ∧ trA t x = reA t x.key) := by
          unfold trE trA
          rw [if_neg (by rw [HK.out]; decide), if_neg (by rw [HK.out]; decide), if_neg (by rw [HK.out]; decide), if_pos HK.out, if_neg (by rw [HK.out]; decide), if_neg (by rw [HK.out]; decide), if_neg (by rw [HK.out]; decide), if_pos HK.out]
          exact ⟨rfl, rfl⟩
        obtain ⟨z0, z1, z2, z3, z4⟩ := HZ.out
        rw [HK.out] at z0
        go_wp2_with fail
        refine (rem_new to' tn tc t x.key _ (by omega) (HT.out.below BX.out)).mono ?_
        rintro e w2 ⟨xo, xn, xc, rfl, h2, b2⟩
        have H2 := hid h2
        have Z2 := hid (HZ.out.below b2)
        have B2 := hid (q_trans BX.out b2)
        clear h2 b2 z0 z1 z2 z3 z4 c0 c1 c2 c3 c4
        obtain ⟨v, hv⟩ : ∃ v, reE t x.key = v := ⟨_, rfl⟩
        rw [hv]
        go_wp2_with fail
        refine (gnum_low v _).mono ?_
        rintro e w3 ⟨rfl, b3⟩
        have B3 := hid (q_trans B2.out b3)
        have Z3 := hid (Z2.out.below b3)
        have HM3 := hid (HM.out.below B3.out)
        by_cases hv0 : v = 0
        · have HGn : Hid (Tg (reA t x.key) (d ++ [x])) := by
            have h := tg_yes HG.out (by have := HM.out.1; omega) (x := x) (by rw [HE.out.1, hv, hv0])
            rw [HE.out.2] at h
            exact h
          subst hv0
          clear hv
          have hvt : ((0 : Int) == 0) = true := by decide
          obtain ⟨z0, z1, z2, z3, z4⟩ := Z3.out
          have HO := hid (HM3.out.2.alloc (.cells #[.int .i64 x.kind, .int .i64 x.key.1, .int .i64 x.key.2, .int .i64 x.fm.1, .int .i64 x.fm.2] 29))
          have HRw : Hid (Row (w3.alloc (.cells #[.int .i64 x.kind, .int .i64 x.key.1, .int .i64 x.key.2, .int .i64 x.fm.1, .int .i64 x.fm.2] 29)) (some ⟨w3.heap.size, 0, none⟩) (zrs [x])) := (hasZ_new w3 [x] 29).row
          have HBz := hid (q_alloc (HB.out.trans (B3.out.mono HB.out.size)) (.cells #[.int .i64 x.kind, .int .i64 x.key.1, .int .i64 x.key.2, .int .i64 x.fm.1, .int .i64 x.fm.2] 29))
          have HB3 := hid b3
          clear b3
          go_wp2_with (at_builtin; go_loud (refine wpList_append_row _ rfl (.tmp 79) (.tmp 81) 47 29 _ 5 40 rfl Try.underlying47 infoZ rfl (by decide) (by decide) W0.heap.size _ dn (zrs d) rfl HO.out _ 1 1 (zrs [x]) rfl rfl (fun h => by cases h) HRw.out (zrs_one _) (by omega) HBz.out.size ?_; intro ao3 cap3 w4 own3 grow3; apply Hid.out))
          have HA4 := hid (MineZ.append (HM3.out.below (alloc_below _ _)) HBz.out.size (k := [x]) rfl own3 grow3)
          have HU : Hid (HasB w4 xo xn xc (reA t x.key)) := tree_app H2.out HB3.out HM.out (Nat.le_of_lt (by simp)) grow3
          have HBn : Hid (Below W0.heap.size W0 w4) := HBz.out.trans HA4.out.2
          clear own3 grow3 HO HRw HBz z0 z1 z2 z3 z4 Z3 Z2 HB3
          unfold Hid
          go_wp2_with fail
          go_roundw
          case rel => exact ⟨q + 1, xo, xn, xc, ao3, dn + 1, cap3, _, d ++ [x], by omega, by go_num, rfl, rfl, by omega, HU, HA4.out.1, HGn, HBn⟩
          case measure => simp [intOf]; omega
        · have HAn : Hid (reA t x.key = t) := by
            unfold Hid
            rw [← HE.out.2]
            exact tr_no (by rw [HE.out.1, hv]; exact hv0)
          have hv1 : (v == 0) = false := by simp [hv0]
          have HU : Hid (HasB w3 xo xn xc t) := by
            have h := H2.out.has.below b3
            rw [HAn.out] at h
            exact h
          have HBn : Hid (Below W0.heap.size W0 w3) := HB.out.trans (B3.out.mono HB.out.size)
          clear hv hv0 b3 Z3 Z2
          go_wp2_with fail
          go_roundw
          case rel => exact ⟨q + 1, xo, xn, xc, do', dn, dc, t, d, by omega, by go_num, rfl, rfl, by omega, HU, HM3, HG, HBn⟩
          case measure => simp [intOf]; omega
      have e1 : (kd == 1) = false := by simp [k1]
      have e2 : (kd == 2) = false := by simp [k2]
      have e3 : (kd == 3) = false := by simp [k3]
      have e4 : (kd == 4) = false := by simp [k4]
      rw [hkd] at c0 HZ BX
      clear k1 k2 k3 k4
      obtain ⟨z0, z1, z2, z3, z4⟩ := HZ.out
      rw [hkd] at z0
      clear hkd
      go_wp2_with fail
      refine (gnum_low 2 _).mono ?_
      rintro e w3 ⟨rfl, b3⟩
      have B3 := hid (q_trans BX.out b3)
      have HM3 := hid (HM.out.below B3.out)
      have HU := hid (HT.out.below B3.out)
      have HBn : Hid (Below W0.heap.size W0 w3) := HB.out.trans (B3.out.mono HB.out.size)
      clear b3 z0 z1 z2 z3 z4 c0 c1 c2 c3 c4
      go_wp2_with fail
      go_roundw
      case rel => exact ⟨q + 1, to', tn, tc, do', dn, dc, t, d, by omega, by go_num, rfl, rfl, by omega, HU, HM3, HG, HBn⟩
      case measure => simp [intOf]; omega
    · obtain rfl : q = n := by omega
      have i2 : ¬ (q : Int) < (q : Int) := by omega
      obtain ⟨g, hg⟩ : ∃ g, rnA d = g := ⟨_, rfl⟩
      have HR := hid HG.out.rel
      have HA := hid hg
      have HAl := hid HG.out.all
      rw [hg] at HR
      clear hg
      have HK1 := hid (K1.out.below HB.out)
      have HK2 := hid (K2.out.below HB.out)
      have HBw := hid (q_trans B.out HB.out)
      go_wp2_with fail
      refine (run_at g 0 (by omega) HM.out.has HA.out HAl.out).mono ?_
      rintro e w4 ⟨x, rfl, h4, b4⟩
      have X1 := hid (hg_new h4)
      replace b4 := q_alloc b4 (.cells #[.slice x.k.o x.k.n x.k.c, .slice x.i.o x.i.n x.i.c, .slice x.f.o x.f.n x.f.c] 25)
      replace HK1 := hid (HK1.out.below b4)
      replace HK2 := hid (HK2.out.below b4)
      replace HT := hid (HT.out.below b4)
      replace HBw := hid (q_trans HBw.out b4)
      clear h4 b4 HM HB
      go_upto_region 24 with fail
      generalize w4.heap.size = p1 at X1 ⊢
      generalize w4.alloc (.cells #[.slice x.k.o x.k.n x.k.c, .slice x.i.o x.i.n x.i.c, .slice x.f.o x.f.n x.f.c] 25) = V at X1 HK1 HK2 HT HBw ⊢
      obtain ⟨x0, x1, x2⟩ := X1.out.gb.inW.inG
      obtain ⟨a0, a1⟩ := HK1.out
      go_wp2_with fail
      refine (who_at2 _ _ X1.out.has HR.out.ok rfl rfl).mono ?_
      rintro e w5 ⟨rfl, b5⟩
      replace X1 := hid (X1.out.below b5)
      replace HK1 := hid (HK1.out.below b5)
      replace HK2 := hid (HK2.out.below b5)
      replace HT := hid (HT.out.below b5)
      replace HBw := hid (q_trans HBw.out b5)
      clear b5 x0 x1 x2 a0 a1
      obtain ⟨a0, a1⟩ := HK1.out
      go_wp2_with fail
      refine (find_any to' tn tc t a _ (by omega) HT).mono ?_
      rintro e V ⟨rfl, b5⟩
      replace X1 := hid (X1.out.below b5)
      replace HK1 := hid (HK1.out.below b5)
      replace HK2 := hid (HK2.out.below b5)
      replace HT := hid (HT.out.below b5)
      replace HBw := hid (q_trans HBw.out b5)
      clear b5 a0 a1
      have HEq : Hid (whB g a = hasK t a) := by unfold Hid; rw [whB_has HR.out.ok, HR.out.has]
      rw [HEq.out]
      obtain ⟨u, hu⟩ : ∃ u, hasK t a = u := ⟨_, rfl⟩
      rw [hu]
      have huu : (u == u) = true := by simp
      clear hu HEq
      obtain ⟨v, hv⟩ : ∃ v, whI g a = v := ⟨_, rfl⟩
      rw [hv]
      clear hv
      have HLn : Hid (x.k.n = tn) := by have h1 := X1.out.has.ks.len; have h2 := HT.out.len; have h3 := HR.out.len; unfold Hid; omega
      obtain ⟨z, hz⟩ : ∃ z, dsB t a b = z := ⟨_, rfl⟩
      have hzz : (z == z) = true := by simp
      have HDz := hid hz
      clear hz
      have C1 : Hid (∀ X, Below V.heap.size V X → Calls Try.prog 23 #[(.agg #[.slice x.k.o x.k.n x.k.c, .slice x.i.o x.i.n x.i.c, .slice x.f.o x.f.n x.f.c]), (.agg #[.int .i64 a.1, .int .i64 a.2]), (.agg #[.int .i64 b.1, .int .i64 b.2])] X fun e w' => e = .returned (.bool z) ∧ Below X.heap.size X w') := fun X r => ds_at z (X1.out.has.below r) HR.out.ok (by rw [← HR.out.ds]; exact HDz.out)
      have C2 : Hid (∀ X, Below V.heap.size V X → Calls Try.prog 32 #[.slice to' tn tc, (.agg #[.int .i64 a.1, .int .i64 a.2]), (.agg #[.int .i64 b.1, .int .i64 b.2])] X fun e w' => e = .returned (.bool z) ∧ Below X.heap.size X w') := fun X r => by
        have h := desc_any to' tn tc t a b X htn (HT.out.below r)
        rwa [HDz.out] at h
      obtain ⟨x0, x1, x2⟩ := X1.out.gb.inW.inG.always
      rw [HLn.out] at x0 C1
      obtain ⟨a0, a1⟩ := HK1.out.always
      obtain ⟨b0, b1⟩ := HK2.out.always
      have hne : Nonempty (Later V) := ⟨⟨_, Below.refl _ _⟩⟩
      have htt : ((tn : Int) == (tn : Int)) = true := by simp
      go_upto_region 26 with fail
      refine wp_region_later (by kernel_rfl) (by kernel_rfl) ?_
      repeat (go_big_quiet_step (first | (go_at_call 10; with_reducible exact later_call (live_any _)) | (go_at_call 23; with_reducible exact later_call (C1.out _ (Later.low _))) | (go_at_call 32; with_reducible exact later_call (C2.out _ (Later.low _)))))
      refine wpQuiet_nil ?_
      rintro w9 ⟨⟨_, b9⟩, rfl⟩
      replace HBw := hid (q_trans HBw.out b9)
      clear b9
      go_wp2_with fail
      go_ret
      exact ⟨rfl, HBw.out⟩
/-- GHOSTTREE. -/
theorem tree_any (ao : Option Addr) (n cap : Nat) (l : List Bi) (a b : P) (w : World) (HH : Hid (HasZ w ao n cap l)) :
    Calls Try.prog 6 #[.slice ao n cap, (.agg #[.int .i64 a.1, .int .i64 a.2]), (.agg #[.int .i64 b.1, .int .i64 b.2])] w fun e w' => e = .returned (.bool true) ∧ Below w.heap.size w w' := by
  by_cases h : n ≤ 80
  · exact tree_in ao n cap l a b w h HH
  · exact tree_long ao n cap a b w (by omega)
end Go.Proofs.Ytcldnacpddebcaa.Gh
