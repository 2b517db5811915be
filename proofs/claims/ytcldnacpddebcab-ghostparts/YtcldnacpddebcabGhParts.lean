/- GhostParts: run in two parts it is as at once; as many were born as there are places in From. -/
import Derived.Test.YtcldnacpddebcabGhLive
namespace Go.Proofs.Ytcldnacpddebcab.Gh
open Go.RowKit
open Go.Proofs.Ytcldnacpddebcab.Tr

set_option maxHeartbeats 800000 in
theorem parts_long1 (ao : Option Addr) (n cap : Nat) (mo : Option Addr) (m mc : Nat) (w : World) (h : 80 < n) :
    Calls Try.prog 3 #[.slice ao n cap, .slice mo m mc] w fun e w' => e = .returned (.bool true) ∧ Below w.heap.size w w' := by
  have i1 : (n : Int) > 80 := by omega
  clear h
  go_enter Try.func3, Try.ntmps3
  go_wp2_with (go_at_call 4; refine (live_any _).mono ?_; rintro e w2 ⟨rfl, bb⟩)
  go_ret
  exact ⟨rfl, bb⟩
set_option maxHeartbeats 800000 in
theorem parts_long2 (ao : Option Addr) (n cap : Nat) (mo : Option Addr) (m mc : Nat) (w : World) (h0 : n ≤ 80) (h : 80 < m) :
    Calls Try.prog 3 #[.slice ao n cap, .slice mo m mc] w fun e w' => e = .returned (.bool true) ∧ Below w.heap.size w w' := by
  have i0 : ¬ (n : Int) > 80 := by omega
  have i1 : (m : Int) > 80 := by omega
  clear h h0
  go_enter Try.func3, Try.ntmps3
  go_wp2_with (go_at_call 4; refine (live_any _).mono ?_; rintro e w2 ⟨rfl, bb⟩)
  go_ret
  exact ⟨rfl, bb⟩
theorem take_two (l r : List Bi) (q : Nat) (h : q < r.length) : l ++ r.take (q + 1) = (l ++ r.take q) ++ [r.getD q z0B] := by rw [ztake_snoc r q h, List.append_assoc]
set_option maxRecDepth 100000 in
set_option maxHeartbeats 8000000 in
theorem parts_in (ao : Option Addr) (n cap : Nat) (l : List Bi) (mo : Option Addr) (m mc : Nat) (r : List Bi) (w : World) (hn : n ≤ 80) (hm : m ≤ 80) (HL : Hid (HasZ w ao n cap l)) (HH : Hid (HasZ w mo m mc r)) :
    Calls Try.prog 3 #[.slice ao n cap, .slice mo m mc] w fun e w' => e = .returned (.bool true) ∧ Below w.heap.size w w' := by
  have HN := hid HL.out.len
  have HM := hid HH.out.len
  have j1 : ¬ (n : Int) > 80 := by omega
  have j2 : ¬ (m : Int) > 80 := by omega
  obtain ⟨k, hk⟩ : ∃ k, rnN l = k := ⟨_, rfl⟩
  have hk80 : k ≤ 80 := by rw [← hk]; have := rnN_le l; have := HN.out; omega
  have HK := hid hk
  clear hk
  go_enter Try.func3, Try.ntmps3
  go_wp2_with fail
  refine (run_at _ k (by omega) HL.out rfl HK.out).mono ?_
  rintro e w4 ⟨x, rfl, h4, b4⟩
  have X1 := hid (hg_new h4)
  have B := hid (q_alloc b4 (.cells #[.slice x.k.o x.k.n x.k.c, .slice x.i.o x.i.n x.i.c, .slice x.f.o x.f.n x.f.c] 27))
  have HP1 := hid b4.size
  clear h4 b4
  go_upto_region 4 with fail
  generalize w4.heap.size = p1 at X1 HP1 ⊢
  generalize w4.alloc (.cells #[.slice x.k.o x.k.n x.k.c, .slice x.i.o x.i.n x.i.c, .slice x.f.o x.f.n x.f.c] 27) = V at X1 B ⊢
  go_wp2_with fail
  go_loopw [7, 8] (fun s7 s8 wr => ∃ (q c : Nat) (x : Gv), q ≤ m ∧ s8 = .int .i64 q ∧ s7 = .int .i64 c ∧ c ≤ q ∧ Hid (k + c = rnN (l ++ r.take q)) ∧ Hid (Hg wr p1 x (rnA (l ++ r.take q))) ∧ Hid (Below w.heap.size w wr)) (fun _ i _ => m - (intOf i).toNat)
  case atStart => exact ⟨0, 0, x, Nat.zero_le _, rfl, rfl, Nat.le_refl _, by unfold Hid; rw [List.take_zero, List.append_nil]; exact HK.out.symm, by rw [List.take_zero, List.append_nil]; exact X1, B⟩
  case round =>
    clear X1 B
    obtain ⟨q, c, x, hq, rfl, rfl, hcq, HC, HG, HB⟩ := hrel
    by_cases hlt : q < m
    · have i1 : (0 : Int) ≤ (q : Int) := by omega
      have i2 : (q : Int) < (m : Int) := by omega
      obtain ⟨a, rfl, ca⟩ := (HH.out.below HB.out).at q hlt
      obtain ⟨b, hb⟩ : ∃ b, r.getD q z0B = b := ⟨_, rfl⟩
      rw [hb] at ca
      have HT : Hid (l ++ r.take (q + 1) = (l ++ r.take q) ++ [b]) := by unfold Hid; rw [take_two l r q (by have := HM.out; omega), hb]
      clear hb
      have HOk := hid (rn_ok (l ++ r.take q))
      obtain ⟨g, hg⟩ : ∃ g, rnA (l ++ r.take q) = g := ⟨_, rfl⟩
      have HE := hid hg
      rw [hg] at HG HOk
      clear hg
      have hS := sa_of HG.out.gb.inW ca
      have HNe : Hid (wr.heap.size ≠ p1 ∧ wr.heap.size ≠ (a.add (q * 5)).block) := ⟨by have := HG.out.gb.lt; omega, by have := ca.lt; omega⟩
      have HSm : Hid (x.k.n ≤ 5000 ∧ x.i.n ≤ 5000 ∧ x.f.n ≤ 5000) := by have := HG.out.has.small HOk.out; unfold Hid; omega
      clear ca
      go_upto_region 8 with fail
      go_cut [9, 10] from 33 to 41 (fun s9 s10 wx => ∃ (p : Nat) (x1 : Gv), s9 = .pointer (some ⟨p, 0, none⟩) ∧ s10 = .int .i64 (adE g b) ∧ Hid (Hg wx p x1 (adA g b)) ∧ Hid (wr.heap.size ≤ p) ∧ Hid (Below wr.heap.size wr wx))
      case first =>
        go_region_held3 (SA p1 x (a.add (q * 5)) b) (first | with_reducible assumption | with_reducible exact sa_drew hS | with_reducible exact sa_alloc hS _ | with_reducible exact sa_drew (sa_alloc hS _) | with_reducible exact HS1.out | with_reducible exact sa_drew HS1.out | with_reducible exact sa_alloc HS1.out _ | with_reducible exact sa_drew (sa_alloc HS1.out _) | with_reducible exact sa_three HS1.out HNe.out.1 HNe.out.2 _ _ _ | with_reducible exact sa_drew (sa_three HS1.out HNe.out.1 HNe.out.2 _ _ _) | fail)
          (first
            | (go_at_call 6; refine (padd_any x g b _ HSm.out.1 HSm.out.2.1 HSm.out.2.2 (by first | exact HG.out.has | exact HG.out.has.below (Below.refl _ wr).drew | exact HG.out.has.below (alloc_below wr _) | exact HG.out.has.below (alloc_below wr _).drew)).mono ?_; rintro e w1 ⟨x1, rfl, h1, b1⟩; have B1 : Hid (Below wr.heap.size wr w1) := (by first | exact b1 | exact q_trans (Below.refl _ wr).drew b1 | exact q_trans (alloc_below wr _) b1 | exact q_trans (alloc_below wr _).drew b1); have HS1 : Hid (SA p1 x (a.add (q * 5)) b w1) := sa_keep hS B1.out; have H1 := hid h1; (try (have HZ : Hid (Gb w1 wr.heap.size nilG) := (by first | exact (gb_new wr nilG).below b1 | exact (gb_new wr.drew nilG).below b1); obtain ⟨y0, y1, y2, y3, y4, y5⟩ := HZ.out.inW; have hlz := HZ.out.lt)); clear b1 h1)
            | fail)
        all_goals (try go_wp2_with fail)
        all_goals go_meet
        all_goals first
          | exact ⟨w1.heap.size, x1, rfl, rfl, hg_new H1.out, B1.out.size, q_alloc B1.out _⟩
          | exact ⟨wr.heap.size, x1, rfl, rfl, hg_put HZ.out H1.out, Nat.le_refl _, put3_low B1.out (Nat.le_refl _)⟩
      case rest =>
        obtain ⟨p, x1, rfl, rfl, HG1, HP, HBc⟩ := hcut
        have HGo := hid (HG.out.below HBc.out)
        have HBw := hid (q_trans HB.out HBc.out)
        have HPn : Hid (p ≠ p1) := by have := HG.out.gb.lt; have := HP.out; unfold Hid; omega
        clear hS HNe HG HB HBc HP
        have HG2 : Hid (rnA (l ++ r.take (q + 1)) = adA g b) := by unfold Hid; rw [HT.out, rn_snoc, HE.out]
        obtain ⟨v, hv⟩ : ∃ v, adE g b = v := ⟨_, rfl⟩
        rw [hv]
        go_wp2_with fail
        refine (gnum_low v _).mono ?_
        rintro e w3 ⟨rfl, b3⟩
        replace HGo := hid (HGo.out.below b3)
        replace HG1 := hid (HG1.out.below b3)
        replace HBw := hid (q_trans HBw.out b3)
        clear b3
        by_cases hv0 : v = 0
        · have HC2 : Hid (k + c = rnN (l ++ r.take (q + 1))) := by
            unfold Hid
            rw [HT.out, rnN_yes (by rw [HE.out, hv, hv0])]
            exact HC.out
          have hvt : (v != 0) = false := by simp [hv0]
          clear hv hv0
          have HF := hid (hg_put HGo.out.gb HG1.out.has)
          have HF3 := hid (put3_low (x := x1) (p := p1) HBw.out HP1.out)
          obtain ⟨y0, y1, y2, y3, y4, y5⟩ := HG1.out.gb.inW
          obtain ⟨v0, v1, v2, v3, v4, v5⟩ := HGo.out.gb.inW
          have hlp := HGo.out.gb.lt
          go_wp2_with fail
          go_roundw
          case rel => exact ⟨q + 1, c, x1, by omega, by go_num, rfl, by omega, HC2, by rw [HG2.out]; exact HF, HF3⟩
          case measure => simp [intOf]; omega
        · have HC2 : Hid (k + (c + 1) = rnN (l ++ r.take (q + 1))) := by
            unfold Hid
            rw [HT.out, rnN_no (by rw [HE.out, hv]; exact hv0), ← HC.out]
            omega
          have HAg : Hid (adA g b = g) := ad_no (g := g) (b := b) rfl (by rw [hv]; exact hv0)
          have hvt : (v != 0) = true := by simp [hv0]
          clear hv hv0
          obtain ⟨y0, y1, y2⟩ := HG1.out.gb.inW.inG
          obtain ⟨v0, v1, v2⟩ := HGo.out.gb.inW.inG
          go_wp2_with fail
          refine (sm_at true HGo.out.has HOk.out HG1.out.has (by rw [HAg.out]; exact sgB_refl g)).mono ?_
          rintro e w5 ⟨rfl, b5⟩
          replace HGo := hid (HGo.out.below b5)
          replace HG1 := hid (HG1.out.below b5)
          replace HBw := hid (q_trans HBw.out b5)
          clear b5 y0 y1 y2 v0 v1 v2
          have HF := hid (hg_put HGo.out.gb HG1.out.has)
          have HF3 := hid (put3_low (x := x1) (p := p1) HBw.out HP1.out)
          obtain ⟨y0, y1, y2, y3, y4, y5⟩ := HG1.out.gb.inW
          obtain ⟨v0, v1, v2, v3, v4, v5⟩ := HGo.out.gb.inW
          have hlp := HGo.out.gb.lt
          go_wp2_with fail
          go_roundw
          case rel => exact ⟨q + 1, c + 1, x1, by omega, by go_num, by go_num, by omega, HC2, by rw [HG2.out]; exact HF, HF3⟩
          case measure => simp [intOf]; omega
    · obtain rfl : q = m := by omega
      have i2 : ¬ (q : Int) < (q : Int) := by omega
      have HT : Hid (l ++ r.take q = l ++ r) := by unfold Hid; rw [HM.out, List.take_length]
      rw [HT.out] at HC HG
      clear HT
      have HOk := hid (rn_ok (l ++ r))
      obtain ⟨g, hg⟩ : ∃ g, rnA (l ++ r) = g := ⟨_, rfl⟩
      have HE := hid hg
      rw [hg] at HG HOk
      clear hg
      have HRw := hid ((HL.out.below HB.out).row.below (alloc_below wr (.cells #[] 36)))
      go_wp2_with (at_builtin; go_loud (refine wpList_append_row _ rfl (.tmp 53) (.tmp 54) 22 36 _ 5 40 rfl Try.underlying22 infoZ rfl (by decide) (by decide) wr.heap.size _ 0 [] rfl (own0 wr 36 5) _ n cap (zrs l) rfl (by rw [len_zrs, ← HN.out]) HL.out.nil HRw.out (zrs_one _) (by omega) (alloc_below wr _).size ?_; intro ao3 cap3 w3 own3 grow3; rw [Nat.zero_add, List.nil_append] at own3; simp only [Nat.zero_add]; apply Hid.out))
      have HO3 := hid own3
      have B3 := hid (app_below grow3)
      unfold Hid
      clear own3 grow3 HRw
      have HRw2 := hid ((HH.out.below (q_trans HB.out B3.out)).row)
      go_wp2_with (at_builtin; go_loud (refine wpList_append_row _ rfl (.tmp 55) (.tmp 56) 22 36 _ 5 40 rfl Try.underlying22 infoZ rfl (by decide) (by decide) wr.heap.size _ n (zrs l) rfl HO3.out _ q mc (zrs r) rfl (by rw [len_zrs, ← HM.out]) HH.out.nil HRw2.out (zrs_one _) (by omega) B3.out.size ?_; intro ao4 cap4 w5 own4 grow4; apply Hid.out))
      have HZ4 : Hid (HasZ w5 ao4 (n + q) cap4 (l ++ r)) := by
        rw [← zrs_app] at own4
        exact MineZ.has (B := wr.heap.size) ⟨by rw [HN.out, HM.out]; simp, own4⟩
      have B5 : Hid (Below wr.heap.size wr w5) := B3.out.grown grow4 B3.out.size (fun k e => (World.ownsRow.lt HO3.out k e).1)
      unfold Hid
      clear own4 grow4 HRw2 HO3 B3
      go_wp2_with fail
      refine (run_at g (k + c) (by omega) HZ4.out HE.out HC.out.symm).mono ?_
      rintro e w6 ⟨y, rfl, h6, b6⟩
      have Y1 := hid (hg_new h6)
      have B6 := hid (q_alloc (q_trans B5.out b6) (.cells #[.slice y.k.o y.k.n y.k.c, .slice y.i.o y.i.n y.i.c, .slice y.f.o y.f.n y.f.c] 27))
      have HW := hid (q_trans HB.out B6.out)
      have X1 := hid (HG.out.below B6.out)
      clear h6 b6 HG HB B5 B6 HZ4
      go_upto_region 15 with fail
      generalize w6.heap.size = p2 at Y1 ⊢
      generalize w6.alloc (.cells #[.slice y.k.o y.k.n y.k.c, .slice y.i.o y.i.n y.i.c, .slice y.f.o y.f.n y.f.c] 27) = V3 at Y1 X1 HW ⊢
      obtain ⟨x0, x1, x2⟩ := X1.out.gb.inW.inG
      obtain ⟨y0, y1, y2⟩ := Y1.out.gb.inW.inG
      go_wp2_with fail
      refine (sm_at true X1.out.has HOk.out Y1.out.has (sgB_refl g)).mono ?_
      rintro e w7 ⟨rfl, b7⟩
      replace Y1 := hid (Y1.out.below b7)
      replace HW := hid (q_trans HW.out b7)
      clear b7 x0 x1 x2 y0 y1 y2 X1
      obtain ⟨y0, y1, y2⟩ := Y1.out.gb.inW.inG
      have hle : (y.k.n : Int) ≤ (y.f.n : Int) := by have h1 := HOk.out.few; have h2 := Y1.out.has.ks.len; have h3 := Y1.out.has.fr.len; omega
      have hkc : (((k + c : Nat) : Int) == (k : Int) + (c : Int)) = true := by simp
      go_wp2_with fail
      refine (live_any _).mono ?_
      rintro e w8 ⟨rfl, b8⟩
      replace HW := hid (q_trans HW.out b8)
      clear b8
      go_wp2_with fail
      go_ret
      exact ⟨rfl, HW.out⟩
/-- GHOSTPARTS. -/
theorem parts_any (ao : Option Addr) (n cap : Nat) (l : List Bi) (mo : Option Addr) (m mc : Nat) (r : List Bi) (w : World) (HL : Hid (HasZ w ao n cap l)) (HH : Hid (HasZ w mo m mc r)) :
    Calls Try.prog 3 #[.slice ao n cap, .slice mo m mc] w fun e w' => e = .returned (.bool true) ∧ Below w.heap.size w w' := by
  by_cases h : n ≤ 80
  · by_cases h2 : m ≤ 80
    · exact parts_in ao n cap l mo m mc r w h h2 HL HH
    · exact parts_long2 ao n cap mo m mc w h (by omega)
  · exact parts_long1 ao n cap mo m mc w (by omega)
end Go.Proofs.Ytcldnacpddebcab.Gh
