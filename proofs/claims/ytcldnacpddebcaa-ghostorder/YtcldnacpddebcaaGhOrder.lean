/- GhostOrder: nobody descends from itself, nor two from each other; what descends from what descends, descends; those above are older. -/
import Derived.Test.YtcldnacpddebcaaGhLive
import Derived.Test.YtcldnacpddebcaaGhRel
namespace Go.Proofs.Ytcldnacpddebcaa.Gh
open Go.RowKit
open Go.Proofs.Ytcldnacpddebcaa.Tr

theorem kkk_new (w : World) (a b c : P) : AtP (((w.alloc (.cells #[.int .i64 a.1, .int .i64 a.2] 27)).alloc (.cells #[.int .i64 b.1, .int .i64 b.2] 27)).alloc (.cells #[.int .i64 c.1, .int .i64 c.2] 27)) ⟨w.heap.size, 0, none⟩ a ∧ AtP (((w.alloc (.cells #[.int .i64 a.1, .int .i64 a.2] 27)).alloc (.cells #[.int .i64 b.1, .int .i64 b.2] 27)).alloc (.cells #[.int .i64 c.1, .int .i64 c.2] 27)) ⟨w.heap.size + 1, 0, none⟩ b ∧ AtP (((w.alloc (.cells #[.int .i64 a.1, .int .i64 a.2] 27)).alloc (.cells #[.int .i64 b.1, .int .i64 b.2] 27)).alloc (.cells #[.int .i64 c.1, .int .i64 c.2] 27)) ⟨w.heap.size + 2, 0, none⟩ c ∧ Below w.heap.size w (((w.alloc (.cells #[.int .i64 a.1, .int .i64 a.2] 27)).alloc (.cells #[.int .i64 b.1, .int .i64 b.2] 27)).alloc (.cells #[.int .i64 c.1, .int .i64 c.2] 27)) := by
  refine ⟨?_, ?_, ?_, q_alloc (q_alloc (alloc_below _ _) _) _⟩
  · exact ((at_new w a 27).below (alloc_below _ _)).below (alloc_below _ _)
  · have h := at_new (w.alloc (.cells #[.int .i64 a.1, .int .i64 a.2] 27)) b 27
    rw [show (w.alloc (.cells #[.int .i64 a.1, .int .i64 a.2] 27)).heap.size = w.heap.size + 1 by simp] at h
    exact h.below (alloc_below _ _)
  · have h := at_new ((w.alloc (.cells #[.int .i64 a.1, .int .i64 a.2] 27)).alloc (.cells #[.int .i64 b.1, .int .i64 b.2] 27)) c 27
    rwa [show ((w.alloc (.cells #[.int .i64 a.1, .int .i64 a.2] 27)).alloc (.cells #[.int .i64 b.1, .int .i64 b.2] 27)).heap.size = w.heap.size + 2 by simp] at h
set_option maxHeartbeats 800000 in
theorem order_long (ao : Option Addr) (n cap : Nat) (a b c : P) (w : World) (h : 80 < n) :
    Calls Try.prog 8 #[.slice ao n cap, (.agg #[.int .i64 a.1, .int .i64 a.2]), (.agg #[.int .i64 b.1, .int .i64 b.2]), (.agg #[.int .i64 c.1, .int .i64 c.2])] w fun e w' => e = .returned (.bool true) ∧ Below w.heap.size w w' := by
  have i1 : (n : Int) > 80 := by omega
  clear h
  go_enter Try.func8, Try.ntmps8
  go_wp2_with (go_at_call 10; refine (live_any _).mono ?_; rintro e w2 ⟨rfl, bb⟩)
  go_ret
  exact ⟨rfl, q_trans (q_alloc (q_alloc (alloc_below _ _) _) _) bb⟩
/-- What is older than the q-th above x. -/
def olB (x : Int) (u : List Int) (q : Nat) : Int := if q = 0 then x else Ii u (q - 1)
theorem ol_zero (x : Int) (u : List Int) : olB x u 0 = x := rfl
theorem ol_succ (x : Int) (u : List Int) (q : Nat) : olB x u (q + 1) = Ii u q := rfl
theorem wh_lo {g : Gt} (o : Ok g) {k : P} (h : whB g k = true) : 0 ≤ whI g k := by
  unfold whB at h
  unfold whI
  cases e : who g k with
  | none => rw [e] at h; cases h
  | some x =>
    obtain ⟨_, _, _, hr⟩ := who_fk o e
    exact hr.1
set_option maxRecDepth 100000 in
set_option maxHeartbeats 4000000 in
theorem order_in (ao : Option Addr) (n cap : Nat) (l : List Bi) (a b c : P) (w : World) (hn : n ≤ 80) (HH : Hid (HasZ w ao n cap l)) :
    Calls Try.prog 8 #[.slice ao n cap, (.agg #[.int .i64 a.1, .int .i64 a.2]), (.agg #[.int .i64 b.1, .int .i64 b.2]), (.agg #[.int .i64 c.1, .int .i64 c.2])] w fun e w' => e = .returned (.bool true) ∧ Below w.heap.size w w' := by
  have HN := hid HH.out.len
  have j1 : ¬ (n : Int) > 80 := by omega
  go_enter Try.func8, Try.ntmps8
  go_wp2_with fail
  obtain ⟨g1, g2, g3, g4⟩ := kkk_new w a b c
  have K1 := hid g1
  have K2 := hid g2
  have K3 := hid g3
  have B := hid g4
  clear g1 g2 g3 g4
  generalize ((w.alloc (.cells #[.int .i64 a.1, .int .i64 a.2] 27)).alloc (.cells #[.int .i64 b.1, .int .i64 b.2] 27)).alloc (.cells #[.int .i64 c.1, .int .i64 c.2] 27) = W0 at K1 K2 K3 B ⊢
  obtain ⟨g, hg⟩ : ∃ g, rnA l = g := ⟨_, rfl⟩
  have HG : Hid (Ok g) := by rw [← hg]; exact rn_ok l
  have HA := hid hg
  clear hg
  obtain ⟨k, hk⟩ : ∃ k, rnN l = k := ⟨_, rfl⟩
  have HK := hid hk
  clear hk
  refine (run_at g k (by omega) (HH.out.below B.out) HA.out HK.out).mono ?_
  rintro e w4 ⟨x, rfl, h4, b4⟩
  have X1 := hid (hg_new h4)
  replace b4 := q_alloc b4 (.cells #[.slice x.k.o x.k.n x.k.c, .slice x.i.o x.i.n x.i.c, .slice x.f.o x.f.n x.f.c] 25)
  replace K1 := hid (K1.out.below b4)
  replace K2 := hid (K2.out.below b4)
  replace K3 := hid (K3.out.below b4)
  replace B := hid (q_trans B.out b4)
  clear h4 b4
  go_upto_region 4 with fail
  generalize w4.heap.size = p1 at X1 ⊢
  generalize w4.alloc (.cells #[.slice x.k.o x.k.n x.k.c, .slice x.i.o x.i.n x.i.c, .slice x.f.o x.f.n x.f.c] 25) = V at X1 K1 K2 K3 B ⊢
  have CD : Hid (∀ X, Below V.heap.size V X → ∀ r s : P, ∀ d : Bool, dsG g r s = d → Calls Try.prog 23 #[(.agg #[.slice x.k.o x.k.n x.k.c, .slice x.i.o x.i.n x.i.c, .slice x.f.o x.f.n x.f.c]), (.agg #[.int .i64 r.1, .int .i64 r.2]), (.agg #[.int .i64 s.1, .int .i64 s.2])] X fun e w' => e = .returned (.bool d) ∧ Below X.heap.size X w') := fun X q r s d hd => ds_at d (X1.out.has.below q) HG.out hd
  have Ea := hid (gds_irr HG.out a)
  have HV := hid (Below.refl V.heap.size V)
  go_cut [52] from 24 to 52 (fun s52 wx => s52 = .bool false ∧ Hid (Below V.heap.size V wx))
  case first =>
    obtain ⟨x0, x1, x2⟩ := (X1.out.gb.below HV.out).inW.inG
    obtain ⟨a0, a1⟩ := K1.out.below HV.out
    obtain ⟨b0, b1⟩ := K2.out.below HV.out
    obtain ⟨c0, c1⟩ := K3.out.below HV.out
    go_wp2_with fail
    refine (CD.out _ HV.out a a false Ea.out).mono ?_
    rintro e w9 ⟨rfl, b9⟩
    replace HV := hid (q_trans HV.out b9)
    clear b9 x0 x1 x2 a0 a1 b0 b1 c0 c1
    by_cases d1 : dsG g a b = true
    · have E1 := hid d1
      have E2 := hid (gds_anti HG.out d1)
      by_cases d2 : dsG g b c = true
      · have E3 := hid d2
        have E4 := hid (gds_trans HG.out d1 d2)
        clear d1 d2
        obtain ⟨x0, x1, x2⟩ := (X1.out.gb.below HV.out).inW.inG
        obtain ⟨a0, a1⟩ := K1.out.below HV.out
        obtain ⟨b0, b1⟩ := K2.out.below HV.out
        obtain ⟨c0, c1⟩ := K3.out.below HV.out
        go_wp2_with fail
        refine (CD.out _ HV.out a b true E1.out).mono ?_
        rintro e w9 ⟨rfl, b9⟩
        replace HV := hid (q_trans HV.out b9)
        clear b9 x0 x1 x2 a0 a1 b0 b1 c0 c1
        obtain ⟨x0, x1, x2⟩ := (X1.out.gb.below HV.out).inW.inG
        obtain ⟨a0, a1⟩ := K1.out.below HV.out
        obtain ⟨b0, b1⟩ := K2.out.below HV.out
        obtain ⟨c0, c1⟩ := K3.out.below HV.out
        go_wp2_with fail
        refine (CD.out _ HV.out b a false E2.out).mono ?_
        rintro e w9 ⟨rfl, b9⟩
        replace HV := hid (q_trans HV.out b9)
        clear b9 x0 x1 x2 a0 a1 b0 b1 c0 c1
        obtain ⟨x0, x1, x2⟩ := (X1.out.gb.below HV.out).inW.inG
        obtain ⟨a0, a1⟩ := K1.out.below HV.out
        obtain ⟨b0, b1⟩ := K2.out.below HV.out
        obtain ⟨c0, c1⟩ := K3.out.below HV.out
        go_wp2_with fail
        refine (CD.out _ HV.out b c true E3.out).mono ?_
        rintro e w9 ⟨rfl, b9⟩
        replace HV := hid (q_trans HV.out b9)
        clear b9 x0 x1 x2 a0 a1 b0 b1 c0 c1
        obtain ⟨x0, x1, x2⟩ := (X1.out.gb.below HV.out).inW.inG
        obtain ⟨a0, a1⟩ := K1.out.below HV.out
        obtain ⟨b0, b1⟩ := K2.out.below HV.out
        obtain ⟨c0, c1⟩ := K3.out.below HV.out
        go_wp2_with fail
        refine (CD.out _ HV.out a c true E4.out).mono ?_
        rintro e w9 ⟨rfl, b9⟩
        replace HV := hid (q_trans HV.out b9)
        clear b9 x0 x1 x2 a0 a1 b0 b1 c0 c1
        go_wp2_with fail
        go_meet
        exact ⟨rfl, HV.out⟩
      · have E3 : Hid (dsG g b c = false) := by simpa [Hid] using d2
        clear d1 d2
        obtain ⟨x0, x1, x2⟩ := (X1.out.gb.below HV.out).inW.inG
        obtain ⟨a0, a1⟩ := K1.out.below HV.out
        obtain ⟨b0, b1⟩ := K2.out.below HV.out
        obtain ⟨c0, c1⟩ := K3.out.below HV.out
        go_wp2_with fail
        refine (CD.out _ HV.out a b true E1.out).mono ?_
        rintro e w9 ⟨rfl, b9⟩
        replace HV := hid (q_trans HV.out b9)
        clear b9 x0 x1 x2 a0 a1 b0 b1 c0 c1
        obtain ⟨x0, x1, x2⟩ := (X1.out.gb.below HV.out).inW.inG
        obtain ⟨a0, a1⟩ := K1.out.below HV.out
        obtain ⟨b0, b1⟩ := K2.out.below HV.out
        obtain ⟨c0, c1⟩ := K3.out.below HV.out
        go_wp2_with fail
        refine (CD.out _ HV.out b a false E2.out).mono ?_
        rintro e w9 ⟨rfl, b9⟩
        replace HV := hid (q_trans HV.out b9)
        clear b9 x0 x1 x2 a0 a1 b0 b1 c0 c1
        obtain ⟨x0, x1, x2⟩ := (X1.out.gb.below HV.out).inW.inG
        obtain ⟨a0, a1⟩ := K1.out.below HV.out
        obtain ⟨b0, b1⟩ := K2.out.below HV.out
        obtain ⟨c0, c1⟩ := K3.out.below HV.out
        go_wp2_with fail
        refine (CD.out _ HV.out b c false E3.out).mono ?_
        rintro e w9 ⟨rfl, b9⟩
        replace HV := hid (q_trans HV.out b9)
        clear b9 x0 x1 x2 a0 a1 b0 b1 c0 c1
        go_wp2_with fail
        go_meet
        exact ⟨rfl, HV.out⟩
    · have E1 : Hid (dsG g a b = false) := by simpa [Hid] using d1
      clear d1
      obtain ⟨x0, x1, x2⟩ := (X1.out.gb.below HV.out).inW.inG
      obtain ⟨a0, a1⟩ := K1.out.below HV.out
      obtain ⟨b0, b1⟩ := K2.out.below HV.out
      obtain ⟨c0, c1⟩ := K3.out.below HV.out
      go_wp2_with fail
      refine (CD.out _ HV.out a b false E1.out).mono ?_
      rintro e w9 ⟨rfl, b9⟩
      replace HV := hid (q_trans HV.out b9)
      clear b9 x0 x1 x2 a0 a1 b0 b1 c0 c1
      go_wp2_with fail
      go_meet
      exact ⟨rfl, HV.out⟩
  case rest =>
  obtain ⟨rfl, HBc⟩ := hcut
  replace X1 := hid (X1.out.below HBc.out)
  replace K1 := hid (K1.out.below HBc.out)
  replace B := hid (q_trans B.out HBc.out)
  clear HBc CD Ea HV K2 K3
  obtain ⟨x0, x1, x2, _, _, _⟩ := X1.out.gb.inW
  obtain ⟨a0, a1⟩ := K1.out
  go_wp2_with fail
  refine (who_at2 _ _ X1.out.has HG.out rfl rfl).mono ?_
  rintro e w5 ⟨rfl, b5⟩
  replace X1 := hid (X1.out.below b5)
  replace B := hid (q_trans B.out b5)
  clear b5 x0 x1 x2 a0 a1 K1
  cases hw : whB g a with
  | false =>
    clear hw
    go_wp2_with fail
    refine (live_any _).mono ?_
    rintro e w6 ⟨rfl, b6⟩
    replace B := hid (q_trans B.out b6)
    clear b6
    go_wp2_with fail
    go_ret
    exact ⟨rfl, B.out⟩
  | true =>
    have HW := hid (wh_lo HG.out hw)
    clear hw
    obtain ⟨y, hy⟩ : ∃ y, whI g a = y := ⟨_, rfl⟩
    rw [hy] at HW ⊢
    clear hy
    obtain ⟨x0, x1, x2, _, _, _⟩ := X1.out.gb.inW
    obtain ⟨u, hu⟩ : ∃ u, abv g.fr y = u := ⟨_, rfl⟩
    have HU := hid hu
    clear hu
    have HUl : Hid (u.length ≤ 4096) := by
      unfold Hid
      have h1 := abv_len g.fr y
      have h2 := HG.out.max
      rw [HU.out] at h1
      omega
    obtain ⟨m, hm⟩ : ∃ m, u.length = m := ⟨_, rfl⟩
    have HM := hid hm
    have hm4 : m ≤ 4096 := by rw [← hm]; exact HUl.out
    clear hm
    go_wp2_with fail
    refine (abv_at u m X1.out.has HG.out HU.out HM.out).mono ?_
    rintro e w6 ⟨uo, uc, rfl, h6, b6⟩
    have H6 := hid h6
    replace B := hid (q_trans B.out b6)
    clear b6 h6 x0 x1 x2 X1
    go_wp2_with fail
    go_loopw [11, 14] (fun s11 s14 wr => ∃ q : Nat, q ≤ m ∧ s14 = .int .i64 q ∧ s11 = .int .i64 (olB y u q) ∧ Hid (Below w6.heap.size w6 wr)) (fun _ i _ => m - (intOf i).toNat)
    case atStart => exact ⟨0, Nat.zero_le _, rfl, rfl, Below.refl _ _⟩
    case round =>
      obtain ⟨q, hq, rfl, rfl, HB⟩ := hrel
      by_cases hlt : q < m
      · have i1 : (0 : Int) ≤ (q : Int) := by omega
        have i2 : (q : Int) < (m : Int) := by omega
        obtain ⟨ad, rfl, ca⟩ := (H6.out.below HB.out).cell q hlt
        have HD : Hid (Ii u q < olB y u q) := by
          have h := abv_dec (fr := g.fr) HW.out (i := q) (by rw [HU.out, HM.out]; exact hlt)
          rw [HU.out] at h
          exact h
        have HO := hid (ol_succ y u q)
        obtain ⟨v, hv⟩ : ∃ v, olB y u q = v := ⟨_, rfl⟩
        rw [hv] at HD ⊢
        clear hv
        obtain ⟨t, ht⟩ : ∃ t, u.getD q 0 = t := ⟨_, rfl⟩
        rw [ht] at ca
        have HT : Hid (Ii u q = t) := ht
        clear ht
        have hd : ¬ t ≥ v := by have := HD.out; rw [HT.out] at this; omega
        go_wp2_with fail
        go_roundw
        case rel => exact ⟨q + 1, by omega, by go_num, by rw [HO.out, HT.out], HB⟩
        case measure => simp [intOf]; omega
      · obtain rfl : q = m := by omega
        have i2 : ¬ (q : Int) < (q : Int) := by omega
        go_wp2_with fail
        refine (live_any _).mono ?_
        rintro e w7 ⟨rfl, b7⟩
        replace B := hid (q_trans (q_trans B.out HB.out) b7)
        clear b7
        go_wp2_with fail
        go_ret
        exact ⟨rfl, B.out⟩
/-- GHOSTORDER. -/
theorem order_any (ao : Option Addr) (n cap : Nat) (l : List Bi) (a b c : P) (w : World) (HH : Hid (HasZ w ao n cap l)) :
    Calls Try.prog 8 #[.slice ao n cap, (.agg #[.int .i64 a.1, .int .i64 a.2]), (.agg #[.int .i64 b.1, .int .i64 b.2]), (.agg #[.int .i64 c.1, .int .i64 c.2])] w fun e w' => e = .returned (.bool true) ∧ Below w.heap.size w w' := by
  by_cases h : n ≤ 80
  · exact order_in ao n cap l a b c w h HH
  · exact order_long ao n cap a b c w (by omega)
end Go.Proofs.Ytcldnacpddebcaa.Gh
