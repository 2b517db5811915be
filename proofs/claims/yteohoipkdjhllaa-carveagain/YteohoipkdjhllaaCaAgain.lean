/- CarveAgain answers true. -/
import Derived.Test.YteohoipkdjhllaaCaGives
namespace Go.Proofs.Yteohoipkdjhllaa.Ca
open Go.RowKit

set_option maxRecDepth 100000 in
set_option maxHeartbeats 8000000 in
theorem again_long (x : X) (v : Int) (a0 a1 : Option Addr) (n0 c0 n1 c1 : Nat) (w : World) (h0 : n0 ≤ 9223372036854775807) (h1 : n1 ≤ 9223372036854775807) (h : ¬ (n0 ≤ 60 ∧ n1 ≤ 60)) :
    Calls Try.prog 6 #[(.agg #[.int .i64 x.1, .int .i64 x.2]), .int .i64 v, .slice a0 n0 c0, .slice a1 n1 c1] w fun e w' => e = .returned (.bool true) ∧ Below w.heap.size w w' := by
  by_cases h2 : n0 ≤ 60
  · have h3 : ¬ n1 ≤ 60 := fun e => h ⟨h2, e⟩
    clear h
    go_enter Try.func6, Try.ntmps6
    go_wp2_with (go_at_call 20; refine (live_any _).mono ?_; rintro e w9 ⟨rfl, b9⟩)
    go_ret
    exact ⟨rfl, q_trans (alloc_below _ _) b9⟩
  · clear h
    go_enter Try.func6, Try.ntmps6
    go_wp2_with (go_at_call 20; refine (live_any _).mono ?_; rintro e w9 ⟨rfl, b9⟩)
    go_ret
    exact ⟨rfl, q_trans (alloc_below _ _) b9⟩
/-- What stands behind the first two calls. -/
structure Ag (w W : World) (x : X) (a0 a1 : Option Addr) (n0 c0 n1 c1 : Nat) (l m : List Int) (ao1 ao2 : Option Addr) (cap1 cap2 : Nat) (L1 L2 : List X) : Prop where
  low : Below w.heap.size w W
  x : Bx W w.heap.size x
  l : Has W a0 n0 c0 l
  m : Has W a1 n1 c1 m
  a : HasX W ao1 L1.length cap1 L1
  b : HasX W ao2 L2.length cap2 L2
theorem Ag.below {w W W' : World} {x : X} {a0 a1 : Option Addr} {n0 c0 n1 c1 : Nat} {l m : List Int} {ao1 ao2 : Option Addr} {cap1 cap2 : Nat} {L1 L2 : List X} (h : Ag w W x a0 a1 n0 c0 n1 c1 l m ao1 ao2 cap1 cap2 L1 L2) (k : Below W.heap.size W W') : Ag w W' x a0 a1 n0 c0 n1 c1 l m ao1 ao2 cap1 cap2 L1 L2 :=
  ⟨q_trans h.low k, h.x.below k, h.l.below k, h.m.below k, h.a.below k, h.b.below k⟩
set_option maxRecDepth 100000 in
set_option maxHeartbeats 8000000 in
theorem again_short (x : X) (v : Int) (a0 a1 : Option Addr) (n0 c0 n1 c1 : Nat) (l m : List Int) (w : World) (h0 : n0 ≤ 60) (h1 : n1 ≤ 60) (H0 : Hid (Has w a0 n0 c0 l)) (H1 : Hid (Has w a1 n1 c1 m)) :
    Calls Try.prog 6 #[(.agg #[.int .i64 x.1, .int .i64 x.2]), .int .i64 v, .slice a0 n0 c0, .slice a1 n1 c1] w fun e w' => e = .returned (.bool true) ∧ Below w.heap.size w w' := by
  obtain ⟨L1, hL1⟩ : ∃ L, mnL x v l = L := ⟨_, rfl⟩
  obtain ⟨t1, ht1⟩ : ∃ t, mnW x v l = t := ⟨_, rfl⟩
  obtain ⟨f1, hf1⟩ : ∃ f, mnE x v l = f := ⟨_, rfl⟩
  obtain ⟨L2, hL2⟩ : ∃ L, mnL x v (l ++ m) = L := ⟨_, rfl⟩
  obtain ⟨t2, ht2⟩ : ∃ t, mnW x v (l ++ m) = t := ⟨_, rfl⟩
  obtain ⟨f2, hf2⟩ : ∃ f, mnE x v (l ++ m) = f := ⟨_, rfl⟩
  obtain ⟨L3, hL3⟩ : ∃ L, mnL x t1 m = L := ⟨_, rfl⟩
  obtain ⟨t3, ht3⟩ : ∃ t, mnW x t1 m = t := ⟨_, rfl⟩
  obtain ⟨f3, hf3⟩ : ∃ f, mnE x t1 m = f := ⟨_, rfl⟩
  obtain ⟨N, hN⟩ : ∃ N, n0 + n1 = N := ⟨_, rfl⟩
  have hN2 : N ≤ 120 := by omega
  have HLN : Hid (N = (l ++ m).length) := by unfold Hid; rw [List.length_append, ← H0.out.len, ← H1.out.len, hN]
  have HM1 := hid (fun (W : World) (ao : Option Addr) (cap : Nat) (h : Has W ao n0 cap l) => is_many (w := W) (by omega) h hL1 ht1 hf1)
  have HM2 := hid (fun (W : World) (ao : Option Addr) (cap : Nat) (h : Has W ao N cap (l ++ m)) => is_many (w := W) (by omega) h hL2 ht2 hf2)
  have HM3 := hid (fun (W : World) (ao : Option Addr) (cap : Nat) (h : Has W ao n1 cap m) => is_many (w := W) (by omega) h hL3 ht3 hf3)
  have HL1 := hid hL1
  have HT1 := hid ht1
  have HF1 := hid hf1
  have HL2 := hid hL2
  have HT2 := hid ht2
  have HF2 := hid hf2
  have HL3 := hid hL3
  have HT3 := hid ht3
  have HF3 := hid hf3
  have HNN := hid hN
  clear hL1 ht1 hf1 hL2 ht2 hf2 hL3 ht3 hf3 hN
  go_enter Try.func6, Try.ntmps6
  go_wp2_with fail
  have X0 := hid (bx_new w x 23)
  have B0 := hid (alloc_below w (.cells #[.int .i64 x.1, .int .i64 x.2] 23))
  refine (HM1.out _ _ _ (H0.out.below B0.out)).mono ?_
  rintro e W ⟨ao1, cap1, rfl, hx1, b1⟩
  have X1 := hid (X0.out.below b1)
  have B1 := hid (q_trans B0.out b1)
  have HX1 := hid hx1
  clear b1 hx1 X0 B0
  go_upto_region 1 with fail
  have hS : SX w.heap.size x W := ⟨X1.out.c0, X1.out.c1⟩
  have H4 := hid (H0.out.below B1.out)
  have K4 := hid (H1.out.below B1.out)
  go_cut [12, 13, 14] from 35 to 46 (fun s12 s13 s14 wx => ∃ (ao : Option Addr) (cap : Nat), s12 = .slice ao L2.length cap ∧ s13 = .int .i64 t2 ∧ s14 = .int .i64 f2 ∧ Hid (HasX wx ao L2.length cap L2) ∧ Hid (Below W.heap.size W wx))
  case first =>
    go_region_held3 (SX w.heap.size x) (first | with_reducible assumption | with_reducible exact HS3.out | with_reducible exact HS2.out | with_reducible exact HS1.out | with_reducible exact sx_drew hS | with_reducible exact sx_alloc (sx_drew hS) | with_reducible exact sx_drew (sx_alloc hS) | with_reducible exact sx_alloc hS | fail)
      (first
        | (refine step_ints _ (by rfl) (.tmp 38) (.tmp 39) (by rfl) W.heap.size (.slice (some ⟨W.heap.size, 0, none⟩) 0 0) 0 [] (by rfl) ((own0 W 3 1).drew) a0 n0 c0 l (by rfl) H4.out.len H4.out.nil (H4.out.row.below ((alloc_below W _).drew)) n0 (by omega) l (by rfl) (by omega) (by simp) ?_; intro aoA capA w4 own4 grow4; have HB4 : Hid (Below W.heap.size W w4) := (grow_below ((alloc_below W _).drew) grow4 (Nat.le_refl _)); have HS1 : Hid (SX w.heap.size x w4) := (sx_keep HB4.out hS); have HO4 := hid own4; have HR4 := hid (K4.out.row.below HB4.out); clear own4 grow4)
        | (refine step_ints _ (by rfl) (.tmp 40) (.tmp 41) (by rfl) W.heap.size (.slice aoA n0 capA) n0 l (by rfl) HO4.out a1 n1 c1 m (by rfl) K4.out.len K4.out.nil HR4.out N HNN.out (l ++ m) (by rfl) (by omega) HB4.out.size ?_; intro aoB capB w5 own5 grow5; have HB5 : Hid (Below W.heap.size W w5) := (HB4.out.grown grow5 HB4.out.size (fun k e => (HO4.out.lt k e).1)); have HS2 : Hid (SX w.heap.size x w5) := (sx_keep HB5.out hS); have HI5 := hid (own_hasI own5); clear own5 grow5)
        | (go_at_call 23; refine (HM2.out _ _ _ HI5.out).mono ?_; rintro e w6 ⟨ao6, cap6, rfl, h6, b6⟩; have HB6 := hid (q_trans HB5.out b6); have HX6 := hid h6; have HS3 : Hid (SX w.heap.size x w6) := (sx_keep HB6.out hS); clear h6 b6)
        | fail)
    all_goals (try go_wp2_with fail)
    all_goals go_meet
    all_goals exact ⟨_, _, rfl, rfl, rfl, HX6, HB6⟩
  case rest =>
    obtain ⟨ao2, cap2, rfl, rfl, rfl, HX2, HBc⟩ := hcut
    have HG : Hid (Ag w wc x a0 a1 n0 c0 n1 c1 l m ao1 ao2 cap1 cap2 L1 L2) := ⟨q_trans B1.out HBc.out, X1.out.below HBc.out, H4.out.below HBc.out, K4.out.below HBc.out, HX1.out.below HBc.out, HX2.out⟩
    clear hS H4 K4 X1 B1 HX1 HX2 HBc HM1 HM2
    by_cases hf0 : f1 = 0
    · have HE := hid (mn_two (x := x) (w := v) (l := l) m (HF1.out.trans hf0))
      have HTw := hid (fun k => mn_twoL (x := x) (w := v) (l := l) (m := m) (HF1.out.trans hf0) k)
      rw [HF2.out, HT1.out, HF3.out] at HE
      rw [HT1.out, HF3.out, HL2.out, HT2.out, HL1.out, HL3.out, HT3.out] at HTw
      have e1 := HE.out
      subst e1
      subst hf0
      obtain ⟨p0, p1, -, -⟩ := HG.out.x
      go_wp2_with (go_at_call 11; refine (num_any _ _).mono ?_; rintro e w' ⟨rfl, hw⟩; rw [hw]; clear hw w')
      refine (HM3.out _ _ _ HG.out.m).mono ?_
      rintro e w7 ⟨ao3, cap3, rfl, hx3, b7⟩
      replace HG := hid (HG.out.below b7)
      have HX3 := hid hx3
      clear hx3 b7 p0 p1
      by_cases hg0 : f2 = 0
      · obtain ⟨e2, e3⟩ := HTw.out hg0
        subst e3
        have HL := hid e2
        clear e2
        subst hg0
        have q2 : (t2 == t2) = true := by simp
        have Z1 : Hid (L1.length ≤ 60) := by have := mn_len x v l; rw [HL1.out] at this; have := H0.out.len; unfold Hid; omega
        have Z3 : Hid (L3.length ≤ 60) := by have := mn_len x t1 m; rw [HL3.out] at this; have := H1.out.len; unfold Hid; omega
        have K1 : Hid ((exts L1).length = L1.length * 2) := len_exts _
        have K3 : Hid ((exts L3).length = L3.length * 2) := len_exts _
        have R1 := hid (HG.out.a.row.below (alloc_below w7 (.cells #[] 23)))
        have NA := hid HG.out.a.nil
        go_wp2_with (first | (go_at_call 11; refine (num_any _ _).mono ?_; rintro e w' ⟨rfl, hw⟩; rw [hw]; clear hw w') | (at_builtin; go_loud (refine wpList_append_row_g _ (by rfl) (.tmp 107) (.tmp 108) 37 23 _ 2 16 rfl Try.underlying37 infoX rfl (by decide) (by decide) w7.heap.size _ 0 [] rfl (own0 w7 23 2) ao1 L1.length cap1 (exts L1) rfl K1.out NA.out R1.out (exts_one _) (by have := Z1.out; omega) (alloc_below w7 _).size ?_; intro ao8 cap8 w8 own8 grow8; apply Hid.out)))
        rw [Nat.zero_add, List.nil_append] at own8
        have O8 := hid own8
        have L8 := hid (grow_below (alloc_below w7 _) grow8 (Nat.le_refl _))
        have HX8 := hid (HX3.out.below L8.out)
        have R3 := hid HX8.out.row
        have N3 := hid HX8.out.nil
        have S8 := hid L8.out.size
        clear own8 grow8 R1 NA HX3
        unfold Hid
        go_wp2_with (at_builtin; go_loud (refine wpList_append_row_g _ (by rfl) (.tmp 109) (.tmp 110) 37 23 _ 2 16 rfl Try.underlying37 infoX rfl (by decide) (by decide) w7.heap.size _ L1.length (exts L1) rfl O8.out ao3 L3.length cap3 (exts L3) rfl K3.out N3.out R3.out (exts_one _) (by have := Z1.out; have := Z3.out; omega) S8.out ?_; intro ao9 cap9 w9 own9 grow9; apply Hid.out))
        have HA9 : Hid (HasX w9 ao9 (L1.length + L3.length) cap9 L2) := by
          rw [HL.out]
          exact own_hasX (by rw [exts_app]; exact own9) (by simp)
        have L9 := hid ((Below.refl w7.heap.size w8).grown grow9 S8.out (fun k e => (O8.out.lt k e).1))
        have LW := hid (L8.out.trans L9.out)
        have HB9 : Hid (HasX w9 ao2 L2.length cap2 L2 ∧ Below w.heap.size w w9) := ⟨(HG.out.below LW.out).b, (HG.out.below LW.out).low⟩
        clear own9 grow9
        unfold Hid
        go_wp2_with fail
        refine (same_yes (by have := Z1.out; have := Z3.out; have := HL.out; rw [this]; simp; omega) HB9.out.1 HA9.out).mono ?_
        rintro e w10 ⟨rfl, b10⟩
        go_wp2_with (go_at_call 20; refine (live_any _).mono ?_; rintro e w11 ⟨rfl, b11⟩)
        go_ret
        exact ⟨rfl, q_trans (q_trans HB9.out.2 b10) b11⟩
      · have hb : (f2 != 0) = true := by simp [hg0]
        have HN := hid (mn_no (x := x) (w := v) (l := l ++ m) (by rw [HF2.out]; exact hg0))
        have HN3 := hid (mn_no (x := x) (w := t1) (l := m) (by rw [HF3.out]; exact hg0))
        rw [HL2.out, HT2.out] at HN
        rw [HL3.out, HT3.out] at HN3
        obtain ⟨-, e3⟩ := HN.out
        obtain ⟨-, e4⟩ := HN3.out
        subst e3 e4
        have q1 : (f2 == f2) = true := by simp
        have q2 : (t2 == t2) = true := by simp
        have q3 : (t3 == t3) = true := by simp
        clear hg0
        go_wp2_with (first | (go_at_call 11; refine (num_any _ _).mono ?_; rintro e w' ⟨rfl, hw⟩; rw [hw]; clear hw w') | (go_at_call 20; refine (live_any _).mono ?_; rintro e w9 ⟨rfl, b9⟩))
        go_ret
        exact ⟨rfl, q_trans HG.out.low b9⟩
    · have hb : (f1 != 0) = true := by simp [hf0]
      have HE := hid (run_err (x := x) (w := v) (l := l) m (by rw [HF1.out]; exact hf0))
      rw [HF2.out, HF1.out] at HE
      have e1 := HE.out
      subst e1
      have HN := hid (mn_no (x := x) (w := v) (l := l ++ m) (by rw [HF2.out]; exact hf0))
      rw [HL2.out, HT2.out] at HN
      obtain ⟨e2, e3⟩ := HN.out
      subst e2 e3
      have q1 : (f2 == f2) = true := by simp
      have q2 : (t2 == t2) = true := by simp
      clear hf0
      go_wp2_with (first | (go_at_call 11; refine (num_any _ _).mono ?_; rintro e w' ⟨rfl, hw⟩; rw [hw]; clear hw w') | (go_at_call 20; refine (live_any _).mono ?_; rintro e w9 ⟨rfl, b9⟩))
      go_ret
      exact ⟨rfl, q_trans HG.out.low b9⟩
/-- CarveAgain ANSWERS true. -/
theorem again_any (x : X) (v : Int) (a0 : Option Addr) (l : List Int) (n0 c0 : Nat) (a1 : Option Addr) (m : List Int) (n1 c1 : Nat) (w : World) (hn0 : n0 ≤ 9223372036854775807) (H0 : Has w a0 n0 c0 l) (hn1 : n1 ≤ 9223372036854775807) (H1 : Has w a1 n1 c1 m) :
    Calls Try.prog 6 #[(.agg #[.int .i64 x.1, .int .i64 x.2]), .int .i64 v, .slice a0 n0 c0, .slice a1 n1 c1] w fun e w' => e = .returned (.bool true) ∧ Below w.heap.size w w' := by
  by_cases h : n0 ≤ 60 ∧ n1 ≤ 60
  · exact again_short x v a0 a1 n0 c0 n1 c1 l m w h.1 h.2 H0 H1
  · exact again_long x v a0 a1 n0 c0 n1 c1 w hn0 hn1 h
end Go.Proofs.Yteohoipkdjhllaa.Ca
