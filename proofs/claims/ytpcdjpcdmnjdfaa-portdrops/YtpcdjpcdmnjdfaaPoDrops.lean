/- PortDrops: who is dropped does not wait any more; all others do, in their order. -/
import Derived.Test.YtpcdjpcdmnjdfaaPoLv
import Derived.Test.YtpcdjpcdmnjdfaaPoFact
namespace Go.Proofs.Ytpcdjpcdmnjdfaa.Po
open Go.RowKit

set_option maxRecDepth 100000 in
set_option maxHeartbeats 1000000 in
theorem drops_long (K : LiveC) (p : Pt) (y : Hd) (c : Int) (w : World) (h : 100 < y.n) :
    Calls Try.prog 7 #[(.agg #[.int .i64 p.k, .int .i64 p.w, .slice y.o y.n y.c]), .int .i64 c] w fun e w' => e = .returned (.bool true) ∧ Below w.heap.size w w' := by
  have HB := hid (alloc_below w (.cells #[.int .i64 p.k, .int .i64 p.w, .slice y.o y.n y.c] 24))
  have i1 : (y.n : Int) > 100 := by omega
  clear h
  go_enter Try.func7, Try.ntmps7
  go_wp2_with fail
  refine (K _).mono ?_
  rintro e w2 ⟨rfl, b⟩
  replace HB := hid (q_trans HB.out b)
  clear b
  go_wp2_with fail
  go_ret
  exact ⟨rfl, HB.out⟩
set_option maxRecDepth 100000 in
set_option maxHeartbeats 1000000 in
theorem drops_bad (K : LiveC) (p : Pt) (y : Hd) (c : Int) (w : World) (h : y.n ≤ 100) (hk : okP p = false) (HY : Hid (HasQ w y p.l)) :
    Calls Try.prog 7 #[(.agg #[.int .i64 p.k, .int .i64 p.w, .slice y.o y.n y.c]), .int .i64 c] w fun e w' => e = .returned (.bool true) ∧ Below w.heap.size w w' := by
  have i1 : ¬ (y.n : Int) > 100 := by omega
  go_enter Try.func7, Try.ntmps7
  go_wp2_with fail
  have HP := hid (pb_new w p y)
  have HB := hid (alloc_below w (.cells #[.int .i64 p.k, .int .i64 p.w, .slice y.o y.n y.c] 24))
  generalize w.alloc (.cells #[.int .i64 p.k, .int .i64 p.w, .slice y.o y.n y.c] 24) = W at HP HB ⊢
  refine (pcheck_any p y W (by omega) (HY.out.below HB.out)).mono ?_
  rw [ck_no hk]
  rintro e w1 ⟨rfl, b⟩
  replace HB := hid (q_trans HB.out b)
  clear b hk
  go_wp2_with (first | (go_at_call 13; refine (num_any _ _).mono ?_; rintro e w8 ⟨rfl, hw⟩; rw [hw]; clear hw w8) | (go_at_call 9; refine (K _).mono ?_; rintro e w9 ⟨rfl, b9⟩))
  go_ret
  exact ⟨rfl, q_trans HB.out b9⟩
/-- What is known within PortDrops. -/
structure Dp (w wr : World) (p q : Pt) (y z : Hd) (b : Nat) : Prop where
  sp : Pb wr w.heap.size p y
  sq : Hp wr b q z
  low : Below w.heap.size w wr
theorem Dp.below {w wr w' : World} {p q : Pt} {y z : Hd} {b : Nat} (h : Dp w wr p q y z b) (k : Below wr.heap.size wr w') : Dp w w' p q y z b := ⟨h.sp.below k, h.sq.below k, q_trans h.low k⟩
theorem Dp.lowB {w W wr : World} {p q : Pt} {y z : Hd} {b : Nat} (h : Dp w W p q y z b) (k : Below W.heap.size W wr) : Dp w wr p q y z b := h.below k
set_option maxRecDepth 100000 in
set_option maxHeartbeats 4000000 in
theorem drops_in (K : LiveC) (p : Pt) (y : Hd) (c : Int) (w : World) (h : y.n ≤ 100) (hk : okP p = true) (HY : Hid (HasQ w y p.l)) :
    Calls Try.prog 7 #[(.agg #[.int .i64 p.k, .int .i64 p.w, .slice y.o y.n y.c]), .int .i64 c] w fun e w' => e = .returned (.bool true) ∧ Below w.heap.size w w' := by
  have HN := hid HY.out.len
  have i1 : ¬ (y.n : Int) > 100 := by omega
  have HF := hid (dr_fact (c := c) hk)
  go_enter Try.func7, Try.ntmps7
  go_wp2_with fail
  have HP := hid (pb_new w p y)
  have HB := hid (alloc_below w (.cells #[.int .i64 p.k, .int .i64 p.w, .slice y.o y.n y.c] 24))
  generalize w.alloc (.cells #[.int .i64 p.k, .int .i64 p.w, .slice y.o y.n y.c] 24) = W at HP HB ⊢
  refine (pcheck_any p y W (by omega) (HY.out.below HB.out)).mono ?_
  rw [ck_yes hk]
  rintro e w1 ⟨rfl, b⟩
  replace HP := hid (HP.out.below b)
  replace HB := hid (q_trans HB.out b)
  clear b hk
  have HD := hid (drop_any p y c w1 (by omega) (HY.out.below HB.out))
  have HD2 : Hid (∀ (X : World) (u : Hd), HasQ X u (drP p c).l → Calls Try.prog 19 #[(.agg #[.int .i64 (drP p c).k, .int .i64 (drP p c).w, .slice u.o u.n u.c]), .int .i64 c] X fun e w' => ∃ z : Hd, e = .returned (.tuple #[(.agg #[.int .i64 (drP p c).k, .int .i64 (drP p c).w, .slice z.o z.n z.c]), .bool false]) ∧ Ans X w' z (drP p c).l) := fun X u hu => by
    have g := drop_any (drP p c) u c X (by have h1 := hu.len; have h2 := HF.out.1; have h3 := fl_len c p.l; have h4 := HN.out; rw [h2] at h1; omega) hu
    rwa [HF.out.2.2.1, HF.out.2.2.2.1] at g
  have HC2 : Hid (ckE (drP p c) = 0 ∧ (drP p c).w = p.w ∧ (drP p c).l = fl c p.l) := ⟨ck_yes HF.out.2.2.2.2.1, HF.out.2.2.2.2.2, HF.out.1⟩
  have HOk := hid HF.out.2.1
  clear HF
  generalize drP p c = d at HD HD2 HC2
  generalize drB p c = ok at HD HOk
  have c0 := HP.out.c0
  have c1 := HP.out.c1
  have c2 := HP.out.c2
  go_wp2_with (first | (go_at_call 13; refine (num_any _ _).mono ?_; rintro e w8 ⟨rfl, hw⟩; rw [hw]; clear hw w8) | fail)
  refine HD.out.mono ?_
  rintro e w2 ⟨z, rfl, hz⟩
  have HG : Hid (Dp w (w2.alloc (.cells #[.int .i64 d.k, .int .i64 d.w, .slice z.o z.n z.c] 24)) p d y z w2.heap.size) := ⟨(HP.out.below hz.low).below (alloc_below _ _), hp_new hz.has, q_alloc (q_trans HB.out hz.low) _⟩
  clear hz HD HP HB c0 c1 c2
  go_upto_region 4 with fail
  generalize w2.heap.size = b at HG ⊢
  generalize w2.alloc (.cells #[.int .i64 d.k, .int .i64 d.w, .slice z.o z.n z.c] 24) = W2 at HG ⊢
  go_wp2_with fail
  go_loopw [7, 8] (fun s i wr => ∃ (q : Nat) (ao : Option Addr) (m cap : Nat), q ≤ y.n ∧ i = .int .i64 q ∧ s = .slice ao m cap ∧ Hid (MineQ wr W2.heap.size ⟨ao, m, cap⟩ (fl c (p.l.take q))) ∧ Hid (Below W2.heap.size W2 wr)) (fun _ i _ => y.n - (intOf i).toNat)
  case atStart => exact ⟨0, none, 0, 0, Nat.zero_le _, rfl, rfl, mineQ_nil _ _, Below.refl _ _⟩
  case round =>
    obtain ⟨q, ao, m, cap, hq, rfl, rfl, HM, HL⟩ := hrel
    have HG2 := hid (HG.out.below HL.out)
    have c2 := HG2.out.sp.c2
    have hm : m ≤ 100 := by
      have h1 : m = (fl c (p.l.take q)).length := HM.out.1
      have h2 := fl_len c (p.l.take q)
      have h3 : (p.l.take q).length ≤ p.l.length := by simp; omega
      have := HN.out
      omega
    by_cases hlt : q < y.n
    · have j1 : (0 : Int) ≤ (q : Int) := by omega
      have j2 : (q : Int) < (y.n : Int) := by omega
      have HQ : Hid (q < p.l.length) := by have := HN.out; unfold Hid; omega
      obtain ⟨a, ea, ca⟩ := (HY.out.below HG2.out.low).at q hlt
      rw [ea] at c2
      obtain ⟨x, hx⟩ : ∃ x, p.l.getD q z0 = x := ⟨_, rfl⟩
      have HX := hid hx
      rw [hx] at ca
      obtain ⟨a0, a1, a2, a3, a4, a5, a6, a7⟩ := ca
      clear hx ea
      have HT : Hid (fl c (p.l.take (q + 1)) = if x.c = c then fl c (p.l.take q) else fl c (p.l.take q) ++ [x]) := by unfold Hid; rw [take_snoc _ _ HQ.out, HX.out, fl_snoc]
      by_cases hxc : x.c = c
      · have e1 : (x.c != c) = false := by simp [hxc]
        rw [if_pos hxc] at HT
        clear hxc
        go_wp2_with fail
        go_roundw
        case rel => exact ⟨q + 1, ao, m, cap, by omega, by go_num, rfl, by rw [HT.out]; exact HM.out, HL⟩
        case measure => simp [intOf]; omega
      · have e1 : (x.c != c) = true := by simp [hxc]
        rw [if_neg hxc] at HT
        clear hxc
        go_wp2_with (at_builtin; go_loud (refine wpList_append_row _ rfl (.tmp 43) (.tmp 49) 22 28 _ 8 64 rfl Try.underlying22 infoW rfl (by decide) (by decide) W2.heap.size _ m (wts (fl c (p.l.take q))) rfl (HM.out.below (alloc_below wr _)).2 (some ⟨wr.heap.size, 0, none⟩) 1 1 (wts [x]) rfl rfl (fun h => by cases h) (one_wt wr x 28) (wts_one _) (by omega) (q_alloc HL.out _).size ?_; intro ao6 cap6 w6 own6 grow6; apply Hid.out))
        have HM6 := hid (MineQ.append (k := [x]) (y := ⟨ao, m, cap⟩) (HM.out.below (alloc_below wr _)) (q_alloc HL.out _).size rfl own6 grow6)
        have HL6 : Hid (Below W2.heap.size W2 w6) := (q_alloc HL.out _).trans HM6.out.2
        clear own6 grow6
        unfold Hid
        go_wp2_with fail
        go_roundw
        case rel => exact ⟨q + 1, ao6, m + 1, cap6, by omega, by go_num, rfl, by rw [HT.out]; exact HM6.out.1, HL6⟩
        case measure => simp [intOf]; omega
    · obtain rfl : q = y.n := by omega
      have HTF : Hid (fl c (p.l.take y.n) = fl c p.l) := by unfold Hid; rw [HN.out, List.take_length]
      rw [HTF.out] at HM
      have HH := hid HM.out.has
      have HML : Hid (m = (fl c p.l).length) := HM.out.1
      have d0 := HG2.out.sq.pb.c0
      have d1 := HG2.out.sq.pb.c1
      have d2 := HG2.out.sq.pb.c2
      clear HG HL HM
      go_wp2_with fail
      refine (HD2.out _ z HG2.out.sq.has).mono ?_
      rintro e w3 ⟨u, rfl, hu⟩
      have b3 := q_trans hu.low (alloc_below w3 (.cells #[.int .i64 d.k, .int .i64 d.w, .slice u.o u.n u.c] 24))
      have HU := hid (hp_new hu.has)
      replace HG2 := hid (HG2.out.below b3)
      replace HH := hid (HH.out.below b3)
      clear hu b3 c2 d0 d1 d2 HD2
      go_upto_region 11 with fail
      generalize w3.heap.size = b2 at HU ⊢
      generalize w3.alloc (.cells #[.int .i64 d.k, .int .i64 d.w, .slice u.o u.n u.c] 24) = V at HU HG2 HH ⊢
      have hcmp : (ok == decide ((m : Int) < (y.n : Int))) = true := by
        rw [HOk.out]
        have h1 := HML.out
        have h2 := HN.out
        simp only [beq_iff_eq]
        congr 1
        rw [eq_iff_iff]
        omega
      have hcmp2 : (ok == decide (m < y.n)) = true := by
        rw [← hcmp]
        congr 2
        rw [eq_iff_iff]
        omega
      have C1 : Hid (∀ X, Below V.heap.size V X → Calls Try.prog 12 #[(.agg #[.int .i64 d.k, .int .i64 d.w, .slice u.o u.n u.c]), (.agg #[.int .i64 d.k, .int .i64 d.w, .slice z.o z.n z.c])] X fun e w' => e = .returned (.bool true) ∧ Below X.heap.size X w') := fun X b => by
        have h := rsame_any d d u z X (by have h1 := HU.out.has.len; have h2 := HC2.out.2.2; have h3 := fl_len c p.l; have h4 := HN.out; rw [h2] at h1; omega) (HU.out.has.below b) (HG2.out.sq.has.below b)
        rwa [eqP_refl] at h
      have C2 : Hid (∀ X, Below V.heap.size V X → Calls Try.prog 14 #[(.agg #[.int .i64 d.k, .int .i64 d.w, .slice z.o z.n z.c])] X fun e w' => e = .returned (.int .i64 0) ∧ Below X.heap.size X w') := fun X b => by
        have h := pcheck_any d z X (by have h1 := HG2.out.sq.has.len; have h2 := HC2.out.2.2; have h3 := fl_len c p.l; have h4 := HN.out; rw [h2] at h1; omega) (HG2.out.sq.has.below b)
        rwa [HC2.out.1] at h
      have C3 : Hid (∀ X, Below V.heap.size V X → Calls Try.prog 12 #[.agg #[.int .i64 0, .int .i64 0, .slice z.o z.n z.c], .agg #[.int .i64 0, .int .i64 0, .slice ao m cap]] X fun e w' => e = .returned (.bool true) ∧ Below X.heap.size X w') := fun X b => by
        have h := rsame_any ⟨0, 0, fl c p.l⟩ ⟨0, 0, fl c p.l⟩ z ⟨ao, m, cap⟩ X (by have h1 := HG2.out.sq.has.len; have h2 := HC2.out.2.2; have h3 := fl_len c p.l; have h4 := HN.out; rw [h2] at h1; omega) (by have g := HG2.out.sq.has.below b; rw [HC2.out.2.2] at g; exact g) (HH.out.below b)
        rwa [eqP_refl] at h
      have hww : (d.w == p.w) = true := by simp [HC2.out.2.1]
      have BV := hid (Below.refl V.heap.size V)
      have p1 := HG2.out.sp.c1
      have p2 := HG2.out.sp.c2
      have d0 := HG2.out.sq.pb.c0
      have d1 := HG2.out.sq.pb.c1
      have d2 := HG2.out.sq.pb.c2
      have u0 := HU.out.pb.c0
      have u1 := HU.out.pb.c1
      have u2 := HU.out.pb.c2
      go_wp2_with fail
      refine (C1.out _ BV.out).mono ?_
      rintro e w4 ⟨rfl, b4⟩
      replace BV := hid (q_trans BV.out b4)
      clear b4 p1 p2 d0 d1 d2 u0 u1 u2
      have p1 := (HG2.out.sp.below BV.out).c1
      have d0 := (HG2.out.sq.pb.below BV.out).c0
      have d1 := (HG2.out.sq.pb.below BV.out).c1
      have d2 := (HG2.out.sq.pb.below BV.out).c2
      go_wp2_with fail
      refine (C2.out _ BV.out).mono ?_
      rintro e w5 ⟨rfl, b5⟩
      replace BV := hid (q_trans BV.out b5)
      clear b5 p1 d0 d1 d2
      have p1 := (HG2.out.sp.below BV.out).c1
      have d1 := (HG2.out.sq.pb.below BV.out).c1
      have d2 := (HG2.out.sq.pb.below BV.out).c2
      go_wp2_with (first | (go_at_call 13; refine (num_any _ _).mono ?_; rintro e w8 ⟨rfl, hw⟩; rw [hw]; clear hw w8) | fail)
      refine (C3.out _ BV.out).mono ?_
      rintro e w6 ⟨rfl, b6⟩
      replace BV := hid (q_trans BV.out b6)
      clear b6 p1 d1 d2
      have p1 := (HG2.out.sp.below BV.out).c1
      have d1 := (HG2.out.sq.pb.below BV.out).c1
      go_wp2_with fail
      refine (K _).mono ?_
      rintro e w7 ⟨rfl, b7⟩
      replace BV := hid (q_trans BV.out b7)
      clear b7
      go_wp2_with fail
      go_ret
      exact ⟨rfl, q_trans HG2.out.low BV.out⟩
theorem drops_any (K : LiveC) (p : Pt) (y : Hd) (c : Int) (w : World) (HY : HasQ w y p.l) :
    Calls Try.prog 7 #[(.agg #[.int .i64 p.k, .int .i64 p.w, .slice y.o y.n y.c]), .int .i64 c] w fun e w' => e = .returned (.bool true) ∧ Below w.heap.size w w' := by
  by_cases h : 100 < y.n
  · exact drops_long K p y c w h
  · cases hk : okP p with
    | false => exact drops_bad K p y c w (by omega) hk HY
    | true => exact drops_in K p y c w (by omega) hk HY
end Go.Proofs.Ytpcdjpcdmnjdfaa.Po
