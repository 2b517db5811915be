/- What Signal does. -/
import Derived.Test.YtpcdjpcdmnjdfabPoW6
namespace Go.Proofs.Ytpcdjpcdmnjdfab.Po
open Go.RowKit

theorem HasQ.setIn {w : World} {b j : Nat} {p : Pt} {y z : Hd} {l : List Wt} (g : Pb w b p y) (h : HasQ w z l) (u : Value) : HasQ (w.setCell ⟨b, j, none⟩ u) z l :=
  h.kept (kept_set (fun i => i = b) w ⟨b, j, none⟩ u rfl) (g.off h.row)
theorem B3.setO {w wr : World} {p q : Pt} {y z : Hd} {v : Wt} {b j : Nat} (h : B3 w wr p q y z v) (hb : w.heap.size + 2 < b) (u : Value) : B3 w (wr.setCell ⟨b, j, none⟩ u) p q y z v :=
  have kp : Kept (fun i => i = b) wr (wr.setCell ⟨b, j, none⟩ u) := kept_set (fun i => i = b) wr ⟨b, j, none⟩ u rfl
  ⟨h.a.kept kp (by omega), h.r.kept kp (by omega), h.s.kept kp (by omega), q_set h.low (by show w.heap.size ≤ b; omega) u⟩
theorem ans3 {w w1 : World} {p : Pt} {y : Hd} {q : Pt} {z : Hd} {v : Wt} {l : List Wt} (h : B3 w w1 p p0 y nilH z0) (hq : HasQ w1 z l) (hn : Off (fun i => i < w.heap.size + 3) z.o (wts l)) : Ans w (put8 (put3 w1 (w.heap.size + 1) q z) (w.heap.size + 2) v) z l :=
  ⟨(hq.set3 hn (by omega) q z).set8 hn (by omega) v, off_less hn (by omega), put8_low (put3_low h.low (Nat.le_add_right _ 1)) (Nat.le_add_right _ 2)⟩
theorem ret3 {q q' : Pt} {z : Hd} {x x' : Wt} {b b' : Bool} (h1 : q' = q) (h2 : x' = x) (h3 : b' = b) : Ending.returned (.tuple #[(.agg #[.int .i64 q.k, .int .i64 q.w, .slice z.o z.n z.c]), (.agg #[.int .i64 x.c, .int .i64 x.v, .int .i64 x.b, .bool x.h, .int .i64 x.o, .int .i64 x.s, .int .i64 x.g, .bool x.t]), .bool b]) = .returned (.tuple #[(.agg #[.int .i64 q'.k, .int .i64 q'.w, .slice z.o z.n z.c]), (.agg #[.int .i64 x'.c, .int .i64 x'.v, .int .i64 x'.b, .bool x'.h, .int .i64 x'.o, .int .i64 x'.s, .int .i64 x'.g, .bool x'.t]), .bool b']) := by
  subst h1 h2 h3
  rfl
theorem sg_no {p : Pt} {n : Int} (h : okP p = false) : sgP p n = p ∧ sgX p n = z0 ∧ sgB p = false := by simp [sgP, sgX, sgB, h]
theorem sg_meet {p : Pt} {n : Int} (h : okP p = true) (hk : p.k = 2) : sgP p n = woP p 0 ∧ sgX p n = setV (p.l.getD 0 z0) n ∧ sgB p = true := by simp [sgP, sgX, sgB, h, hk]
theorem sg_word {p : Pt} {n : Int} (h : okP p = true) (hk : p.k = 0) : sgP p n = ⟨p.k, bor p.w n, p.l⟩ ∧ sgX p n = z0 ∧ sgB p = false := by simp [sgP, sgX, sgB, h, hk]
theorem sg_send {p : Pt} {n : Int} (h : okP p = true) (h2 : ¬ p.k = 2) (h0 : ¬ p.k = 0) : sgP p n = p ∧ sgX p n = z0 ∧ sgB p = false := by simp [sgP, sgX, sgB, h, h2, h0]
set_option maxRecDepth 100000 in
set_option maxHeartbeats 4000000 in
/-- Signal. -/
theorem signal_any (p : Pt) (y : Hd) (n : Int) (w : World) (hs : y.n ≤ 4999) (HH : Hid (HasQ w y p.l)) :
    Calls Try.prog 10 #[(.agg #[.int .i64 p.k, .int .i64 p.w, .slice y.o y.n y.c]), .int .i64 n] w fun e w' => ∃ z : Hd, e = .returned (.tuple #[(.agg #[.int .i64 (sgP p n).k, .int .i64 (sgP p n).w, .slice z.o z.n z.c]), (.agg #[.int .i64 (sgX p n).c, .int .i64 (sgX p n).v, .int .i64 (sgX p n).b, .bool (sgX p n).h, .int .i64 (sgX p n).o, .int .i64 (sgX p n).s, .int .i64 (sgX p n).g, .bool (sgX p n).t]), .bool (sgB p)]) ∧ Ans w w' z (sgP p n).l := by
  go_enter Try.func10, Try.ntmps10
  go_upto_region 1 with fail
  have HT : Hid (B3 w (((w.alloc (.cells #[.int .i64 p.k, .int .i64 p.w, .slice y.o y.n y.c] 25)).alloc (.cells #[.int .i64 0, .int .i64 0, .slice none 0 0] 25)).alloc (.cells #[.int .i64 0, .int .i64 0, .int .i64 0, .bool false, .int .i64 0, .int .i64 0, .int .i64 0, .bool false] 30)) p p0 y nilH z0) := b3_new w p p0 y nilH z0
  generalize ((w.alloc (.cells #[.int .i64 p.k, .int .i64 p.w, .slice y.o y.n y.c] 25)).alloc (.cells #[.int .i64 0, .int .i64 0, .slice none 0 0] 25)).alloc (.cells #[.int .i64 0, .int .i64 0, .int .i64 0, .bool false, .int .i64 0, .int .i64 0, .int .i64 0, .bool false] 30) = W at HT ⊢
  have c0 := HT.out.a.c0
  have c1 := HT.out.a.c1
  have c2 := HT.out.a.c2
  have hlw : w.heap.size + 2 < W.heap.size := HT.out.lt
  go_wp2_with fail
  refine (apart_any p y W (by omega) (HH.out.below HT.out.low)).mono ?_
  rintro e w1 ⟨z, rfl, hz⟩
  have HB1 := hid (q_alloc hz.low (.cells #[.int .i64 p.k, .int .i64 p.w, .slice z.o z.n z.c] 25))
  have HO := hid (hp_new hz.has)
  have HN : Hid (Off (fun i => i < w.heap.size + 3) z.o (wts p.l)) := off_less hz.new hlw
  have HL : Hid (w.heap.size + 2 < w1.heap.size) := Nat.lt_of_lt_of_le hlw hz.low.size
  clear hz c0 c1 c2
  replace HT := hid (HT.out.below HB1.out)
  clear HB1 hlw
  go_upto_region 2 with fail
  generalize w1.heap.size = b at HO HL ⊢
  generalize w1.alloc (.cells #[.int .i64 p.k, .int .i64 p.w, .slice z.o z.n z.c] 25) = w2 at HO HT ⊢
  clear w1 W
  have c0 := HT.out.a.c0
  have c1 := HT.out.a.c1
  have c2 := HT.out.a.c2
  go_wp2_with fail
  refine (pcheck_any p y w2 (by omega) (HH.out.below HT.out.low)).mono ?_
  rintro e w3 ⟨rfl, b3⟩
  replace HT := hid (HT.out.below b3)
  replace HO := hid (HO.out.below b3)
  clear b3 c0 c1 c2 w2
  have c0 := HT.out.a.c0
  have c1 := HT.out.a.c1
  have c2 := HT.out.a.c2
  have o0 := HO.out.pb.c0
  have o1 := HO.out.pb.c1
  have o2 := HO.out.pb.c2
  have fo1 := HO.out.pb.fz 1
  have hb := HL.out
  have hlw : w.heap.size + 2 < w3.heap.size := HT.out.lt
  have hbl : b < w3.heap.size := HO.out.pb.lt
  cases h1 : okP p with
  | false =>
    have HE := hid (sg_no (n := n) h1)
    rw [ck_no h1]
    clear h1
    have r0 : w3.cell? ⟨w.heap.size + 1, 0, none⟩ = some (.int .i64 0) := HT.out.r.c0
    have r1 : w3.cell? ⟨w.heap.size + 1, 1, none⟩ = some (.int .i64 0) := HT.out.r.c1
    have r2 : w3.cell? ⟨w.heap.size + 1, 2, none⟩ = some (.slice none 0 0) := HT.out.r.c2
    have g0 := HT.out.r.fz 0
    have g1 := HT.out.r.fz 1
    have g2 := HT.out.r.fz 2
    obtain ⟨s0, s1, s2, s3, s4, s5, s6, s7⟩ := HT.out.s.at
    have k0 := HT.out.s.fz 0
    have k1 := HT.out.s.fz 1
    have k2 := HT.out.s.fz 2
    have k3 := HT.out.s.fz 3
    have k4 := HT.out.s.fz 4
    have k5 := HT.out.s.fz 5
    have k6 := HT.out.s.fz 6
    have k7 := HT.out.s.fz 7
    have HF := hid (ans3 (q := p) (v := z0) HT.out HO.out.has HN.out)
    go_wp2_with fail
    refine bodyPost_ret (v := .tuple #[(.agg #[.int .i64 p.k, .int .i64 p.w, .slice z.o z.n z.c]), .agg #[.int .i64 0, .int .i64 0, .int .i64 0, .bool false, .int .i64 0, .int .i64 0, .int .i64 0, .bool false], .bool false]) (by simp [results, Try.results10, go_sem, *]) rfl ⟨z, ret3 HE.out.1 HE.out.2.1 HE.out.2.2, ?_⟩
    rw [HE.out.1]
    exact HF.out
  | true =>
    have H1 := hid h1
    rw [ck_yes h1]
    clear h1
    by_cases hk : p.k = 2
    · have HE := hid (sg_meet (n := n) H1.out hk)
      have hln : 0 < p.l.length := ok_some H1.out (by rw [hk]; decide)
      have hyn : 0 < y.n := by have := HH.out.len; omega
      have hk1 : (p.k == 2) = true := by simp [hk]
      clear hk
      obtain ⟨a, ea, ha⟩ := HH.out.at 0 hyn
      rw [Nat.zero_mul, add_zero_addr] at ha
      have hab : Hid (a.block < w.heap.size) := ha.lt
      have HAt := hid (ha.below HT.out.low)
      have i2 : (0 : Int) < (y.n : Int) := by omega
      obtain ⟨v, hv⟩ : ∃ v, p.l.getD 0 z0 = v := ⟨_, rfl⟩
      rw [hv] at HAt HE
      have HCC : Hid (∀ X : World, Below w3.heap.size w3 X → Calls Try.prog 17 #[.agg #[.int .i64 p.k, .int .i64 p.w, .slice (some a) y.n y.c], .int .i64 0] X fun e w' => ∃ z : Hd, e = .returned (.agg #[.int .i64 (woP p 0).k, .int .i64 (woP p 0).w, .slice z.o z.n z.c]) ∧ Ans X w' z (woP p 0).l) := fun X q => by rw [← ea]; exact without_any p y 0 X (by omega) (by omega) (HH.out.below (q_trans HT.out.low q))
      have HPy : Hid (y.o = some a) := ea
      rw [ea] at c2
      obtain ⟨a0, a1, a2, a3, a4, a5, a6, a7⟩ := HAt.out
      clear ha hv hln ea
      go_upto_region 8 with fail
      have HW : Hid (Wb (w3.alloc (.cells #[.int .i64 v.c, .int .i64 n, .int .i64 v.b, .bool v.h, .int .i64 v.o, .int .i64 v.s, .int .i64 v.g, .bool v.t] 30)) w3.heap.size (setV v n)) := wb_new w3 (setV v n)
      have HB4 := hid (alloc_below w3 (.cells #[.int .i64 v.c, .int .i64 n, .int .i64 v.b, .bool v.h, .int .i64 v.o, .int .i64 v.s, .int .i64 v.g, .bool v.t] 30))
      have HT4 := hid (HT.out.below HB4.out)
      have hS : S5 w.heap.size p (some a) y.n y.c ⟨w3.heap.size, 0, none⟩ (setV v n) (w3.alloc (.cells #[.int .i64 v.c, .int .i64 n, .int .i64 v.b, .bool v.h, .int .i64 v.o, .int .i64 v.s, .int .i64 v.g, .bool v.t] 30)) := by
        have h := s5_of (c := w.heap.size) (y := ⟨some a, y.n, y.c⟩) (p := p) (a := a) (x := v) ⟨by have := HT4.out.a.h; rwa [HPy.out] at this⟩ rfl (HAt.out.below HB4.out)
        exact ⟨h.1, h.2.1, h.2.2.1, HW.out.at.c0, HW.out.at.c1, HW.out.at.c2, HW.out.at.c3, HW.out.at.c4, HW.out.at.c5, HW.out.at.c6, HW.out.at.c7⟩
      have ne3 : w3.heap.size ≠ w.heap.size + 1 := by omega
      have ne4 : w3.heap.size ≠ w.heap.size + 2 := by omega
      have HLs : Hid (w.heap.size + 2 < w3.heap.size) := hlw
      generalize w3.alloc (.cells #[.int .i64 v.c, .int .i64 n, .int .i64 v.b, .bool v.h, .int .i64 v.o, .int .i64 v.s, .int .i64 v.g, .bool v.t] 30) = w4 at HW HB4 HT4 hS ⊢
      clear c0 c1 c2 o0 o1 o2 fo1 a0 a1 a2 a3 a4 a5 a6 a7 hlw hbl hb
      have hlw : w.heap.size + 2 < w4.heap.size := HT4.out.lt
      have ne1 : w.heap.size ≠ w.heap.size + 1 := by omega
      have ne2 : w.heap.size ≠ w.heap.size + 2 := by omega
      go_region_held3 (S5 w.heap.size p (some a) y.n y.c ⟨w3.heap.size, 0, none⟩ (setV v n)) (first | with_reducible assumption | with_reducible exact s5_drew hS | with_reducible exact HS2.out | with_reducible exact HS3.out | with_reducible exact HS4.out)
        (first
          | (go_at_call 17; refine (HCC.out _ (by first | exact q_trans HB4.out (Below.refl _ w4).drew | exact HB4.out)).mono ?_; rintro e w5 ⟨z5, rfl, hz⟩; have HZ : Hid (Ans w4 w5 z5 (woP p 0).l) := (by first | exact hz | exact hz.of (Below.refl _ w4).drew); have HS2 : Hid (S5 w.heap.size p (some a) y.n y.c ⟨w3.heap.size, 0, none⟩ (setV v n) w5) := s5_low hS HZ.out.low; have HS3 : Hid (S5 w.heap.size p (some a) y.n y.c ⟨w3.heap.size, 0, none⟩ (setV v n) (put3 w5 (w.heap.size + 1) (woP p 0) z5)) := s5_put3 HS2.out ne1 ne3; have HS4 : Hid (S5 w.heap.size p (some a) y.n y.c ⟨w3.heap.size, 0, none⟩ (setV v n) (put8 (put3 w5 (w.heap.size + 1) (woP p 0) z5) (w.heap.size + 2) (setV v n))) := s5_put8 HS3.out ne2 ne4; have HT2 := hid (HT4.out.below HZ.out.low); have r0 : w5.cell? ⟨w.heap.size + 1, 0, none⟩ = some (.int .i64 0) := HT2.out.r.c0; have r1 : w5.cell? ⟨w.heap.size + 1, 1, none⟩ = some (.int .i64 0) := HT2.out.r.c1; have r2 : w5.cell? ⟨w.heap.size + 1, 2, none⟩ = some (.slice none 0 0) := HT2.out.r.c2; have g0 := HT2.out.r.fz 0; have g1 := HT2.out.r.fz 1; have g2 := HT2.out.r.fz 2; obtain ⟨s0, s1, s2, s3, s4, s5, s6, s7⟩ := HT2.out.s.at; have k0 := HT2.out.s.fz 0; have k1 := HT2.out.s.fz 1; have k2 := HT2.out.s.fz 2; have k3 := HT2.out.s.fz 3; have k4 := HT2.out.s.fz 4; have k5 := HT2.out.s.fz 5; have k6 := HT2.out.s.fz 6; have k7 := HT2.out.s.fz 7; clear hz)
          | fail)
      all_goals
        have hn : Off (fun i => i < w.heap.size + 3) z5.o (wts (woP p 0).l) := off_less HZ.out.new hlw
        have HF := hid (ans3 (q := woP p 0) (v := setV v n) HT2.out HZ.out.has hn)
        go_wp2_with fail
        refine bodyPost_ret (v := .tuple #[(.agg #[.int .i64 (woP p 0).k, .int .i64 (woP p 0).w, .slice z5.o z5.n z5.c]), (.agg #[.int .i64 (setV v n).c, .int .i64 (setV v n).v, .int .i64 (setV v n).b, .bool (setV v n).h, .int .i64 (setV v n).o, .int .i64 (setV v n).s, .int .i64 (setV v n).g, .bool (setV v n).t]), .bool true]) (by simp [results, Try.results10, go_sem, *]) rfl ⟨z5, ret3 HE.out.1 HE.out.2.1 HE.out.2.2, ?_⟩
        rw [HE.out.1]
        exact HF.out
    · by_cases h0 : p.k = 0
      · have HE := hid (sg_word (n := n) H1.out h0)
        have hk1 : (p.k == 2) = false := by simp [hk]
        have hk2 : (p.k == 0) = true := by simp [h0]
        clear hk h0
        have r0 : w3.cell? ⟨w.heap.size + 1, 0, none⟩ = some (.int .i64 0) := HT.out.r.c0
        have r1 : w3.cell? ⟨w.heap.size + 1, 1, none⟩ = some (.int .i64 0) := HT.out.r.c1
        have r2 : w3.cell? ⟨w.heap.size + 1, 2, none⟩ = some (.slice none 0 0) := HT.out.r.c2
        have g0 := HT.out.r.fz 0
        have g1 := HT.out.r.fz 1
        have g2 := HT.out.r.fz 2
        obtain ⟨s0, s1, s2, s3, s4, s5, s6, s7⟩ := HT.out.s.at
        have k0 := HT.out.s.fz 0
        have k1 := HT.out.s.fz 1
        have k2 := HT.out.s.fz 2
        have k3 := HT.out.s.fz 3
        have k4 := HT.out.s.fz 4
        have k5 := HT.out.s.fz 5
        have k6 := HT.out.s.fz 6
        have k7 := HT.out.s.fz 7
        have nb1 : b ≠ w.heap.size + 1 := by omega
        have nb2 : b ≠ w.heap.size + 2 := by omega
        have HF := hid (ans3 (q := ⟨p.k, bor p.w n, p.l⟩) (v := z0) (HT.out.setO (j := 1) HL.out (.int .i64 (bor p.w n))) (HasQ.setIn HO.out.pb HO.out.has (.int .i64 (bor p.w n))) HN.out)
        go_wp2_with fail
        refine bodyPost_ret (v := .tuple #[.agg #[.int .i64 p.k, .int .i64 (bits .or .i64 p.w n), .slice z.o z.n z.c], .agg #[.int .i64 0, .int .i64 0, .int .i64 0, .bool false, .int .i64 0, .int .i64 0, .int .i64 0, .bool false], .bool false]) (by simp [results, Try.results10, go_sem, *]) rfl ⟨z, ret3 HE.out.1 HE.out.2.1 HE.out.2.2, ?_⟩
        rw [HE.out.1]
        exact HF.out
      · have HE := hid (sg_send (n := n) H1.out hk h0)
        have hk1 : (p.k == 2) = false := by simp [hk]
        have hk2 : (p.k == 0) = false := by simp [h0]
        clear hk h0
        have r0 : w3.cell? ⟨w.heap.size + 1, 0, none⟩ = some (.int .i64 0) := HT.out.r.c0
        have r1 : w3.cell? ⟨w.heap.size + 1, 1, none⟩ = some (.int .i64 0) := HT.out.r.c1
        have r2 : w3.cell? ⟨w.heap.size + 1, 2, none⟩ = some (.slice none 0 0) := HT.out.r.c2
        have g0 := HT.out.r.fz 0
        have g1 := HT.out.r.fz 1
        have g2 := HT.out.r.fz 2
        obtain ⟨s0, s1, s2, s3, s4, s5, s6, s7⟩ := HT.out.s.at
        have k0 := HT.out.s.fz 0
        have k1 := HT.out.s.fz 1
        have k2 := HT.out.s.fz 2
        have k3 := HT.out.s.fz 3
        have k4 := HT.out.s.fz 4
        have k5 := HT.out.s.fz 5
        have k6 := HT.out.s.fz 6
        have k7 := HT.out.s.fz 7
        have HF := hid (ans3 (q := p) (v := z0) HT.out HO.out.has HN.out)
        go_wp2_with fail
        refine bodyPost_ret (v := .tuple #[(.agg #[.int .i64 p.k, .int .i64 p.w, .slice z.o z.n z.c]), .agg #[.int .i64 0, .int .i64 0, .int .i64 0, .bool false, .int .i64 0, .int .i64 0, .int .i64 0, .bool false], .bool false]) (by simp [results, Try.results10, go_sem, *]) rfl ⟨z, ret3 HE.out.1 HE.out.2.1 HE.out.2.2, ?_⟩
        rw [HE.out.1]
        exact HF.out
end Go.Proofs.Ytpcdjpcdmnjdfab.Po
