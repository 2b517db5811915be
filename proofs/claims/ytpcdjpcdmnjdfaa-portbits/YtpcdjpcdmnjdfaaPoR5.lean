/- What the document's Send, Recv, Signal, Wait, Drop do. -/
import Derived.Test.YtpcdjpcdmnjdfaaPoR4a
import Derived.Test.YtpcdjpcdmnjdfaaPoR4b
import Derived.Test.YtpcdjpcdmnjdfaaPoW7
import Derived.Test.YtpcdjpcdmnjdfaaPoW8
namespace Go.Proofs.Ytpcdjpcdmnjdfaa.Po
open Go.RowKit

theorem B3.fin {w wr : World} {p q : Pt} {y z : Hd} {v : Wt} (h : B3 w wr p q y z v) (p' : Pt) (y' : Hd) (v' : Wt) : Below w.heap.size w (put8 (put3 wr (w.heap.size + 1) p' y') (w.heap.size + 2) v') := put8_low (put3_low h.low (Nat.le_add_right _ 1)) (Nat.le_add_right _ 2)
theorem B2.fin {w wr : World} {p q : Pt} {y z : Hd} (h : B2 w wr p q y z) (p' : Pt) (y' : Hd) : Below w.heap.size w (put3 wr (w.heap.size + 1) p' y') := put3_low h.low (Nat.le_add_right _ 1)
set_option maxRecDepth 100000 in
set_option maxHeartbeats 2000000 in
/-- Send. -/
theorem rSend_any (p : Pt) (y : Hd) (x : Wt) (w : World) (hs : y.n ≤ 4999) (HH : Hid (HasQ w y p.l)) :
    Calls Try.prog 23 #[(.agg #[.int .i64 p.k, .int .i64 p.w, .slice y.o y.n y.c]), (.agg #[.int .i64 x.c, .int .i64 x.v, .int .i64 x.b, .bool x.h, .int .i64 x.o, .int .i64 x.s, .int .i64 x.g, .bool x.t])] w fun e w' => ∃ z : Hd, e = .returned (.tuple #[(.agg #[.int .i64 (cmP p x 1 2).k, .int .i64 (cmP p x 1 2).w, .slice z.o z.n z.c]), (.agg #[.int .i64 (cmX p x 2).c, .int .i64 (cmX p x 2).v, .int .i64 (cmX p x 2).b, .bool (cmX p x 2).h, .int .i64 (cmX p x 2).o, .int .i64 (cmX p x 2).s, .int .i64 (cmX p x 2).g, .bool (cmX p x 2).t]), .bool (cmB p x 2), .int .i64 (rfE p x.c)]) ∧ AnsR w w' y p.l z (cmP p x 1 2).l := by
  go_enter Try.func23, Try.ntmps23
  go_upto_region 1 with fail
  have HT : Hid (B4 w ((((w.alloc (.cells #[.int .i64 p.k, .int .i64 p.w, .slice y.o y.n y.c] 24)).alloc (.cells #[.int .i64 x.c, .int .i64 x.v, .int .i64 x.b, .bool x.h, .int .i64 x.o, .int .i64 x.s, .int .i64 x.g, .bool x.t] 28)).alloc (.cells #[.int .i64 0, .int .i64 0, .slice none 0 0] 24)).alloc (.cells #[.int .i64 0, .int .i64 0, .int .i64 0, .bool false, .int .i64 0, .int .i64 0, .int .i64 0, .bool false] 28)) p p0 y nilH x z0) := b4_new w p p0 y nilH x z0
  generalize (((w.alloc (.cells #[.int .i64 p.k, .int .i64 p.w, .slice y.o y.n y.c] 24)).alloc (.cells #[.int .i64 x.c, .int .i64 x.v, .int .i64 x.b, .bool x.h, .int .i64 x.o, .int .i64 x.s, .int .i64 x.g, .bool x.t] 28)).alloc (.cells #[.int .i64 0, .int .i64 0, .slice none 0 0] 24)).alloc (.cells #[.int .i64 0, .int .i64 0, .int .i64 0, .bool false, .int .i64 0, .int .i64 0, .int .i64 0, .bool false] 28) = W at HT ⊢
  have c0 := HT.out.a.c0
  have c1 := HT.out.a.c1
  have c2 := HT.out.a.c2
  obtain ⟨x0, x1, x2, x3, x4, x5, x6, x7⟩ := HT.out.b.at
  have hlw : w.heap.size + 3 < W.heap.size := HT.out.lt
  have HC := hid (rmeet1 p y x W hs (HH.out.below HT.out.low))
  obtain ⟨q, hq⟩ : ∃ q, cmP p x 1 2 = q := ⟨_, rfl⟩
  obtain ⟨v, hv⟩ : ∃ v, cmX p x 2 = v := ⟨_, rfl⟩
  obtain ⟨ok, hok⟩ : ∃ ok, cmB p x 2 = ok := ⟨_, rfl⟩
  obtain ⟨er, her⟩ : ∃ er, rfE p x.c = er := ⟨_, rfl⟩
  rw [hq, hv, hok, her] at HC
  have HQ := hid hq
  have HV := hid hv
  have HOK := hid hok
  have HER := hid her
  clear hq hv hok her
  go_wp2_with fail
  refine HC.out.mono ?_
  rintro e w2 ⟨z, rfl, hz⟩
  have HZ := hid hz
  have HT2 := hid (HT.out.below hz.low)
  clear hz c0 c1 c2 x0 x1 x2 x3 x4 x5 x6 x7 HC
  have r0 : w2.cell? ⟨w.heap.size + 2, 0, none⟩ = some (.int .i64 0) := HT2.out.r.c0
  have r1 : w2.cell? ⟨w.heap.size + 2, 1, none⟩ = some (.int .i64 0) := HT2.out.r.c1
  have r2 : w2.cell? ⟨w.heap.size + 2, 2, none⟩ = some (.slice none 0 0) := HT2.out.r.c2
  have g0 := HT2.out.r.fz 0
  have g1 := HT2.out.r.fz 1
  have g2 := HT2.out.r.fz 2
  obtain ⟨s0, s1, s2, s3, s4, s5, s6, s7⟩ := HT2.out.s.at
  have k0 := HT2.out.s.fz 0
  have k1 := HT2.out.s.fz 1
  have k2 := HT2.out.s.fz 2
  have k3 := HT2.out.s.fz 3
  have k4 := HT2.out.s.fz 4
  have k5 := HT2.out.s.fz 5
  have k6 := HT2.out.s.fz 6
  have k7 := HT2.out.s.fz 7
  have HF := hid (HT2.out.fin q z v)
  have HG : Hid (HasQ (put8 (put3 w2 (w.heap.size + 2) q z) (w.heap.size + 3) v) z q.l) := HZ.out.has.put38 (HZ.out.boxes HH.out) ⟨Nat.le_add_right _ 2, by omega⟩ ⟨Nat.le_add_right _ 3, by omega⟩
  go_wp2_with fail
  refine bodyPost_ret (v := .tuple #[(.agg #[.int .i64 q.k, .int .i64 q.w, .slice z.o z.n z.c]), (.agg #[.int .i64 v.c, .int .i64 v.v, .int .i64 v.b, .bool v.h, .int .i64 v.o, .int .i64 v.s, .int .i64 v.g, .bool v.t]), .bool ok, .int .i64 er]) (by simp [results, Try.results23, go_sem, *]) rfl ⟨z, ret4 HQ.out HV.out HOK.out HER.out, ?_⟩
  rw [HQ.out]
  exact HZ.out.up HT.out.low HG.out HF.out
set_option maxRecDepth 100000 in
set_option maxHeartbeats 2000000 in
/-- Recv. -/
theorem rRecv_any (p : Pt) (y : Hd) (x : Wt) (w : World) (hs : y.n ≤ 4999) (HH : Hid (HasQ w y p.l)) :
    Calls Try.prog 24 #[(.agg #[.int .i64 p.k, .int .i64 p.w, .slice y.o y.n y.c]), (.agg #[.int .i64 x.c, .int .i64 x.v, .int .i64 x.b, .bool x.h, .int .i64 x.o, .int .i64 x.s, .int .i64 x.g, .bool x.t])] w fun e w' => ∃ z : Hd, e = .returned (.tuple #[(.agg #[.int .i64 (cmP p x 2 1).k, .int .i64 (cmP p x 2 1).w, .slice z.o z.n z.c]), (.agg #[.int .i64 (cmX p x 1).c, .int .i64 (cmX p x 1).v, .int .i64 (cmX p x 1).b, .bool (cmX p x 1).h, .int .i64 (cmX p x 1).o, .int .i64 (cmX p x 1).s, .int .i64 (cmX p x 1).g, .bool (cmX p x 1).t]), .bool (cmB p x 1), .int .i64 (rfE p x.c)]) ∧ AnsR w w' y p.l z (cmP p x 2 1).l := by
  go_enter Try.func24, Try.ntmps24
  go_upto_region 1 with fail
  have HT : Hid (B4 w ((((w.alloc (.cells #[.int .i64 p.k, .int .i64 p.w, .slice y.o y.n y.c] 24)).alloc (.cells #[.int .i64 x.c, .int .i64 x.v, .int .i64 x.b, .bool x.h, .int .i64 x.o, .int .i64 x.s, .int .i64 x.g, .bool x.t] 28)).alloc (.cells #[.int .i64 0, .int .i64 0, .slice none 0 0] 24)).alloc (.cells #[.int .i64 0, .int .i64 0, .int .i64 0, .bool false, .int .i64 0, .int .i64 0, .int .i64 0, .bool false] 28)) p p0 y nilH x z0) := b4_new w p p0 y nilH x z0
  generalize (((w.alloc (.cells #[.int .i64 p.k, .int .i64 p.w, .slice y.o y.n y.c] 24)).alloc (.cells #[.int .i64 x.c, .int .i64 x.v, .int .i64 x.b, .bool x.h, .int .i64 x.o, .int .i64 x.s, .int .i64 x.g, .bool x.t] 28)).alloc (.cells #[.int .i64 0, .int .i64 0, .slice none 0 0] 24)).alloc (.cells #[.int .i64 0, .int .i64 0, .int .i64 0, .bool false, .int .i64 0, .int .i64 0, .int .i64 0, .bool false] 28) = W at HT ⊢
  have c0 := HT.out.a.c0
  have c1 := HT.out.a.c1
  have c2 := HT.out.a.c2
  obtain ⟨x0, x1, x2, x3, x4, x5, x6, x7⟩ := HT.out.b.at
  have hlw : w.heap.size + 3 < W.heap.size := HT.out.lt
  have HC := hid (rmeet2 p y x W hs (HH.out.below HT.out.low))
  obtain ⟨q, hq⟩ : ∃ q, cmP p x 2 1 = q := ⟨_, rfl⟩
  obtain ⟨v, hv⟩ : ∃ v, cmX p x 1 = v := ⟨_, rfl⟩
  obtain ⟨ok, hok⟩ : ∃ ok, cmB p x 1 = ok := ⟨_, rfl⟩
  obtain ⟨er, her⟩ : ∃ er, rfE p x.c = er := ⟨_, rfl⟩
  rw [hq, hv, hok, her] at HC
  have HQ := hid hq
  have HV := hid hv
  have HOK := hid hok
  have HER := hid her
  clear hq hv hok her
  go_wp2_with fail
  refine HC.out.mono ?_
  rintro e w2 ⟨z, rfl, hz⟩
  have HZ := hid hz
  have HT2 := hid (HT.out.below hz.low)
  clear hz c0 c1 c2 x0 x1 x2 x3 x4 x5 x6 x7 HC
  have r0 : w2.cell? ⟨w.heap.size + 2, 0, none⟩ = some (.int .i64 0) := HT2.out.r.c0
  have r1 : w2.cell? ⟨w.heap.size + 2, 1, none⟩ = some (.int .i64 0) := HT2.out.r.c1
  have r2 : w2.cell? ⟨w.heap.size + 2, 2, none⟩ = some (.slice none 0 0) := HT2.out.r.c2
  have g0 := HT2.out.r.fz 0
  have g1 := HT2.out.r.fz 1
  have g2 := HT2.out.r.fz 2
  obtain ⟨s0, s1, s2, s3, s4, s5, s6, s7⟩ := HT2.out.s.at
  have k0 := HT2.out.s.fz 0
  have k1 := HT2.out.s.fz 1
  have k2 := HT2.out.s.fz 2
  have k3 := HT2.out.s.fz 3
  have k4 := HT2.out.s.fz 4
  have k5 := HT2.out.s.fz 5
  have k6 := HT2.out.s.fz 6
  have k7 := HT2.out.s.fz 7
  have HF := hid (HT2.out.fin q z v)
  have HG : Hid (HasQ (put8 (put3 w2 (w.heap.size + 2) q z) (w.heap.size + 3) v) z q.l) := HZ.out.has.put38 (HZ.out.boxes HH.out) ⟨Nat.le_add_right _ 2, by omega⟩ ⟨Nat.le_add_right _ 3, by omega⟩
  go_wp2_with fail
  refine bodyPost_ret (v := .tuple #[(.agg #[.int .i64 q.k, .int .i64 q.w, .slice z.o z.n z.c]), (.agg #[.int .i64 v.c, .int .i64 v.v, .int .i64 v.b, .bool v.h, .int .i64 v.o, .int .i64 v.s, .int .i64 v.g, .bool v.t]), .bool ok, .int .i64 er]) (by simp [results, Try.results24, go_sem, *]) rfl ⟨z, ret4 HQ.out HV.out HOK.out HER.out, ?_⟩
  rw [HQ.out]
  exact HZ.out.up HT.out.low HG.out HF.out
set_option maxRecDepth 100000 in
set_option maxHeartbeats 4000000 in
/-- Signal. -/
theorem rSignal_any (p : Pt) (y : Hd) (n : Int) (w : World) (hs : y.n ≤ 4999) (HH : Hid (HasQ w y p.l)) :
    Calls Try.prog 25 #[(.agg #[.int .i64 p.k, .int .i64 p.w, .slice y.o y.n y.c]), .int .i64 n] w fun e w' => ∃ z : Hd, e = .returned (.tuple #[(.agg #[.int .i64 (sgP p n).k, .int .i64 (sgP p n).w, .slice z.o z.n z.c]), (.agg #[.int .i64 (sgX p n).c, .int .i64 (sgX p n).v, .int .i64 (sgX p n).b, .bool (sgX p n).h, .int .i64 (sgX p n).o, .int .i64 (sgX p n).s, .int .i64 (sgX p n).g, .bool (sgX p n).t]), .bool (sgB p)]) ∧ AnsR w w' y p.l z (sgP p n).l := by
  go_enter Try.func25, Try.ntmps25
  go_upto_region 1 with fail
  have HT : Hid (B3 w (((w.alloc (.cells #[.int .i64 p.k, .int .i64 p.w, .slice y.o y.n y.c] 24)).alloc (.cells #[.int .i64 0, .int .i64 0, .slice none 0 0] 24)).alloc (.cells #[.int .i64 0, .int .i64 0, .int .i64 0, .bool false, .int .i64 0, .int .i64 0, .int .i64 0, .bool false] 28)) p p0 y nilH z0) := b3_new w p p0 y nilH z0
  generalize ((w.alloc (.cells #[.int .i64 p.k, .int .i64 p.w, .slice y.o y.n y.c] 24)).alloc (.cells #[.int .i64 0, .int .i64 0, .slice none 0 0] 24)).alloc (.cells #[.int .i64 0, .int .i64 0, .int .i64 0, .bool false, .int .i64 0, .int .i64 0, .int .i64 0, .bool false] 28) = W at HT ⊢
  have c0 := HT.out.a.c0
  have c1 := HT.out.a.c1
  have c2 := HT.out.a.c2
  go_wp2_with fail
  refine (ris_any p y W (HH.out.below HT.out.low)).mono ?_
  rintro e w3 ⟨rfl, b3⟩
  replace HT := hid (HT.out.below b3)
  clear b3 c0 c1 c2 W
  have c0 := HT.out.a.c0
  have c1 := HT.out.a.c1
  have c2 := HT.out.a.c2
  have hlw : w.heap.size + 2 < w3.heap.size := HT.out.lt
  cases h1 : okP p with
  | false =>
    have HE := hid (sg_no (n := n) h1)
    clear h1
    have r0 : w3.cell? ⟨w.heap.size + 1, 0, none⟩ = some (.int .i64 0) := HT.out.r.c0
    have r1 : w3.cell? ⟨w.heap.size + 1, 1, none⟩ = some (.int .i64 0) := HT.out.r.c1
    have r2 : w3.cell? ⟨w.heap.size + 1, 2, none⟩ = some (.slice none 0 0) := HT.out.r.c2
    have g0 := HT.out.r.fz 0
    have g1 := HT.out.r.fz 1
    have g2 := HT.out.r.fz 2
    obtain ⟨s0, s1, s2, s3, s4, s5, s6, s7⟩ := HT.out.s.at
    have k0 := HT.out.s.fz 0
    have k1 := HT.out.s.fz 1
    have k2 := HT.out.s.fz 2
    have k3 := HT.out.s.fz 3
    have k4 := HT.out.s.fz 4
    have k5 := HT.out.s.fz 5
    have k6 := HT.out.s.fz 6
    have k7 := HT.out.s.fz 7
    have HF := hid (B3.fin HT.out p y z0)
    go_wp2_with fail
    refine bodyPost_ret (v := .tuple #[(.agg #[.int .i64 p.k, .int .i64 p.w, .slice y.o y.n y.c]), .agg #[.int .i64 0, .int .i64 0, .int .i64 0, .bool false, .int .i64 0, .int .i64 0, .int .i64 0, .bool false], .bool false]) (by simp [results, Try.results25, go_sem, *]) rfl ⟨y, ret3 HE.out.1 HE.out.2.1 HE.out.2.2, ?_⟩
    rw [HE.out.1]
    exact ⟨HH.out.below HF.out, fun _ _ h => h, HF.out⟩
  | true =>
    have H1 := hid h1
    clear h1
    by_cases hk : p.k = 2
    · have HE := hid (sg_meet (n := n) H1.out hk)
      have hln : 0 < p.l.length := ok_some H1.out (by rw [hk]; decide)
      have hyn : 0 < y.n := by have := HH.out.len; omega
      have hk1 : (p.k == 2) = true := by simp [hk]
      clear hk
      obtain ⟨a, ea, ha⟩ := HH.out.at 0 hyn
      rw [Nat.zero_mul, add_zero_addr] at ha
      have hab : Hid (a.block < w.heap.size) := ha.lt
      have HAt := hid (ha.below HT.out.low)
      have i2 : (0 : Int) < (y.n : Int) := by omega
      obtain ⟨v, hv⟩ : ∃ v, p.l.getD 0 z0 = v := ⟨_, rfl⟩
      rw [hv] at HAt HE
      have HCC : Hid (∀ X : World, Below w3.heap.size w3 X → Calls Try.prog 40 #[.agg #[.int .i64 p.k, .int .i64 p.w, .slice (some a) y.n y.c], .int .i64 0] X fun e w' => ∃ z : Hd, e = .returned (.agg #[.int .i64 (woP p 0).k, .int .i64 (woP p 0).w, .slice z.o z.n z.c]) ∧ Ans X w' z (woP p 0).l) := fun X q => by rw [← ea]; exact rwithout_any p y 0 X (by omega) (by omega) (HH.out.below (q_trans HT.out.low q))
      have HPy : Hid (y.o = some a) := ea
      rw [ea] at c2
      obtain ⟨a0, a1, a2, a3, a4, a5, a6, a7⟩ := HAt.out
      clear ha hv hln ea
      go_upto_region 6 with fail
      have HW : Hid (Wb (w3.alloc (.cells #[.int .i64 v.c, .int .i64 n, .int .i64 v.b, .bool v.h, .int .i64 v.o, .int .i64 v.s, .int .i64 v.g, .bool v.t] 28)) w3.heap.size (setV v n)) := wb_new w3 (setV v n)
      have HB4 := hid (alloc_below w3 (.cells #[.int .i64 v.c, .int .i64 n, .int .i64 v.b, .bool v.h, .int .i64 v.o, .int .i64 v.s, .int .i64 v.g, .bool v.t] 28))
      have HT4 := hid (HT.out.below HB4.out)
      have hS : S5 w.heap.size p (some a) y.n y.c ⟨w3.heap.size, 0, none⟩ (setV v n) (w3.alloc (.cells #[.int .i64 v.c, .int .i64 n, .int .i64 v.b, .bool v.h, .int .i64 v.o, .int .i64 v.s, .int .i64 v.g, .bool v.t] 28)) := by
        have h := s5_of (c := w.heap.size) (y := ⟨some a, y.n, y.c⟩) (p := p) (a := a) (x := v) ⟨by have := HT4.out.a.h; rwa [HPy.out] at this⟩ rfl (HAt.out.below HB4.out)
        exact ⟨h.1, h.2.1, h.2.2.1, HW.out.at.c0, HW.out.at.c1, HW.out.at.c2, HW.out.at.c3, HW.out.at.c4, HW.out.at.c5, HW.out.at.c6, HW.out.at.c7⟩
      have ne3 : w3.heap.size ≠ w.heap.size + 1 := by omega
      have ne4 : w3.heap.size ≠ w.heap.size + 2 := by omega
      generalize w3.alloc (.cells #[.int .i64 v.c, .int .i64 n, .int .i64 v.b, .bool v.h, .int .i64 v.o, .int .i64 v.s, .int .i64 v.g, .bool v.t] 28) = w4 at HW HB4 HT4 hS ⊢
      clear c0 c1 c2 a0 a1 a2 a3 a4 a5 a6 a7 hlw
      have hlw : w.heap.size + 2 < w4.heap.size := HT4.out.lt
      have ne1 : w.heap.size ≠ w.heap.size + 1 := by omega
      have ne2 : w.heap.size ≠ w.heap.size + 2 := by omega
      go_region_held3 (S5 w.heap.size p (some a) y.n y.c ⟨w3.heap.size, 0, none⟩ (setV v n)) (first | with_reducible assumption | with_reducible exact s5_drew hS | with_reducible exact HS2.out | with_reducible exact HS3.out | with_reducible exact HS4.out)
        (first
          | (go_at_call 40; refine (HCC.out _ (by first | exact q_trans HB4.out (Below.refl _ w4).drew | exact HB4.out)).mono ?_; rintro e w5 ⟨z5, rfl, hz⟩; have HZ : Hid (Ans w4 w5 z5 (woP p 0).l) := (by first | exact hz | exact hz.of (Below.refl _ w4).drew); have HS2 : Hid (S5 w.heap.size p (some a) y.n y.c ⟨w3.heap.size, 0, none⟩ (setV v n) w5) := s5_low hS HZ.out.low; have HS3 : Hid (S5 w.heap.size p (some a) y.n y.c ⟨w3.heap.size, 0, none⟩ (setV v n) (put3 w5 (w.heap.size + 1) (woP p 0) z5)) := s5_put3 HS2.out ne1 ne3; have HS4 : Hid (S5 w.heap.size p (some a) y.n y.c ⟨w3.heap.size, 0, none⟩ (setV v n) (put8 (put3 w5 (w.heap.size + 1) (woP p 0) z5) (w.heap.size + 2) (setV v n))) := s5_put8 HS3.out ne2 ne4; have HT2 := hid (HT4.out.below HZ.out.low); have r0 : w5.cell? ⟨w.heap.size + 1, 0, none⟩ = some (.int .i64 0) := HT2.out.r.c0; have r1 : w5.cell? ⟨w.heap.size + 1, 1, none⟩ = some (.int .i64 0) := HT2.out.r.c1; have r2 : w5.cell? ⟨w.heap.size + 1, 2, none⟩ = some (.slice none 0 0) := HT2.out.r.c2; have g0 := HT2.out.r.fz 0; have g1 := HT2.out.r.fz 1; have g2 := HT2.out.r.fz 2; obtain ⟨s0, s1, s2, s3, s4, s5, s6, s7⟩ := HT2.out.s.at; have k0 := HT2.out.s.fz 0; have k1 := HT2.out.s.fz 1; have k2 := HT2.out.s.fz 2; have k3 := HT2.out.s.fz 3; have k4 := HT2.out.s.fz 4; have k5 := HT2.out.s.fz 5; have k6 := HT2.out.s.fz 6; have k7 := HT2.out.s.fz 7; clear hz)
          | fail)
      all_goals
        have hn : Off (fun i => i < w.heap.size + 3) z5.o (wts (woP p 0).l) := off_less HZ.out.new hlw
        have HF := hid (ans3 (q := woP p 0) (v := setV v n) HT2.out HZ.out.has hn)
        go_wp2_with fail
        refine bodyPost_ret (v := .tuple #[(.agg #[.int .i64 (woP p 0).k, .int .i64 (woP p 0).w, .slice z5.o z5.n z5.c]), (.agg #[.int .i64 (setV v n).c, .int .i64 (setV v n).v, .int .i64 (setV v n).b, .bool (setV v n).h, .int .i64 (setV v n).o, .int .i64 (setV v n).s, .int .i64 (setV v n).g, .bool (setV v n).t]), .bool true]) (by simp [results, Try.results25, go_sem, *]) rfl ⟨z5, ret3 HE.out.1 HE.out.2.1 HE.out.2.2, ?_⟩
        rw [HE.out.1]
        exact HF.out.plain
    · by_cases h0 : p.k = 0
      · have HE := hid (sg_word (n := n) H1.out h0)
        have hk1 : (p.k == 2) = false := by simp [hk]
        have hk2 : (p.k == 0) = true := by simp [h0]
        clear hk h0
        have f1 := HT.out.a.fz 1
        have HU : Hid (Below w.heap.size w (put8 (put3 (w3.setCell ⟨w.heap.size, 1, none⟩ (.int .i64 (bits .or .i64 p.w n))) (w.heap.size + 1) ⟨p.k, bor p.w n, p.l⟩ y) (w.heap.size + 2) z0)) := put8_low (put3_low (q_set HT.out.low (Nat.le_refl _) _) (Nat.le_add_right _ 1)) (Nat.le_add_right _ 2)
        have r0 : w3.cell? ⟨w.heap.size + 1, 0, none⟩ = some (.int .i64 0) := HT.out.r.c0
        have r1 : w3.cell? ⟨w.heap.size + 1, 1, none⟩ = some (.int .i64 0) := HT.out.r.c1
        have r2 : w3.cell? ⟨w.heap.size + 1, 2, none⟩ = some (.slice none 0 0) := HT.out.r.c2
        have g0 := HT.out.r.fz 0
        have g1 := HT.out.r.fz 1
        have g2 := HT.out.r.fz 2
        obtain ⟨s0, s1, s2, s3, s4, s5, s6, s7⟩ := HT.out.s.at
        have k0 := HT.out.s.fz 0
        have k1 := HT.out.s.fz 1
        have k2 := HT.out.s.fz 2
        have k3 := HT.out.s.fz 3
        have k4 := HT.out.s.fz 4
        have k5 := HT.out.s.fz 5
        have k6 := HT.out.s.fz 6
        have k7 := HT.out.s.fz 7
        have HF := hid (B3.fin HT.out p y z0)
        go_wp2_with fail
        refine bodyPost_ret (v := .tuple #[.agg #[.int .i64 p.k, .int .i64 (bits .or .i64 p.w n), .slice y.o y.n y.c], .agg #[.int .i64 0, .int .i64 0, .int .i64 0, .bool false, .int .i64 0, .int .i64 0, .int .i64 0, .bool false], .bool false]) (by simp [results, Try.results25, go_sem, *]) rfl ⟨y, ret3 HE.out.1 HE.out.2.1 HE.out.2.2, ?_⟩
        rw [HE.out.1]
        exact ⟨HH.out.below HU.out, fun _ _ h => h, HU.out⟩
      · have HE := hid (sg_send (n := n) H1.out hk h0)
        have hk1 : (p.k == 2) = false := by simp [hk]
        have hk2 : (p.k == 0) = false := by simp [h0]
        clear hk h0
        have r0 : w3.cell? ⟨w.heap.size + 1, 0, none⟩ = some (.int .i64 0) := HT.out.r.c0
        have r1 : w3.cell? ⟨w.heap.size + 1, 1, none⟩ = some (.int .i64 0) := HT.out.r.c1
        have r2 : w3.cell? ⟨w.heap.size + 1, 2, none⟩ = some (.slice none 0 0) := HT.out.r.c2
        have g0 := HT.out.r.fz 0
        have g1 := HT.out.r.fz 1
        have g2 := HT.out.r.fz 2
        obtain ⟨s0, s1, s2, s3, s4, s5, s6, s7⟩ := HT.out.s.at
        have k0 := HT.out.s.fz 0
        have k1 := HT.out.s.fz 1
        have k2 := HT.out.s.fz 2
        have k3 := HT.out.s.fz 3
        have k4 := HT.out.s.fz 4
        have k5 := HT.out.s.fz 5
        have k6 := HT.out.s.fz 6
        have k7 := HT.out.s.fz 7
        have HF := hid (B3.fin HT.out p y z0)
        go_wp2_with fail
        refine bodyPost_ret (v := .tuple #[(.agg #[.int .i64 p.k, .int .i64 p.w, .slice y.o y.n y.c]), .agg #[.int .i64 0, .int .i64 0, .int .i64 0, .bool false, .int .i64 0, .int .i64 0, .int .i64 0, .bool false], .bool false]) (by simp [results, Try.results25, go_sem, *]) rfl ⟨y, ret3 HE.out.1 HE.out.2.1 HE.out.2.2, ?_⟩
        rw [HE.out.1]
        exact ⟨HH.out.below HF.out, fun _ _ h => h, HF.out⟩
set_option maxRecDepth 100000 in
set_option maxHeartbeats 4000000 in
/-- Wait. -/
theorem rWait_any (p : Pt) (y : Hd) (c : Int) (w : World) (hs : y.n ≤ 4999) (HH : Hid (HasQ w y p.l)) :
    Calls Try.prog 26 #[(.agg #[.int .i64 p.k, .int .i64 p.w, .slice y.o y.n y.c]), .int .i64 c] w fun e w' => ∃ z : Hd, e = .returned (.tuple #[(.agg #[.int .i64 (waP p c).k, .int .i64 (waP p c).w, .slice z.o z.n z.c]), .int .i64 (waN p c), .int .i64 (rfE p c)]) ∧ AnsR w w' y p.l z (waP p c).l := by
  have HN := hid HH.out.len
  go_enter Try.func26, Try.ntmps26
  go_upto_region 1 with fail
  have HT : Hid (B2 w ((w.alloc (.cells #[.int .i64 p.k, .int .i64 p.w, .slice y.o y.n y.c] 24)).alloc (.cells #[.int .i64 0, .int .i64 0, .slice none 0 0] 24)) p p0 y nilH) := b2_new w p p0 y nilH
  generalize (w.alloc (.cells #[.int .i64 p.k, .int .i64 p.w, .slice y.o y.n y.c] 24)).alloc (.cells #[.int .i64 0, .int .i64 0, .slice none 0 0] 24) = W at HT ⊢
  have c0 := HT.out.a.c0
  have c1 := HT.out.a.c1
  have c2 := HT.out.a.c2
  go_wp2_with fail
  refine (ris_any p y W (HH.out.below HT.out.low)).mono ?_
  rintro e w1 ⟨rfl, b1⟩
  replace HT := hid (HT.out.below b1)
  clear b1 c0 c1 c2
  have c0 := HT.out.a.c0
  have c1 := HT.out.a.c1
  have c2 := HT.out.a.c2
  have hlw : w.heap.size + 1 < w1.heap.size := HT.out.lt
  cases h1 : okP p with
  | false =>
    have HR := hid (rf_no (c := c) h1)
    have HE := hid (wa_no (p := p) (c := c) (by rw [HR.out]; decide))
    clear h1
    have r0 : w1.cell? ⟨w.heap.size + 1, 0, none⟩ = some (.int .i64 0) := HT.out.r.c0
    have r1 : w1.cell? ⟨w.heap.size + 1, 1, none⟩ = some (.int .i64 0) := HT.out.r.c1
    have r2 : w1.cell? ⟨w.heap.size + 1, 2, none⟩ = some (.slice none 0 0) := HT.out.r.c2
    have g0 := HT.out.r.fz 0
    have g1 := HT.out.r.fz 1
    have g2 := HT.out.r.fz 2
    have HF := hid (B2.fin HT.out p y)
    go_wp2_with fail
    refine bodyPost_ret (v := .tuple #[(.agg #[.int .i64 p.k, .int .i64 p.w, .slice y.o y.n y.c]), .int .i64 0, .int .i64 2]) (by simp [results, Try.results26, go_sem, *]) rfl ⟨y, retW HE.out.1 HE.out.2 HR.out, ?_⟩
    rw [HE.out.1]
    exact ⟨HH.out.below HF.out, fun _ _ h => h, HF.out⟩
  | true =>
    have H1 := hid h1
    clear h1
    cases h2 : okC c with
    | false =>
      have HR := hid (rf_core (p := p) h2)
      have HE := hid (wa_no (p := p) (c := c) (by rw [HR.out]; decide))
      have r0 : w1.cell? ⟨w.heap.size + 1, 0, none⟩ = some (.int .i64 0) := HT.out.r.c0
      have r1 : w1.cell? ⟨w.heap.size + 1, 1, none⟩ = some (.int .i64 0) := HT.out.r.c1
      have r2 : w1.cell? ⟨w.heap.size + 1, 2, none⟩ = some (.slice none 0 0) := HT.out.r.c2
      have g0 := HT.out.r.fz 0
      have g1 := HT.out.r.fz 1
      have g2 := HT.out.r.fz 2
      have HF := hid (B2.fin HT.out p y)
      go_wp2_with (go_at_call 30; refine (rcore_any _ _).mono ?_; rintro e w8 ⟨rfl, hw⟩; rw [hw, h2]; clear hw w8)
      refine bodyPost_ret (v := .tuple #[(.agg #[.int .i64 p.k, .int .i64 p.w, .slice y.o y.n y.c]), .int .i64 0, .int .i64 2]) (by simp [results, Try.results26, go_sem, *]) rfl ⟨y, retW HE.out.1 HE.out.2 HR.out, ?_⟩
      rw [HE.out.1]
      exact ⟨HH.out.below HF.out, fun _ _ h => h, HF.out⟩
    | true =>
      have HC : Hid (∀ X : World, Calls Try.prog 30 #[.int .i64 c] X fun e w' => e = .returned (.bool true) ∧ w' = X) := fun X => by rw [← h2]; exact rcore_any c X
      have H2 := hid h2
      clear h2
      go_upto_region 3 with (go_at_call 30; refine (HC.out _).mono ?_; rintro e w8 ⟨rfl, hw⟩; rw [hw]; clear hw w8)
      go_wp2_with fail
      refine (rfind_any p y c w1 (by omega) (HH.out.below HT.out.low)).mono ?_
      rintro e w2 ⟨rfl, b2⟩
      replace HT := hid (HT.out.below b2)
      clear b2 c0 c1 c2 hlw HC
      have c0 := HT.out.a.c0
      have c1 := HT.out.a.c1
      have c2 := HT.out.a.c2
      have hlw : w.heap.size + 1 < w2.heap.size := HT.out.lt
      cases h3 : fd c p.l with
      | some i =>
        have HR := hid (rf_there H1.out H2.out h3)
        have HE := hid (wa_no (p := p) (c := c) (by rw [HR.out]; decide))
        rw [fI_some h3]
        clear h3
        have i0 : (i : Int) ≥ 0 := by omega
        have r0 : w2.cell? ⟨w.heap.size + 1, 0, none⟩ = some (.int .i64 0) := HT.out.r.c0
        have r1 : w2.cell? ⟨w.heap.size + 1, 1, none⟩ = some (.int .i64 0) := HT.out.r.c1
        have r2 : w2.cell? ⟨w.heap.size + 1, 2, none⟩ = some (.slice none 0 0) := HT.out.r.c2
        have g0 := HT.out.r.fz 0
        have g1 := HT.out.r.fz 1
        have g2 := HT.out.r.fz 2
        have HF := hid (B2.fin HT.out p y)
        go_wp2_with fail
        refine bodyPost_ret (v := .tuple #[(.agg #[.int .i64 p.k, .int .i64 p.w, .slice y.o y.n y.c]), .int .i64 0, .int .i64 8]) (by simp [results, Try.results26, go_sem, *]) rfl ⟨y, retW HE.out.1 HE.out.2 HR.out, ?_⟩
        rw [HE.out.1]
        exact ⟨HH.out.below HF.out, fun _ _ h => h, HF.out⟩
      | none =>
        have HR := hid (rf_ok H1.out H2.out h3)
        rw [fI_none h3]
        clear h3
        by_cases hw : p.w = 0
        · have HE := hid (wa_wait HR.out hw)
          have hw1 : (p.w != 0) = false := by simp [hw]
          clear hw
          have f0 := HT.out.a.fz 0
          go_upto_region 10 with fail
          replace HT := hid (HT.out.setK 2)
          generalize w2.setCell ⟨w.heap.size, 0, none⟩ (.int .i64 2) = W2 at HT ⊢
          clear c0 c1 c2 f0 hlw
          obtain ⟨m, hm⟩ : ∃ m : Nat, y.n + 1 = m := ⟨_, rfl⟩
          have HM0 := hid hm
          have hm4 : m ≤ 5000 := by omega
          clear hm
          have hW := hid HT.out.lt
          have c2 := HT.out.a.c2
          have hlg : w.heap.size < W2.heap.size := HT.out.a.lt
          have HY2 := hid (HH.out.below HT.out.low)
          have L0 : Hid ((wts p.l).length = y.n * 8) := by unfold Hid; rw [len_wts, HN.out]
          go_wp2_with (at_builtin; go_loud (refine wpList_append_row _ rfl (.tmp 31) (.tmp 33) 22 28 _ 8 64 rfl Try.underlying22 infoW rfl (by decide) (by decide) W2.heap.size _ 0 [] rfl (own0 W2 28 8) y.o y.n y.c (wts p.l) rfl L0.out HY2.out.nil (HY2.out.below (alloc_below W2 _)).row (wts_one _) (by omega) (alloc_below W2 _).size ?_; intro ao5 cap5 w5 own5 grow5; rw [Nat.zero_add, List.nil_append] at own5; simp only [Nat.zero_add]; apply Hid.out))
          have b5 := hid (app_below grow5)
          have HT5 := hid (HT.out.below b5.out)
          have d2 := HT5.out.a.c2
          have hlg5 : w.heap.size < w5.heap.size := HT5.out.a.lt
          have O5 := hid own5
          clear own5 grow5 c2 hlg
          unfold Hid
          go_wp2_with (at_builtin; go_loud (refine wpList_append_row _ rfl (.tmp 34) (.tmp 37) 22 28 _ 8 64 rfl Try.underlying22 infoW rfl (by decide) (by decide) W2.heap.size _ y.n (wts p.l) rfl (own_below O5.out (alloc_below w5 _)) (some ⟨w5.heap.size, 0, none⟩) 1 1 (wts [coW c]) rfl rfl (fun h => by cases h) (one_wt w5 (coW c) 28) (wts_one _) (by omega) (q_alloc b5.out _).size ?_; intro ao6 cap6 w6 own6 grow6; rw [HM0.out] at own6; rw [HM0.out]; apply Hid.out))
          have b6 : Hid (Below W2.heap.size W2 w6) := (q_alloc b5.out _).grown grow6 (q_alloc b5.out _).size (fun k e => (World.ownsRow.lt O5.out k e).1)
          have HM6 : Hid (MineQ w6 W2.heap.size ⟨ao6, m, cap6⟩ (p.l ++ [coW c])) := ⟨by have := HM0.out; have := HN.out; simp; omega, by rw [wts_app]; exact own6⟩
          have HT6 := hid (HT.out.below b6.out)
          clear own6 grow6 d2 hlg5 HT5
          have e2 := HT6.out.a.c2
          have e0 : w6.cell? ⟨w.heap.size, 0, none⟩ = some (.int .i64 2) := HT6.out.a.c0
          have e1 : w6.cell? ⟨w.heap.size, 1, none⟩ = some (.int .i64 p.w) := HT6.out.a.c1
          have f2 := HT6.out.a.fz 2
          have hl6 : w.heap.size + 1 < w6.heap.size := HT6.out.lt
          have r0 : w6.cell? ⟨w.heap.size + 1, 0, none⟩ = some (.int .i64 0) := HT6.out.r.c0
          have r1 : w6.cell? ⟨w.heap.size + 1, 1, none⟩ = some (.int .i64 0) := HT6.out.r.c1
          have r2 : w6.cell? ⟨w.heap.size + 1, 2, none⟩ = some (.slice none 0 0) := HT6.out.r.c2
          have g0 := HT6.out.r.fz 0
          have g1 := HT6.out.r.fz 1
          have g2 := HT6.out.r.fz 2
          unfold Hid
          go_wp2_with fail
          have hn : Off (fun i => i < w.heap.size + 2) ao6 (wts (p.l ++ [coW c])) := off_less HM6.out.new hW.out
          refine bodyPost_ret (v := .tuple #[.agg #[.int .i64 2, .int .i64 p.w, .slice ao6 m cap6], .int .i64 0, .int .i64 0]) (by simp [results, Try.results26, go_sem, *]) rfl ⟨⟨ao6, m, cap6⟩, retW (q := wiP p 2 (coW c)) (z := ⟨ao6, m, cap6⟩) HE.out.1 HE.out.2 HR.out, ?_⟩
          rw [HE.out.1]
          exact (ans2 (q := ⟨2, p.w, []⟩) (HT6.out.setQ (p.l ++ [coW c]) ⟨ao6, m, cap6⟩) (HM6.out.has.set hn (p := ⟨w.heap.size, 2, none⟩) (by show w.heap.size < _; omega) _) hn).plain
        · have HE := hid (wa_word HR.out hw)
          have hw1 : (p.w != 0) = true := by simp [hw]
          clear hw
          have f1 := HT.out.a.fz 1
          have HU : Hid (Below w.heap.size w (put3 (w2.setCell ⟨w.heap.size, 1, none⟩ (.int .i64 0)) (w.heap.size + 1) ⟨p.k, 0, p.l⟩ y)) := put3_low (q_set HT.out.low (Nat.le_refl _) _) (Nat.le_add_right _ 1)
          have r0 : w2.cell? ⟨w.heap.size + 1, 0, none⟩ = some (.int .i64 0) := HT.out.r.c0
          have r1 : w2.cell? ⟨w.heap.size + 1, 1, none⟩ = some (.int .i64 0) := HT.out.r.c1
          have r2 : w2.cell? ⟨w.heap.size + 1, 2, none⟩ = some (.slice none 0 0) := HT.out.r.c2
          have g0 := HT.out.r.fz 0
          have g1 := HT.out.r.fz 1
          have g2 := HT.out.r.fz 2
          go_wp2_with fail
          refine bodyPost_ret (v := .tuple #[.agg #[.int .i64 p.k, .int .i64 0, .slice y.o y.n y.c], .int .i64 p.w, .int .i64 0]) (by simp [results, Try.results26, go_sem, *]) rfl ⟨y, retW (q := ⟨p.k, 0, p.l⟩) HE.out.1 HE.out.2 HR.out, ?_⟩
          rw [HE.out.1]
          exact ⟨HH.out.below HU.out, fun _ _ h => h, HU.out⟩
set_option maxRecDepth 100000 in
set_option maxHeartbeats 4000000 in
/-- Drop. -/
theorem rDrop_any (p : Pt) (y : Hd) (c : Int) (w : World) (hs : y.n ≤ 4999) (HH : Hid (HasQ w y p.l)) :
    Calls Try.prog 27 #[(.agg #[.int .i64 p.k, .int .i64 p.w, .slice y.o y.n y.c]), .int .i64 c] w fun e w' => ∃ z : Hd, e = .returned (.tuple #[(.agg #[.int .i64 (drP p c).k, .int .i64 (drP p c).w, .slice z.o z.n z.c]), .bool (drB p c)]) ∧ AnsR w w' y p.l z (drP p c).l := by
  go_enter Try.func27, Try.ntmps27
  go_upto_region 1 with fail
  have HT : Hid (B2 w ((w.alloc (.cells #[.int .i64 p.k, .int .i64 p.w, .slice y.o y.n y.c] 24)).alloc (.cells #[.int .i64 0, .int .i64 0, .slice none 0 0] 24)) p p0 y nilH) := b2_new w p p0 y nilH
  generalize (w.alloc (.cells #[.int .i64 p.k, .int .i64 p.w, .slice y.o y.n y.c] 24)).alloc (.cells #[.int .i64 0, .int .i64 0, .slice none 0 0] 24) = W at HT ⊢
  have c0 := HT.out.a.c0
  have c1 := HT.out.a.c1
  have c2 := HT.out.a.c2
  go_wp2_with fail
  refine (rfind_any p y c W (by omega) (HH.out.below HT.out.low)).mono ?_
  rintro e w1 ⟨rfl, b1⟩
  replace HT := hid (HT.out.below b1)
  clear b1 c0 c1 c2
  have c0 := HT.out.a.c0
  have c1 := HT.out.a.c1
  have c2 := HT.out.a.c2
  have hlw : w.heap.size + 1 < w1.heap.size := HT.out.lt
  cases h : fd c p.l with
  | none =>
    have HE := hid (dr_no h)
    rw [fI_none h]
    clear h
    have r0 : w1.cell? ⟨w.heap.size + 1, 0, none⟩ = some (.int .i64 0) := HT.out.r.c0
    have r1 : w1.cell? ⟨w.heap.size + 1, 1, none⟩ = some (.int .i64 0) := HT.out.r.c1
    have r2 : w1.cell? ⟨w.heap.size + 1, 2, none⟩ = some (.slice none 0 0) := HT.out.r.c2
    have g0 := HT.out.r.fz 0
    have g1 := HT.out.r.fz 1
    have g2 := HT.out.r.fz 2
    have HF := hid (B2.fin HT.out p y)
    go_wp2_with fail
    refine bodyPost_ret (v := .tuple #[(.agg #[.int .i64 p.k, .int .i64 p.w, .slice y.o y.n y.c]), .bool false]) (by simp [results, Try.results27, go_sem, *]) rfl ⟨y, retD HE.out.1 HE.out.2, ?_⟩
    rw [HE.out.1]
    exact ⟨HH.out.below HF.out, fun _ _ h => h, HF.out⟩
  | some i =>
    have HE := hid (dr_yes h)
    have hi : i < y.n := by have h1 := (fd_some.1 h).1; have h2 := HH.out.len; omega
    rw [fI_some h]
    clear h
    have i0 : ¬ (i : Int) < 0 := by omega
    go_wp2_with fail
    refine (rwithout_any p y i w1 (by omega) hi (HH.out.below HT.out.low)).mono ?_
    rintro e' w2 ⟨z, rfl, hz⟩
    have HZ := hid hz
    have HT2 := hid (HT.out.below hz.low)
    clear hz c0 c1 c2
    have r0 : w2.cell? ⟨w.heap.size + 1, 0, none⟩ = some (.int .i64 0) := HT2.out.r.c0
    have r1 : w2.cell? ⟨w.heap.size + 1, 1, none⟩ = some (.int .i64 0) := HT2.out.r.c1
    have r2 : w2.cell? ⟨w.heap.size + 1, 2, none⟩ = some (.slice none 0 0) := HT2.out.r.c2
    have g0 := HT2.out.r.fz 0
    have g1 := HT2.out.r.fz 1
    have g2 := HT2.out.r.fz 2
    have HF := hid (ans2 (q := woP p i) HT2.out HZ.out.has (off_less HZ.out.new hlw))
    go_wp2_with fail
    refine bodyPost_ret (v := .tuple #[(.agg #[.int .i64 (woP p i).k, .int .i64 (woP p i).w, .slice z.o z.n z.c]), .bool true]) (by simp [results, Try.results27, go_sem, *]) rfl ⟨z, retD HE.out.1 HE.out.2, ?_⟩
    rw [HE.out.1]
    exact HF.out.plain
end Go.Proofs.Ytpcdjpcdmnjdfaa.Po
