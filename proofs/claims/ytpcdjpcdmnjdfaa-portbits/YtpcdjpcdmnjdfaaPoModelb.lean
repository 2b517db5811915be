/- What model does. -/
import Derived.Test.YtpcdjpcdmnjdfaaPoAct
namespace Go.Proofs.Ytpcdjpcdmnjdfaa.Po
open Go.RowKit

set_option maxRecDepth 100000 in
set_option maxHeartbeats 1000000 in
theorem model1 (p : Pt) (y : Hd) (a : Ac) (w : World) (hs : y.n ≤ 4999) (hk : a.kind = 1) (HH : Hid (HasQ w y p.l)) :
    Calls Try.prog 11 #[(.agg #[.int .i64 p.k, .int .i64 p.w, .slice y.o y.n y.c]), (.agg #[.int .i64 a.kind, .int .i64 a.x.c, .int .i64 a.x.v, .int .i64 a.x.b, .bool a.x.h, .int .i64 a.x.o, .int .i64 a.x.s, .int .i64 a.x.g, .bool a.x.t, .int .i64 a.n])] w fun e w' => ∃ z : Hd, e = .returned (.tuple #[(.agg #[.int .i64 (doP p a).k, .int .i64 (doP p a).w, .slice z.o z.n z.c]), (.agg #[.int .i64 (doX p a).c, .int .i64 (doX p a).v, .int .i64 (doX p a).b, .bool (doX p a).h, .int .i64 (doX p a).o, .int .i64 (doX p a).s, .int .i64 (doX p a).g, .bool (doX p a).t]), .bool (doB p a), .int .i64 (doN p a), .int .i64 (doE p a)]) ∧ AnsR w w' y p.l z (doP p a).l := by
  have HE := hid (do_1 (p := p) hk)
  have hk0 : (a.kind == 0) = false := by simp [hk]
  have hk1 : (a.kind == 1) = true := by simp [hk]
  clear hk
  go_enter Try.func11, Try.ntmps11
  go_upto_region 1 with fail
  have HT : Hid (B5 w ((((w.alloc (.cells #[.int .i64 p.k, .int .i64 p.w, .slice y.o y.n y.c] 24)).alloc (.cells #[.int .i64 a.kind, .int .i64 a.x.c, .int .i64 a.x.v, .int .i64 a.x.b, .bool a.x.h, .int .i64 a.x.o, .int .i64 a.x.s, .int .i64 a.x.g, .bool a.x.t, .int .i64 a.n] 30)).alloc (.cells #[.int .i64 0, .int .i64 0, .slice none 0 0] 24)).alloc (.cells #[.int .i64 0, .int .i64 0, .int .i64 0, .bool false, .int .i64 0, .int .i64 0, .int .i64 0, .bool false] 28)) p p0 y nilH a z0) := b5_new w p p0 y nilH a z0
  generalize (((w.alloc (.cells #[.int .i64 p.k, .int .i64 p.w, .slice y.o y.n y.c] 24)).alloc (.cells #[.int .i64 a.kind, .int .i64 a.x.c, .int .i64 a.x.v, .int .i64 a.x.b, .bool a.x.h, .int .i64 a.x.o, .int .i64 a.x.s, .int .i64 a.x.g, .bool a.x.t, .int .i64 a.n] 30)).alloc (.cells #[.int .i64 0, .int .i64 0, .slice none 0 0] 24)).alloc (.cells #[.int .i64 0, .int .i64 0, .int .i64 0, .bool false, .int .i64 0, .int .i64 0, .int .i64 0, .bool false] 28) = W at HT ⊢
  have c0 := HT.out.a.c0
  have c1 := HT.out.a.c1
  have c2 := HT.out.a.c2
  obtain ⟨x8, x0, x1, x2, x3, x4, x5, x6, x7, x9⟩ := HT.out.b
  have HC := hid (rRecv_any p y a.x W hs (HH.out.below HT.out.low))
  have HWl := hid HT.out.lt
  have HW := hid HT.out.low
  go_wp2_with fail
  refine HC.out.mono ?_
  generalize cmP p a.x 2 1 = q at HE ⊢
  generalize cmX p a.x 1 = v at HE ⊢
  generalize cmB p a.x 1 = ok at HE ⊢
  generalize rfE p a.x.c = er at HE ⊢
  rintro e w1 ⟨z, rfl, hz⟩
  have HZ := hid hz
  clear c0 c1 c2 x0 x1 x2 x3 x4 x5 x6 x7 x8 x9 hz HC
  replace HT := hid (HT.out.below HZ.out.low)
  have HO : Hid (Off (fun i => w.heap.size ≤ i ∧ i < W.heap.size) z.o (wts q.l)) := HZ.out.boxes HH.out
  go_upto_region 7 with fail
  have HB1 := hid (q_alloc (alloc_below w1 (.cells #[.int .i64 q.k, .int .i64 q.w, .slice z.o z.n z.c] 24)) (.cells #[.int .i64 v.c, .int .i64 v.v, .int .i64 v.b, .bool v.h, .int .i64 v.o, .int .i64 v.s, .int .i64 v.g, .bool v.t] 28))
  have HX := hid (two_pw w1 q z v)
  have HQ2 := hid (HZ.out.has.below HB1.out)
  replace HT := hid (HT.out.below HB1.out)
  have hw1 : w.heap.size + 3 < w1.heap.size := Nat.lt_of_lt_of_le HWl.out HZ.out.low.size
  have ne1 : w1.heap.size ≠ w.heap.size + 2 := by omega
  have ne2 : w1.heap.size + 1 ≠ w.heap.size + 2 := by omega
  have ne3 : w1.heap.size ≠ w.heap.size + 3 := by omega
  have ne4 : w1.heap.size + 1 ≠ w.heap.size + 3 := by omega
  generalize (w1.alloc (.cells #[.int .i64 q.k, .int .i64 q.w, .slice z.o z.n z.c] 24)).alloc (.cells #[.int .i64 v.c, .int .i64 v.v, .int .i64 v.b, .bool v.h, .int .i64 v.o, .int .i64 v.s, .int .i64 v.g, .bool v.t] 28) = W2 at HB1 HQ2 HT HX ⊢
  have r0 : W2.cell? ⟨w.heap.size + 2, 0, none⟩ = some (.int .i64 0) := HT.out.r.c0
  have r1 : W2.cell? ⟨w.heap.size + 2, 1, none⟩ = some (.int .i64 0) := HT.out.r.c1
  have r2 : W2.cell? ⟨w.heap.size + 2, 2, none⟩ = some (.slice none 0 0) := HT.out.r.c2
  have g0 := HT.out.r.fz 0
  have g1 := HT.out.r.fz 1
  have g2 := HT.out.r.fz 2
  obtain ⟨s0, s1, s2, s3, s4, s5, s6, s7⟩ := HT.out.s.at
  have k0 := HT.out.s.fz 0
  have k1 := HT.out.s.fz 1
  have k2 := HT.out.s.fz 2
  have k3 := HT.out.s.fz 3
  have k4 := HT.out.s.fz 4
  have k5 := HT.out.s.fz 5
  have k6 := HT.out.s.fz 6
  have k7 := HT.out.s.fz 7
  have hlw : w.heap.size + 3 < W2.heap.size := HT.out.lt
  have HF : Hid (AnsR w (put8 (put3 W2 (w.heap.size + 2) q z) (w.heap.size + 3) v) y p.l z q.l) := HZ.out.up HW.out (HQ2.out.put38 HO.out ⟨Nat.le_add_right _ 2, by have := HWl.out; omega⟩ ⟨Nat.le_add_right _ 3, HWl.out⟩) (HT.out.fin q z v)
  have hS : S5 w1.heap.size q z.o z.n z.c ⟨w1.heap.size + 1, 0, none⟩ v W2 := s5_two HX.out.1 HX.out.2
  have HS2 : Hid (S5 w1.heap.size q z.o z.n z.c ⟨w1.heap.size + 1, 0, none⟩ v (put3 W2 (w.heap.size + 2) q z).drew) := s5_drew (s5_put3 hS ne1 ne2)
  have HS3 : Hid (S5 w1.heap.size q z.o z.n z.c ⟨w1.heap.size + 1, 0, none⟩ v (put8 (put3 W2 (w.heap.size + 2) q z) (w.heap.size + 3) v).drew) := s5_drew (s5_put8 (s5_put3 hS ne1 ne2) ne3 ne4)
  go_region_held3 (S5 w1.heap.size q z.o z.n z.c ⟨w1.heap.size + 1, 0, none⟩ v) (first | with_reducible assumption | with_reducible exact s5_drew hS | with_reducible exact HS2.out | with_reducible exact HS3.out)
    (fail)
  all_goals
    go_wp2_with fail
    refine bodyPost_ret (v := .tuple #[(.agg #[.int .i64 q.k, .int .i64 q.w, .slice z.o z.n z.c]), (.agg #[.int .i64 v.c, .int .i64 v.v, .int .i64 v.b, .bool v.h, .int .i64 v.o, .int .i64 v.s, .int .i64 v.g, .bool v.t]), .bool ok, .int .i64 0, .int .i64 er]) (by simp [results, Try.results11, go_sem, *]) rfl ⟨z, ret5 HE.out, ?_⟩
    rw [HE.out.1]
    first | with_reducible exact HF.out | with_reducible exact HF.out.drew
end Go.Proofs.Ytpcdjpcdmnjdfaa.Po
