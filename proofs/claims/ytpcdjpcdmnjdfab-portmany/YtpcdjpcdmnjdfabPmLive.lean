/- What live does. -/
import Derived.Test.YtpcdjpcdmnjdfabPmFin
namespace Go.Proofs.Ytpcdjpcdmnjdfab.Po
open Go.RowKit

def L1 : Pt := ⟨2, 0, [wh 1]⟩
def L2 : Pt := ⟨2, 0, [wh 1, wh 2]⟩
def L3 : Pt := ⟨2, 0, [wh 2]⟩
def L4 : Pt := ⟨0, 5, []⟩
theorem l1 : cmP p0 (wh 1) 2 1 = L1 ∧ cmX p0 (wh 1) 1 = z0 ∧ cmB p0 (wh 1) 1 = false ∧ rfE p0 (wh 1).c = 0 := ⟨by rfl, by rfl, by rfl, by rfl⟩
theorem l2 : cmP L1 (wh 2) 2 1 = L2 ∧ cmX L1 (wh 2) 1 = z0 ∧ cmB L1 (wh 2) 1 = false ∧ rfE L1 (wh 2).c = 0 := ⟨by rfl, by rfl, by rfl, by rfl⟩
theorem l3 : cmP L2 (wh 3) 1 2 = L3 ∧ cmX L2 (wh 3) 2 = wh 1 ∧ cmB L2 (wh 3) 2 = true ∧ rfE L2 (wh 3).c = 0 := ⟨by rfl, by rfl, by rfl, by rfl⟩
theorem l4 : cmP L2 (wh 2) 1 2 = L2 ∧ cmX L2 (wh 2) 2 = z0 ∧ cmB L2 (wh 2) 2 = false ∧ rfE L2 (wh 2).c = 8 := ⟨by rfl, by rfl, by rfl, by rfl⟩
theorem l5 : sgP p0 5 = L4 ∧ sgX p0 5 = z0 ∧ sgB p0 = false := ⟨by rfl, by rfl, by rfl⟩
theorem l6 : waP L4 0 = p0 ∧ waN L4 0 = 5 ∧ rfE L4 0 = 0 := ⟨by rfl, by rfl, by rfl⟩
theorem l7 : drP L3 2 = p0 ∧ drB L3 2 = true := ⟨by rfl, by rfl⟩
theorem l8 : eqP p0 p0 = true ∧ ckE L3 = 0 ∧ ckE ⟨1, 0, []⟩ = 2 := ⟨by rfl, by rfl, by rfl⟩
theorem c1 (X : World) : Calls Try.prog 7 #[.agg #[.int .i64 0, .int .i64 0, .slice none 0 0], .agg #[.int .i64 1, .int .i64 1, .int .i64 0, .bool false, .int .i64 0, .int .i64 0, .int .i64 0, .bool false]] X fun e w' => ∃ z : Hd, e = .returned (.tuple #[(.agg #[.int .i64 L1.k, .int .i64 L1.w, .slice z.o z.n z.c]), .agg #[.int .i64 0, .int .i64 0, .int .i64 0, .bool false, .int .i64 0, .int .i64 0, .int .i64 0, .bool false], .bool false, .int .i64 0]) ∧ Ans X w' z L1.l := by
  have h := recv_any p0 nilH (wh 1) X (by decide) (hasQ_nil X)
  rw [l1.1, l1.2.1, l1.2.2.1, l1.2.2.2] at h
  exact h
theorem c2 (X : World) (y : Hd) (hy : HasQ X y L1.l) : Calls Try.prog 7 #[(.agg #[.int .i64 L1.k, .int .i64 L1.w, .slice y.o y.n y.c]), .agg #[.int .i64 2, .int .i64 2, .int .i64 0, .bool false, .int .i64 0, .int .i64 0, .int .i64 0, .bool false]] X fun e w' => ∃ z : Hd, e = .returned (.tuple #[(.agg #[.int .i64 L2.k, .int .i64 L2.w, .slice z.o z.n z.c]), .agg #[.int .i64 0, .int .i64 0, .int .i64 0, .bool false, .int .i64 0, .int .i64 0, .int .i64 0, .bool false], .bool false, .int .i64 0]) ∧ Ans X w' z L2.l := by
  have h := recv_any L1 y (wh 2) X (by have := hy.len; simp [L1] at this; omega) hy
  rw [l2.1, l2.2.1, l2.2.2.1, l2.2.2.2] at h
  exact h
theorem c3 (X : World) (y : Hd) (hy : HasQ X y L2.l) : Calls Try.prog 5 #[(.agg #[.int .i64 L2.k, .int .i64 L2.w, .slice y.o y.n y.c]), .agg #[.int .i64 3, .int .i64 3, .int .i64 0, .bool false, .int .i64 0, .int .i64 0, .int .i64 0, .bool false]] X fun e w' => ∃ z : Hd, e = .returned (.tuple #[(.agg #[.int .i64 L3.k, .int .i64 L3.w, .slice z.o z.n z.c]), .agg #[.int .i64 1, .int .i64 1, .int .i64 0, .bool false, .int .i64 0, .int .i64 0, .int .i64 0, .bool false], .bool true, .int .i64 0]) ∧ Ans X w' z L3.l := by
  have h := send_any L2 y (wh 3) X (by have := hy.len; simp [L2] at this; omega) hy
  rw [l3.1, l3.2.1, l3.2.2.1, l3.2.2.2] at h
  exact h
theorem c4 (X : World) (y : Hd) (hy : HasQ X y L2.l) : Calls Try.prog 5 #[(.agg #[.int .i64 L2.k, .int .i64 L2.w, .slice y.o y.n y.c]), .agg #[.int .i64 2, .int .i64 2, .int .i64 0, .bool false, .int .i64 0, .int .i64 0, .int .i64 0, .bool false]] X fun e w' => ∃ z : Hd, e = .returned (.tuple #[(.agg #[.int .i64 L2.k, .int .i64 L2.w, .slice z.o z.n z.c]), .agg #[.int .i64 0, .int .i64 0, .int .i64 0, .bool false, .int .i64 0, .int .i64 0, .int .i64 0, .bool false], .bool false, .int .i64 8]) ∧ Ans X w' z L2.l := by
  have h := send_any L2 y (wh 2) X (by have := hy.len; simp [L2] at this; omega) hy
  rw [l4.1, l4.2.1, l4.2.2.1, l4.2.2.2] at h
  exact h
theorem c5 (X : World) : Calls Try.prog 10 #[.agg #[.int .i64 0, .int .i64 0, .slice none 0 0], .int .i64 5] X fun e w' => ∃ z : Hd, e = .returned (.tuple #[.agg #[.int .i64 L4.k, .int .i64 5, .slice z.o z.n z.c], .agg #[.int .i64 0, .int .i64 0, .int .i64 0, .bool false, .int .i64 0, .int .i64 0, .int .i64 0, .bool false], .bool false]) ∧ Ans X w' z L4.l := by
  have h := signal_any p0 nilH 5 X (by decide) (hasQ_nil X)
  rw [l5.1, l5.2.1, l5.2.2] at h
  exact h
theorem c6 (X : World) (y : Hd) (hy : HasQ X y L4.l) : Calls Try.prog 11 #[.agg #[.int .i64 L4.k, .int .i64 5, .slice y.o y.n y.c], .int .i64 0] X fun e w' => ∃ z : Hd, e = .returned (.tuple #[(.agg #[.int .i64 p0.k, .int .i64 p0.w, .slice z.o z.n z.c]), .int .i64 5, .int .i64 0]) ∧ Ans X w' z p0.l := by
  have h := wait_any L4 y 0 X (by have := hy.len; simp [L4] at this; omega) hy
  rw [l6.1, l6.2.1, l6.2.2] at h
  exact h
theorem c7 (X : World) (y : Hd) (hy : HasQ X y L3.l) : Calls Try.prog 12 #[(.agg #[.int .i64 L3.k, .int .i64 L3.w, .slice y.o y.n y.c]), .int .i64 2] X fun e w' => ∃ z : Hd, e = .returned (.tuple #[.agg #[.int .i64 0, .int .i64 0, .slice z.o z.n z.c], .bool true]) ∧ Ans X w' z p0.l := by
  have h := drop_any L3 y 2 X (by have := hy.len; simp [L3] at this; omega) hy
  rw [l7.1, l7.2] at h
  exact h
theorem c8 (X : World) (y : Hd) (hy : HasQ X y p0.l) : Calls Try.prog 9 #[.agg #[.int .i64 0, .int .i64 0, .slice y.o y.n y.c], .agg #[.int .i64 0, .int .i64 0, .slice none 0 0]] X fun e w' => e = .returned (.bool true) ∧ Below X.heap.size X w' := by
  have h := psame_any p0 p0 y nilH X (by have := hy.len; simp at this; omega) hy (hasQ_nil X)
  rw [l8.1] at h
  exact h
theorem c9 (X : World) (y : Hd) (hy : HasQ X y L3.l) : Calls Try.prog 13 #[(.agg #[.int .i64 L3.k, .int .i64 L3.w, .slice y.o y.n y.c])] X fun e w' => e = .returned (.int .i64 0) ∧ Below X.heap.size X w' := by
  have h := pcheck_any L3 y X (by have := hy.len; simp [L3] at this; omega) hy
  rw [l8.2.1] at h
  exact h
theorem ca (X : World) : Calls Try.prog 13 #[.agg #[.int .i64 1, .int .i64 0, .slice none 0 0]] X fun e w' => e = .returned (.int .i64 2) ∧ Below X.heap.size X w' := by
  have h := pcheck_any ⟨1, 0, []⟩ nilH X (by decide) (hasQ_nil X)
  rw [l8.2.2] at h
  exact h
theorem s3_put3 {w : World} {c d : Nat} {p q : Pt} {y z : Hd} (h : S3 c p y w) (h1 : c ≠ d) : S3 c p y (put3 w d q z) := s3_kept h (kept_put3 w d q z) h1
theorem s3_put8 {w : World} {c d : Nat} {p : Pt} {y : Hd} {v : Wt} (h : S3 c p y w) (h1 : c ≠ d) : S3 c p y (put8 w d v) := s3_kept h (kept_put8 w d v) h1
/-- What is known behind the first two calls: the port's box, and what lies below. -/
structure Lv (w wx : World) (c : Nat) (q : Pt) (z : Hd) : Prop where
  p : Pb wx c q z
  has : HasQ wx z q.l
  low : Below w.heap.size w wx
  lo : w.heap.size ≤ c
theorem Lv.below {w wx w' : World} {c : Nat} {q : Pt} {z : Hd} (h : Lv w wx c q z) (b : Below wx.heap.size wx w') : Lv w w' c q z := ⟨h.p.below b, h.has.below b, q_trans h.low b, h.lo⟩
/-- The port's box is written: the waiter's came ahead of the call, or behind it. -/
theorem lv_put8 {w W X w9 : World} {c b : Nat} {p q : Pt} {y z : Hd} {v : Wt} (h : Lv w W c p y) (hX : Below W.heap.size W X) (hz : Ans X w9 z q.l) (hb : W.heap.size ≤ b) (hb2 : b < X.heap.size) : Lv w (put8 (put3 w9 c q z) b v) c q z := by
  have g := (h.below hX).below hz.low
  have hc := h.p.lt
  exact ⟨(g.p.put (p' := q) (y' := z)).kept (kept_put8 (put3 w9 c q z) b v) (by omega), (hz.has.put g.p).kept (kept_put8 (put3 w9 c q z) b v) (fun h0 a e s => hz.new h0 a e (by have s : a.block = b := s; show a.block < _; omega)), put8_low (put3_low g.low h.lo) (Nat.le_trans h.low.size hb), h.lo⟩
theorem lv_alloc {w W X w9 : World} {c : Nat} {p q : Pt} {y z : Hd} (h : Lv w W c p y) (hX : Below W.heap.size W X) (hz : Ans X w9 z q.l) (o : Obj) : Lv w ((put3 w9 c q z).alloc o) c q z := by
  have g := (h.below hX).below hz.low
  exact Lv.below ⟨g.p.put (p' := q) (y' := z), hz.has.put g.p, put3_low g.low h.lo, h.lo⟩ (alloc_below _ _)
set_option maxRecDepth 100000 in
set_option maxHeartbeats 8000000 in
theorem live_any (w : World) :
    Calls Try.prog 4 #[] w fun e w' => e = .returned (.bool true) ∧ Below w.heap.size w w' := by
  go_enter Try.func4, Try.ntmps4
  go_upto_region 2 with (first | (go_at_call 6; refine (who_any _ _).mono ?_; rintro e w8 ⟨rfl, hw⟩; rw [hw]; clear hw w8) | (go_at_call 7; refine (c1 _).mono ?_; rintro e w1 ⟨z1, rfl, hz1⟩))
  have HL : Hid (Lv w ((w1.alloc (.cells #[.int .i64 L1.k, .int .i64 L1.w, .slice z1.o z1.n z1.c] 25)).alloc (.cells #[.int .i64 0, .int .i64 0, .int .i64 0, .bool false, .int .i64 0, .int .i64 0, .int .i64 0, .bool false] 30)) w1.heap.size L1 z1) := by
    have b1 := q_trans (alloc_below w _) hz1.low
    exact ⟨(pb_new w1 L1 z1).below (alloc_below _ _), (hz1.has.below (alloc_below _ _)).below (alloc_below _ _), q_alloc (q_alloc b1 _) _, b1.size⟩
  clear hz1
  generalize w1.heap.size = b1 at HL ⊢
  generalize (w1.alloc (.cells #[.int .i64 L1.k, .int .i64 L1.w, .slice z1.o z1.n z1.c] 25)).alloc (.cells #[.int .i64 0, .int .i64 0, .int .i64 0, .bool false, .int .i64 0, .int .i64 0, .int .i64 0, .bool false] 30) = W at HL ⊢
  clear w1
  have p0 := HL.out.p.c0
  have p1 := HL.out.p.c1
  have p2 := HL.out.p.c2
  have HQ : Hid (∀ X, Below W.heap.size W X → (X.cell? ⟨b1, 0, none⟩ = some (.int .i64 L1.k) ∧ X.cell? ⟨b1, 1, none⟩ = some (.int .i64 L1.w) ∧ X.cell? ⟨b1, 2, none⟩ = some (.slice z1.o z1.n z1.c)) ∧ X.frozen? ⟨b1, 0, none⟩ = false ∧ X.frozen? ⟨b1, 1, none⟩ = false ∧ X.frozen? ⟨b1, 2, none⟩ = false ∧ b1 < X.heap.size) := fun X b => ⟨⟨(HL.out.p.below b).c0, (HL.out.p.below b).c1, (HL.out.p.below b).c2⟩, (HL.out.p.below b).fz 0, (HL.out.p.below b).fz 1, (HL.out.p.below b).fz 2, (HL.out.p.below b).lt⟩
  have hbl : b1 < W.heap.size := HL.out.p.lt
  go_cut [5, 6, 7] from 32 to 39 (fun s5 s6 s7 wx => ∃ (b : Nat) (z : Hd), s5 = .pointer (some ⟨b, 0, none⟩) ∧ s6 = .bool false ∧ s7 = .int .i64 0 ∧ Hid (Lv w wx b1 L2 z))
  case first =>
    go_region_with
      (first
        | (go_at_call 6; refine (who_any _ _).mono ?_; rintro e w8 ⟨rfl, hw⟩; rw [hw]; clear hw w8)
        | (go_at_call 7; refine (c2 _ z1 (HL.out.has.below (by first | exact (Below.refl _ W).drew | exact q_alloc (Below.refl _ W).drew _ | exact q_alloc (q_alloc (Below.refl _ W).drew _) _ | exact q_alloc (q_alloc (q_alloc (Below.refl _ W).drew _) _) _))).mono ?_; rintro e w9 ⟨z9, rfl, hz⟩; have HZ := hid hz; have q9 := HQ.out _ (q_trans (by first | exact (Below.refl _ W).drew | exact q_alloc (Below.refl _ W).drew _ | exact q_alloc (q_alloc (Below.refl _ W).drew _) _ | exact q_alloc (q_alloc (q_alloc (Below.refl _ W).drew _) _) _) hz.low); obtain ⟨⟨r0, r1, r2⟩, f0, f1, f2, hb9⟩ := q9; (first | (have hl3 := lay3 W _ _ _ hz.low; obtain ⟨e0, e1, e2⟩ := hl3; (try (have HWB : Hid (Wb w9 W.heap.size z0) := (Wb.mk e0); obtain ⟨s0, s1, s2, s3, s4, s5, s6, s7⟩ := HWB.out.at; have k0 := HWB.out.fz 0; have k1 := HWB.out.fz 1; have k2 := HWB.out.fz 2; have k3 := HWB.out.fz 3; have k4 := HWB.out.fz 4; have k5 := HWB.out.fz 5; have k6 := HWB.out.fz 6; have k7 := HWB.out.fz 7; have hlb := HWB.out.lt)); clear e0; (try (have HWB : Hid (Wb w9 (W.heap.size + 1) z0) := (Wb.mk e1); obtain ⟨s0, s1, s2, s3, s4, s5, s6, s7⟩ := HWB.out.at; have k0 := HWB.out.fz 0; have k1 := HWB.out.fz 1; have k2 := HWB.out.fz 2; have k3 := HWB.out.fz 3; have k4 := HWB.out.fz 4; have k5 := HWB.out.fz 5; have k6 := HWB.out.fz 6; have k7 := HWB.out.fz 7; have hlb := HWB.out.lt)); clear e1; (try (have HWB : Hid (Wb w9 (W.heap.size + 2) z0) := (Wb.mk e2); obtain ⟨s0, s1, s2, s3, s4, s5, s6, s7⟩ := HWB.out.at; have k0 := HWB.out.fz 0; have k1 := HWB.out.fz 1; have k2 := HWB.out.fz 2; have k3 := HWB.out.fz 3; have k4 := HWB.out.fz 4; have k5 := HWB.out.fz 5; have k6 := HWB.out.fz 6; have k7 := HWB.out.fz 7; have hlb := HWB.out.lt)); clear e2) | (have hl2 := lay2 W _ _ hz.low; obtain ⟨e0, e1⟩ := hl2; (try (have HWB : Hid (Wb w9 W.heap.size z0) := (Wb.mk e0); obtain ⟨s0, s1, s2, s3, s4, s5, s6, s7⟩ := HWB.out.at; have k0 := HWB.out.fz 0; have k1 := HWB.out.fz 1; have k2 := HWB.out.fz 2; have k3 := HWB.out.fz 3; have k4 := HWB.out.fz 4; have k5 := HWB.out.fz 5; have k6 := HWB.out.fz 6; have k7 := HWB.out.fz 7; have hlb := HWB.out.lt)); clear e0; (try (have HWB : Hid (Wb w9 (W.heap.size + 1) z0) := (Wb.mk e1); obtain ⟨s0, s1, s2, s3, s4, s5, s6, s7⟩ := HWB.out.at; have k0 := HWB.out.fz 0; have k1 := HWB.out.fz 1; have k2 := HWB.out.fz 2; have k3 := HWB.out.fz 3; have k4 := HWB.out.fz 4; have k5 := HWB.out.fz 5; have k6 := HWB.out.fz 6; have k7 := HWB.out.fz 7; have hlb := HWB.out.lt)); clear e1) | (have e0 := lay1 W _ hz.low; (try (have HWB : Hid (Wb w9 W.heap.size z0) := (Wb.mk e0); obtain ⟨s0, s1, s2, s3, s4, s5, s6, s7⟩ := HWB.out.at; have k0 := HWB.out.fz 0; have k1 := HWB.out.fz 1; have k2 := HWB.out.fz 2; have k3 := HWB.out.fz 3; have k4 := HWB.out.fz 4; have k5 := HWB.out.fz 5; have k6 := HWB.out.fz 6; have k7 := HWB.out.fz 7; have hlb := HWB.out.lt)); clear e0) | skip); clear hz)
        | fail)
    all_goals (try go_wp2_with fail)
    all_goals go_meet
    all_goals
      first
        | (with_reducible refine ⟨_, z9, rfl, rfl, rfl, hid (lv_alloc HL.out ?_ HZ.out _)⟩; (repeat' (first | with_reducible exact Below.refl _ _ | with_reducible refine Below.drew ?_ | with_reducible refine q_alloc ?_ _)))
        | (with_reducible refine ⟨_, z9, rfl, rfl, rfl, hid (lv_put8 (v := z0) HL.out ?_ HZ.out ?_ ?_)⟩; (repeat' (first | with_reducible exact Below.refl _ _ | with_reducible refine Below.drew ?_ | with_reducible refine q_alloc ?_ _)); omega; (simp <;> omega))
        | fail
  case rest =>
    obtain ⟨b5, z2, rfl, rfl, rfl, HLn⟩ := hcut
    clear HL HQ p0 p1 p2 hbl
    obtain ⟨W, hWc⟩ : ∃ W, W = wc := ⟨_, rfl⟩
    subst hWc
    have HL := HLn
    clear HLn
    have hbl : b1 < W.heap.size := HL.out.p.lt
    go_upto_region 3 with fail
    go_cut [8, 9, 10, 11] from 40 to 47 (fun sa sb sc sd wx => ∃ (bP bW : Nat) (z : Hd), sa = .pointer (some ⟨bP, 0, none⟩) ∧ sb = .pointer (some ⟨bW, 0, none⟩) ∧ sc = .bool true ∧ sd = .int .i64 0 ∧ Hid (Fin W wx bP bW L3 z (wh 1)))
    case first =>
      have hS : S3 b1 L2 z2 W := s3_of HL.out.p
      have HSK : Hid (∀ X, Below W.heap.size W X → S3 b1 L2 z2 X) := fun X b => s3_low hS b
      go_region_held3 (SL W b1 L2 z2) ((refine keep_S3 hS ?_; repeat' (first | with_reducible exact HB9.out | with_reducible exact (Below.refl _ W).drew | with_reducible exact Below.refl _ _ | with_reducible refine Below.drew ?_ | with_reducible refine q_alloc ?_ _ | with_reducible refine q_set ?_ (by dsimp only; omega) _)))
        (first
          | (go_at_call 6; refine (who_any _ _).mono ?_; rintro e w8 ⟨rfl, hw⟩; rw [hw]; clear hw w8)
          | (go_at_call 5; refine (c3 _ z2 (HL.out.has.below (by first | exact (Below.refl _ W).drew | exact q_alloc (Below.refl _ W).drew _ | exact q_alloc (q_alloc (Below.refl _ W).drew _) _ | exact q_alloc (q_alloc (q_alloc (Below.refl _ W).drew _) _) _))).mono ?_; rintro e w9 ⟨z9, rfl, hz⟩; have HR9 := hid (res_of (W := W) hz (by first | exact (Below.refl _ W).drew | exact q_alloc (Below.refl _ W).drew _ | exact q_alloc (q_alloc (Below.refl _ W).drew _) _ | exact q_alloc (q_alloc (q_alloc (Below.refl _ W).drew _) _) _)); have HB9 : Hid (Below W.heap.size W w9) := ((q_trans (by first | exact (Below.refl _ W).drew | exact q_alloc (Below.refl _ W).drew _ | exact q_alloc (q_alloc (Below.refl _ W).drew _) _ | exact q_alloc (q_alloc (q_alloc (Below.refl _ W).drew _) _) _) hz.low)); have hW9 : W.heap.size < w9.heap.size := Nat.lt_of_lt_of_le (by simp <;> omega) hz.low.size; (first | (have hl3 := lay3 W _ _ _ hz.low; obtain ⟨e0, e1, e2⟩ := hl3; (try (have HWB : Hid (Wb w9 W.heap.size z0) := (Wb.mk e0); obtain ⟨s0, s1, s2, s3, s4, s5, s6, s7⟩ := HWB.out.at; have k0 := HWB.out.fz 0; have k1 := HWB.out.fz 1; have k2 := HWB.out.fz 2; have k3 := HWB.out.fz 3; have k4 := HWB.out.fz 4; have k5 := HWB.out.fz 5; have k6 := HWB.out.fz 6; have k7 := HWB.out.fz 7; have hlb := HWB.out.lt)); (try (have HPB : Hid (Pb w9 W.heap.size p0 nilH) := (Pb.mk e0); have g0 : w9.cell? ⟨_, 0, none⟩ = some (.int .i64 0) := HPB.out.c0; have g1 : w9.cell? ⟨_, 1, none⟩ = some (.int .i64 0) := HPB.out.c1; have g2 : w9.cell? ⟨_, 2, none⟩ = some (.slice none 0 0) := HPB.out.c2; have h0 := HPB.out.fz 0; have h1 := HPB.out.fz 1; have h2 := HPB.out.fz 2; have hlp := HPB.out.lt)); clear e0; (try (have HWB : Hid (Wb w9 (W.heap.size + 1) z0) := (Wb.mk e1); obtain ⟨s0, s1, s2, s3, s4, s5, s6, s7⟩ := HWB.out.at; have k0 := HWB.out.fz 0; have k1 := HWB.out.fz 1; have k2 := HWB.out.fz 2; have k3 := HWB.out.fz 3; have k4 := HWB.out.fz 4; have k5 := HWB.out.fz 5; have k6 := HWB.out.fz 6; have k7 := HWB.out.fz 7; have hlb := HWB.out.lt)); (try (have HPB : Hid (Pb w9 (W.heap.size + 1) p0 nilH) := (Pb.mk e1); have g0 : w9.cell? ⟨_, 0, none⟩ = some (.int .i64 0) := HPB.out.c0; have g1 : w9.cell? ⟨_, 1, none⟩ = some (.int .i64 0) := HPB.out.c1; have g2 : w9.cell? ⟨_, 2, none⟩ = some (.slice none 0 0) := HPB.out.c2; have h0 := HPB.out.fz 0; have h1 := HPB.out.fz 1; have h2 := HPB.out.fz 2; have hlp := HPB.out.lt)); clear e1; (try (have HWB : Hid (Wb w9 (W.heap.size + 2) z0) := (Wb.mk e2); obtain ⟨s0, s1, s2, s3, s4, s5, s6, s7⟩ := HWB.out.at; have k0 := HWB.out.fz 0; have k1 := HWB.out.fz 1; have k2 := HWB.out.fz 2; have k3 := HWB.out.fz 3; have k4 := HWB.out.fz 4; have k5 := HWB.out.fz 5; have k6 := HWB.out.fz 6; have k7 := HWB.out.fz 7; have hlb := HWB.out.lt)); (try (have HPB : Hid (Pb w9 (W.heap.size + 2) p0 nilH) := (Pb.mk e2); have g0 : w9.cell? ⟨_, 0, none⟩ = some (.int .i64 0) := HPB.out.c0; have g1 : w9.cell? ⟨_, 1, none⟩ = some (.int .i64 0) := HPB.out.c1; have g2 : w9.cell? ⟨_, 2, none⟩ = some (.slice none 0 0) := HPB.out.c2; have h0 := HPB.out.fz 0; have h1 := HPB.out.fz 1; have h2 := HPB.out.fz 2; have hlp := HPB.out.lt)); clear e2) | (have hl2 := lay2 W _ _ hz.low; obtain ⟨e0, e1⟩ := hl2; (try (have HWB : Hid (Wb w9 W.heap.size z0) := (Wb.mk e0); obtain ⟨s0, s1, s2, s3, s4, s5, s6, s7⟩ := HWB.out.at; have k0 := HWB.out.fz 0; have k1 := HWB.out.fz 1; have k2 := HWB.out.fz 2; have k3 := HWB.out.fz 3; have k4 := HWB.out.fz 4; have k5 := HWB.out.fz 5; have k6 := HWB.out.fz 6; have k7 := HWB.out.fz 7; have hlb := HWB.out.lt)); (try (have HPB : Hid (Pb w9 W.heap.size p0 nilH) := (Pb.mk e0); have g0 : w9.cell? ⟨_, 0, none⟩ = some (.int .i64 0) := HPB.out.c0; have g1 : w9.cell? ⟨_, 1, none⟩ = some (.int .i64 0) := HPB.out.c1; have g2 : w9.cell? ⟨_, 2, none⟩ = some (.slice none 0 0) := HPB.out.c2; have h0 := HPB.out.fz 0; have h1 := HPB.out.fz 1; have h2 := HPB.out.fz 2; have hlp := HPB.out.lt)); clear e0; (try (have HWB : Hid (Wb w9 (W.heap.size + 1) z0) := (Wb.mk e1); obtain ⟨s0, s1, s2, s3, s4, s5, s6, s7⟩ := HWB.out.at; have k0 := HWB.out.fz 0; have k1 := HWB.out.fz 1; have k2 := HWB.out.fz 2; have k3 := HWB.out.fz 3; have k4 := HWB.out.fz 4; have k5 := HWB.out.fz 5; have k6 := HWB.out.fz 6; have k7 := HWB.out.fz 7; have hlb := HWB.out.lt)); (try (have HPB : Hid (Pb w9 (W.heap.size + 1) p0 nilH) := (Pb.mk e1); have g0 : w9.cell? ⟨_, 0, none⟩ = some (.int .i64 0) := HPB.out.c0; have g1 : w9.cell? ⟨_, 1, none⟩ = some (.int .i64 0) := HPB.out.c1; have g2 : w9.cell? ⟨_, 2, none⟩ = some (.slice none 0 0) := HPB.out.c2; have h0 := HPB.out.fz 0; have h1 := HPB.out.fz 1; have h2 := HPB.out.fz 2; have hlp := HPB.out.lt)); clear e1) | (have e0 := lay1 W _ hz.low; (try (have HWB : Hid (Wb w9 W.heap.size z0) := (Wb.mk e0); obtain ⟨s0, s1, s2, s3, s4, s5, s6, s7⟩ := HWB.out.at; have k0 := HWB.out.fz 0; have k1 := HWB.out.fz 1; have k2 := HWB.out.fz 2; have k3 := HWB.out.fz 3; have k4 := HWB.out.fz 4; have k5 := HWB.out.fz 5; have k6 := HWB.out.fz 6; have k7 := HWB.out.fz 7; have hlb := HWB.out.lt)); (try (have HPB : Hid (Pb w9 W.heap.size p0 nilH) := (Pb.mk e0); have g0 : w9.cell? ⟨_, 0, none⟩ = some (.int .i64 0) := HPB.out.c0; have g1 : w9.cell? ⟨_, 1, none⟩ = some (.int .i64 0) := HPB.out.c1; have g2 : w9.cell? ⟨_, 2, none⟩ = some (.slice none 0 0) := HPB.out.c2; have h0 := HPB.out.fz 0; have h1 := HPB.out.fz 1; have h2 := HPB.out.fz 2; have hlp := HPB.out.lt)); clear e0) | skip); clear hz)
          | fail)
      all_goals (try go_wp2_with fail)
      all_goals go_meet
      all_goals
        first
          | with_reducible exact ⟨_, _, z9, rfl, rfl, rfl, rfl, hid (fin4 (v := (wh 1)) HR9.out)⟩
          | with_reducible exact ⟨_, _, z9, rfl, rfl, rfl, rfl, hid (fin5 (v := (wh 1)) HR9.out)⟩
          | with_reducible exact ⟨_, _, z9, rfl, rfl, rfl, rfl, hid (fin2 (v := (wh 1)) HR9.out HPB.out (by omega))⟩
          | with_reducible exact ⟨_, _, z9, rfl, rfl, rfl, rfl, hid (fin3 (v := (wh 1)) HR9.out HWB.out (by omega) (by simp <;> omega))⟩
          | with_reducible exact ⟨_, _, z9, rfl, rfl, rfl, rfl, hid (fin1 (v := (wh 1)) HR9.out HPB.out HWB.out (by omega) (by simp <;> omega) (by omega) (by simp <;> omega) (by omega))⟩
          | fail
    case rest =>
      obtain ⟨bP, bW, z3, rfl, rfl, rfl, rfl, HF⟩ := hcut
      obtain ⟨W, hWc⟩ : ∃ W, W = wc := ⟨_, rfl⟩
      subst hWc
      replace HL := hid (HL.out.below HF.out.low)
      clear hbl
      have hbl : b1 < W.heap.size := HL.out.p.lt
      go_upto_region 4 with fail
      go_cut [12, 13, 14, 15] from 48 to 55 (fun sa sb sc sd wx => ∃ (bP bW : Nat) (z : Hd), sa = .pointer (some ⟨bP, 0, none⟩) ∧ sb = .pointer (some ⟨bW, 0, none⟩) ∧ sc = .bool false ∧ sd = .int .i64 8 ∧ Hid (Fin W wx bP bW L2 z z0))
      case first =>
        have hS : S3 b1 L2 z2 W := s3_of HL.out.p
        have HSK : Hid (∀ X, Below W.heap.size W X → S3 b1 L2 z2 X) := fun X b => s3_low hS b
        go_region_held3 (SL W b1 L2 z2) ((refine keep_S3 hS ?_; repeat' (first | with_reducible exact HB9.out | with_reducible exact (Below.refl _ W).drew | with_reducible exact Below.refl _ _ | with_reducible refine Below.drew ?_ | with_reducible refine q_alloc ?_ _ | with_reducible refine q_set ?_ (by dsimp only; omega) _)))
          (first
            | (go_at_call 6; refine (who_any _ _).mono ?_; rintro e w8 ⟨rfl, hw⟩; rw [hw]; clear hw w8)
            | (go_at_call 5; refine (c4 _ z2 (HL.out.has.below (by first | exact (Below.refl _ W).drew | exact q_alloc (Below.refl _ W).drew _ | exact q_alloc (q_alloc (Below.refl _ W).drew _) _ | exact q_alloc (q_alloc (q_alloc (Below.refl _ W).drew _) _) _))).mono ?_; rintro e w9 ⟨z9, rfl, hz⟩; have HR9 := hid (res_of (W := W) hz (by first | exact (Below.refl _ W).drew | exact q_alloc (Below.refl _ W).drew _ | exact q_alloc (q_alloc (Below.refl _ W).drew _) _ | exact q_alloc (q_alloc (q_alloc (Below.refl _ W).drew _) _) _)); have HB9 : Hid (Below W.heap.size W w9) := ((q_trans (by first | exact (Below.refl _ W).drew | exact q_alloc (Below.refl _ W).drew _ | exact q_alloc (q_alloc (Below.refl _ W).drew _) _ | exact q_alloc (q_alloc (q_alloc (Below.refl _ W).drew _) _) _) hz.low)); have hW9 : W.heap.size < w9.heap.size := Nat.lt_of_lt_of_le (by simp <;> omega) hz.low.size; (first | (have hl3 := lay3 W _ _ _ hz.low; obtain ⟨e0, e1, e2⟩ := hl3; (try (have HWB : Hid (Wb w9 W.heap.size z0) := (Wb.mk e0); obtain ⟨s0, s1, s2, s3, s4, s5, s6, s7⟩ := HWB.out.at; have k0 := HWB.out.fz 0; have k1 := HWB.out.fz 1; have k2 := HWB.out.fz 2; have k3 := HWB.out.fz 3; have k4 := HWB.out.fz 4; have k5 := HWB.out.fz 5; have k6 := HWB.out.fz 6; have k7 := HWB.out.fz 7; have hlb := HWB.out.lt)); (try (have HPB : Hid (Pb w9 W.heap.size p0 nilH) := (Pb.mk e0); have g0 : w9.cell? ⟨_, 0, none⟩ = some (.int .i64 0) := HPB.out.c0; have g1 : w9.cell? ⟨_, 1, none⟩ = some (.int .i64 0) := HPB.out.c1; have g2 : w9.cell? ⟨_, 2, none⟩ = some (.slice none 0 0) := HPB.out.c2; have h0 := HPB.out.fz 0; have h1 := HPB.out.fz 1; have h2 := HPB.out.fz 2; have hlp := HPB.out.lt)); clear e0; (try (have HWB : Hid (Wb w9 (W.heap.size + 1) z0) := (Wb.mk e1); obtain ⟨s0, s1, s2, s3, s4, s5, s6, s7⟩ := HWB.out.at; have k0 := HWB.out.fz 0; have k1 := HWB.out.fz 1; have k2 := HWB.out.fz 2; have k3 := HWB.out.fz 3; have k4 := HWB.out.fz 4; have k5 := HWB.out.fz 5; have k6 := HWB.out.fz 6; have k7 := HWB.out.fz 7; have hlb := HWB.out.lt)); (try (have HPB : Hid (Pb w9 (W.heap.size + 1) p0 nilH) := (Pb.mk e1); have g0 : w9.cell? ⟨_, 0, none⟩ = some (.int .i64 0) := HPB.out.c0; have g1 : w9.cell? ⟨_, 1, none⟩ = some (.int .i64 0) := HPB.out.c1; have g2 : w9.cell? ⟨_, 2, none⟩ = some (.slice none 0 0) := HPB.out.c2; have h0 := HPB.out.fz 0; have h1 := HPB.out.fz 1; have h2 := HPB.out.fz 2; have hlp := HPB.out.lt)); clear e1; (try (have HWB : Hid (Wb w9 (W.heap.size + 2) z0) := (Wb.mk e2); obtain ⟨s0, s1, s2, s3, s4, s5, s6, s7⟩ := HWB.out.at; have k0 := HWB.out.fz 0; have k1 := HWB.out.fz 1; have k2 := HWB.out.fz 2; have k3 := HWB.out.fz 3; have k4 := HWB.out.fz 4; have k5 := HWB.out.fz 5; have k6 := HWB.out.fz 6; have k7 := HWB.out.fz 7; have hlb := HWB.out.lt)); (try (have HPB : Hid (Pb w9 (W.heap.size + 2) p0 nilH) := (Pb.mk e2); have g0 : w9.cell? ⟨_, 0, none⟩ = some (.int .i64 0) := HPB.out.c0; have g1 : w9.cell? ⟨_, 1, none⟩ = some (.int .i64 0) := HPB.out.c1; have g2 : w9.cell? ⟨_, 2, none⟩ = some (.slice none 0 0) := HPB.out.c2; have h0 := HPB.out.fz 0; have h1 := HPB.out.fz 1; have h2 := HPB.out.fz 2; have hlp := HPB.out.lt)); clear e2) | (have hl2 := lay2 W _ _ hz.low; obtain ⟨e0, e1⟩ := hl2; (try (have HWB : Hid (Wb w9 W.heap.size z0) := (Wb.mk e0); obtain ⟨s0, s1, s2, s3, s4, s5, s6, s7⟩ := HWB.out.at; have k0 := HWB.out.fz 0; have k1 := HWB.out.fz 1; have k2 := HWB.out.fz 2; have k3 := HWB.out.fz 3; have k4 := HWB.out.fz 4; have k5 := HWB.out.fz 5; have k6 := HWB.out.fz 6; have k7 := HWB.out.fz 7; have hlb := HWB.out.lt)); (try (have HPB : Hid (Pb w9 W.heap.size p0 nilH) := (Pb.mk e0); have g0 : w9.cell? ⟨_, 0, none⟩ = some (.int .i64 0) := HPB.out.c0; have g1 : w9.cell? ⟨_, 1, none⟩ = some (.int .i64 0) := HPB.out.c1; have g2 : w9.cell? ⟨_, 2, none⟩ = some (.slice none 0 0) := HPB.out.c2; have h0 := HPB.out.fz 0; have h1 := HPB.out.fz 1; have h2 := HPB.out.fz 2; have hlp := HPB.out.lt)); clear e0; (try (have HWB : Hid (Wb w9 (W.heap.size + 1) z0) := (Wb.mk e1); obtain ⟨s0, s1, s2, s3, s4, s5, s6, s7⟩ := HWB.out.at; have k0 := HWB.out.fz 0; have k1 := HWB.out.fz 1; have k2 := HWB.out.fz 2; have k3 := HWB.out.fz 3; have k4 := HWB.out.fz 4; have k5 := HWB.out.fz 5; have k6 := HWB.out.fz 6; have k7 := HWB.out.fz 7; have hlb := HWB.out.lt)); (try (have HPB : Hid (Pb w9 (W.heap.size + 1) p0 nilH) := (Pb.mk e1); have g0 : w9.cell? ⟨_, 0, none⟩ = some (.int .i64 0) := HPB.out.c0; have g1 : w9.cell? ⟨_, 1, none⟩ = some (.int .i64 0) := HPB.out.c1; have g2 : w9.cell? ⟨_, 2, none⟩ = some (.slice none 0 0) := HPB.out.c2; have h0 := HPB.out.fz 0; have h1 := HPB.out.fz 1; have h2 := HPB.out.fz 2; have hlp := HPB.out.lt)); clear e1) | (have e0 := lay1 W _ hz.low; (try (have HWB : Hid (Wb w9 W.heap.size z0) := (Wb.mk e0); obtain ⟨s0, s1, s2, s3, s4, s5, s6, s7⟩ := HWB.out.at; have k0 := HWB.out.fz 0; have k1 := HWB.out.fz 1; have k2 := HWB.out.fz 2; have k3 := HWB.out.fz 3; have k4 := HWB.out.fz 4; have k5 := HWB.out.fz 5; have k6 := HWB.out.fz 6; have k7 := HWB.out.fz 7; have hlb := HWB.out.lt)); (try (have HPB : Hid (Pb w9 W.heap.size p0 nilH) := (Pb.mk e0); have g0 : w9.cell? ⟨_, 0, none⟩ = some (.int .i64 0) := HPB.out.c0; have g1 : w9.cell? ⟨_, 1, none⟩ = some (.int .i64 0) := HPB.out.c1; have g2 : w9.cell? ⟨_, 2, none⟩ = some (.slice none 0 0) := HPB.out.c2; have h0 := HPB.out.fz 0; have h1 := HPB.out.fz 1; have h2 := HPB.out.fz 2; have hlp := HPB.out.lt)); clear e0) | skip); clear hz)
            | fail)
        all_goals (try go_wp2_with fail)
        all_goals go_meet
        all_goals
          first
            | with_reducible exact ⟨_, _, z9, rfl, rfl, rfl, rfl, hid (fin4 (v := z0) HR9.out)⟩
            | with_reducible exact ⟨_, _, z9, rfl, rfl, rfl, rfl, hid (fin5 (v := z0) HR9.out)⟩
            | with_reducible exact ⟨_, _, z9, rfl, rfl, rfl, rfl, hid (fin2 (v := z0) HR9.out HPB.out (by omega))⟩
            | with_reducible exact ⟨_, _, z9, rfl, rfl, rfl, rfl, hid (fin3 (v := z0) HR9.out HWB.out (by omega) (by simp <;> omega))⟩
            | with_reducible exact ⟨_, _, z9, rfl, rfl, rfl, rfl, hid (fin1 (v := z0) HR9.out HPB.out HWB.out (by omega) (by simp <;> omega) (by omega) (by simp <;> omega) (by omega))⟩
            | fail
      case rest =>
        obtain ⟨b12, b13, z4, rfl, rfl, rfl, rfl, HF4⟩ := hcut
        replace HF := hid (HF.out.below HF4.out.low)
        have HB := hid (q_trans HL.out.low HF4.out.low)
        clear HF4 HL hbl
        go_upto_region 6 with (go_at_call 10; refine (c5 _).mono ?_; rintro e w1 ⟨z5, rfl, hz5⟩)
        have bb := q_trans hz5.low (q_alloc (alloc_below w1 (.cells #[.int .i64 L4.k, .int .i64 5, .slice z5.o z5.n z5.c] 25)) (.cells #[.int .i64 0, .int .i64 0, .int .i64 0, .bool false, .int .i64 0, .int .i64 0, .int .i64 0, .bool false] 30))
        have HS : Hid (Pb ((w1.alloc (.cells #[.int .i64 L4.k, .int .i64 5, .slice z5.o z5.n z5.c] 25)).alloc (.cells #[.int .i64 0, .int .i64 0, .int .i64 0, .bool false, .int .i64 0, .int .i64 0, .int .i64 0, .bool false] 30)) w1.heap.size L4 z5) := (pb_new w1 L4 z5).below (alloc_below _ _)
        have HQ5 := hid ((hz5.has.below (alloc_below w1 (.cells #[.int .i64 L4.k, .int .i64 5, .slice z5.o z5.n z5.c] 25))).below (alloc_below _ (.cells #[.int .i64 0, .int .i64 0, .int .i64 0, .bool false, .int .i64 0, .int .i64 0, .int .i64 0, .bool false] 30)))
        replace HF := hid (HF.out.below bb)
        replace HB := hid (q_trans HB.out bb)
        clear hz5 bb
        generalize w1.heap.size = b16 at HS ⊢
        generalize (w1.alloc (.cells #[.int .i64 L4.k, .int .i64 5, .slice z5.o z5.n z5.c] 25)).alloc (.cells #[.int .i64 0, .int .i64 0, .int .i64 0, .bool false, .int .i64 0, .int .i64 0, .int .i64 0, .bool false] 30) = W6 at HS HQ5 HF HB ⊢
        clear w1
        have s0 := HS.out.c0
        have s1 : W6.cell? ⟨b16, 1, none⟩ = some (.int .i64 5) := HS.out.c1
        have s2 := HS.out.c2
        go_upto_region 7 with (go_at_call 11; refine (c6 _ z5 HQ5.out).mono ?_; rintro e w2 ⟨z6, rfl, hz6⟩)
        replace HF := hid (HF.out.below (q_trans hz6.low (alloc_below w2 (.cells #[.int .i64 0, .int .i64 0, .slice z6.o z6.n z6.c] 25))))
        replace HS := hid (HS.out.below (q_trans hz6.low (alloc_below w2 (.cells #[.int .i64 0, .int .i64 0, .slice z6.o z6.n z6.c] 25))))
        replace HB := hid (q_trans HB.out (q_trans hz6.low (alloc_below w2 (.cells #[.int .i64 0, .int .i64 0, .slice z6.o z6.n z6.c] 25))))
        clear hz6 s0 s1 s2 HQ5
        generalize w2.alloc (.cells #[.int .i64 0, .int .i64 0, .slice z6.o z6.n z6.c] 25) = W7 at HS HF HB ⊢
        have q0 := HF.out.p.c0
        have q1 := HF.out.p.c1
        have q2 := HF.out.p.c2
        go_upto_region 8 with (go_at_call 12; refine (c7 _ z3 HF.out.has).mono ?_; rintro e w3 ⟨z7, rfl, hz7⟩)
        have bb := q_trans hz7.low (alloc_below w3 (.cells #[.int .i64 0, .int .i64 0, .slice z7.o z7.n z7.c] 25))
        have HD : Hid (Pb (w3.alloc (.cells #[.int .i64 0, .int .i64 0, .slice z7.o z7.n z7.c] 25)) w3.heap.size p0 z7) := pb_new w3 p0 z7
        have HQ7 := hid (hz7.has.below (alloc_below w3 (.cells #[.int .i64 0, .int .i64 0, .slice z7.o z7.n z7.c] 25)))
        replace HF := hid (HF.out.below bb)
        replace HS := hid (HS.out.below bb)
        replace HB := hid (q_trans HB.out bb)
        clear hz7 bb q0 q1 q2
        generalize w3.heap.size = b22 at HD ⊢
        generalize w3.alloc (.cells #[.int .i64 0, .int .i64 0, .slice z7.o z7.n z7.c] 25) = V at HD HQ7 HF HS HB ⊢
        have v0 : V.cell? ⟨bW, 0, none⟩ = some (.int .i64 1) := HF.out.v.at.c0
        have s1 : V.cell? ⟨b16, 1, none⟩ = some (.int .i64 5) := HS.out.c1
        have x0 : V.cell? ⟨b22, 0, none⟩ = some (.int .i64 0) := HD.out.c0
        have x1 : V.cell? ⟨b22, 1, none⟩ = some (.int .i64 0) := HD.out.c1
        have x2 := HD.out.c2
        simp only [List.append_eq, List.cons_append, List.nil_append]
        go_wp2_with (first | (go_at_call 8; refine (num_any _ _).mono ?_; rintro e w8 ⟨rfl, hw⟩; rw [hw]; clear hw w8) | fail)
        refine (c8 _ z7 HQ7.out).mono ?_
        rintro e w4 ⟨rfl, b4⟩
        replace HF := hid (HF.out.below b4)
        replace HB := hid (q_trans HB.out b4)
        clear b4 v0 s1 x0 x1 x2 HD HS HQ7
        have q0 := HF.out.p.c0
        have q1 := HF.out.p.c1
        have q2 := HF.out.p.c2
        go_wp2_with fail
        refine (c9 _ z3 HF.out.has).mono ?_
        rintro e w5 ⟨rfl, b5⟩
        replace HB := hid (q_trans HB.out b5)
        clear b5 q0 q1 q2 HF
        go_wp2_with (first | (go_at_call 8; refine (num_any _ _).mono ?_; rintro e w8 ⟨rfl, hw⟩; rw [hw]; clear hw w8) | fail)
        refine (ca _).mono ?_
        rintro e w6 ⟨rfl, b6⟩
        replace HB := hid (q_trans HB.out b6)
        clear b6
        go_wp2_with (first | (go_at_call 8; refine (num_any _ _).mono ?_; rintro e w8 ⟨rfl, hw⟩; rw [hw]; clear hw w8) | fail)
        go_ret
        exact ⟨rfl, HB.out⟩
end Go.Proofs.Ytpcdjpcdmnjdfab.Po
