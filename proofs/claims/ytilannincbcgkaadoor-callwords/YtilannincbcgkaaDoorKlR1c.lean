/- What the document's Is does. -/
import Derived.Test.YtilannincbcgkaaDoorKlR1z
namespace Go.Proofs.YtilannincbcgkaaDoor.Kl
open Go.RowKit
open Ad (q_trans q_alloc q_set ret_int ret_bool hid)
theorem fl_rs_5e {b r g t s v : Int} (g0 : inB t 1 5 = true) (g1 : inB s 0 1048576 = false) (h3 : adB b = true) (hq : (r == 0 && (g == 0 && v == 0)) = true) : false = (adB b && (inB t 1 5 && (inB s 0 1048576 && (r == 0 && (g == 0 && v == 0))))) := by rw [g0, g1, h3, hq] <;> simp
set_option maxRecDepth 100000 in
set_option maxHeartbeats 1000000 in
theorem rs_5e (a b r g t s v : Int) (w : World) (ha : Hid (U64 a)) (hA : adB a = true) (hb : Hid (U64 b)) (hq0 : (r == 0 && (g == 0 && v == 0)) = true) (d1 : 1 ≤ t) (d2 : t ≤ 5) (d3 : ¬ 0 ≤ s) (h3 : adB b = true) (z : Bool) (hz : Hid (mhB ⟨5, a, b, r, g, t, s, v⟩ = z)) :
    Calls Tryd.prog 15 #[.agg #[.int .i64 5, .int .u64 a, .int .u64 b, .int .i64 r, .int .i64 g, .int .i64 t, .int .i64 s, .int .i64 v]] w fun e w' => e = .returned (.bool z) ∧ Below w.heap.size w w' := by
  have HA : Hid (∀ W : World, Calls Tryd.prog 28 #[.int .u64 a] W fun e w' => e = .returned (.bool true) ∧ Below W.heap.size W w') := fun W => by
    have := address_any a W ha.out
    rwa [hA] at this
  have HC : Hid (∀ W : World, Calls Tryd.prog 28 #[.int .u64 b] W fun e w' => e = .returned (.bool true) ∧ Below W.heap.size W w') := fun W => by
    have := address_any b W hb.out
    rwa [h3] at this
  have H3 := hid h3
  have HG0 : Hid (inB t 1 5 = true) := inB_iff.2 (by omega)
  have HG1 : Hid (inB s 0 1048576 = false) := inB_not.2 (by omega)
  have hq := eqd 5 a b r g t s v 5 a b 0 0 t s 0 true (by rw [← hq0]; simp)
  have HQ := hid hq0
  clear hq0 hA h3
  go_enter Tryd.func15, Tryd.ntmps15
  go_wp2_with fail
  refine (HA.out _).mono ?_
  rintro e w1 ⟨rfl, b1⟩
  have HI1 := hid ((in_new w ⟨5, a, b, r, g, t, s, v⟩ 24).below b1)
  have HB1 := hid (q_trans (q_alloc (Below.refl _ _) _) b1)
  have hlt := HI1.out.lt
  obtain ⟨c0, c1, c2, c3, c4, c5, c6, c7⟩ := HI1.out
  dsimp only at c0 c1 c2 c3 c4 c5 c6 c7
  clear b1 HA
  go_wp2_with fail
  have HO := hid (own_new w1 ⟨5, a, 0, 0, 0, 0, 0, 0⟩ 24)
  have HI2 := hid (HI1.out.below (q_alloc (Below.refl _ w1) (.cells #[.int .i64 5, .int .u64 a, .int .u64 0, .int .i64 0, .int .i64 0, .int .i64 0, .int .i64 0, .int .i64 0] 24)))
  have HB2 := hid (q_alloc HB1.out (.cells #[.int .i64 5, .int .u64 a, .int .u64 0, .int .i64 0, .int .i64 0, .int .i64 0, .int .i64 0, .int .i64 0] 24))
  have nB := hid (show w.heap.size ≠ w1.heap.size by omega)
  have hw1 := HB1.out.size
  have hS : S3 w.heap.size 2 5 6 (.int .u64 b) (.int .i64 t) (.int .i64 s) (w1.alloc (.cells #[.int .i64 5, .int .u64 a, .int .u64 0, .int .i64 0, .int .i64 0, .int .i64 0, .int .i64 0, .int .i64 0] 24)) := ⟨HI2.out.c2, HI2.out.c5, HI2.out.c6⟩
  obtain ⟨⟨o0, o1, o2, o3, o4, o5, o6, o7⟩, of⟩ := HO.out
  dsimp only at o0 o1 o2 o3 o4 o5 o6 o7
  clear c0 c1 c2 c3 c4 c5 c6 c7
  generalize w1.alloc (.cells #[.int .i64 5, .int .u64 a, .int .u64 0, .int .i64 0, .int .i64 0, .int .i64 0, .int .i64 0, .int .i64 0] 24) = W at *
  go_region_held3 (S3 w.heap.size 2 5 6 (.int .u64 b) (.int .i64 t) (.int .i64 s)) (first | with_reducible assumption | (repeat (first | with_reducible exact hS | with_reducible refine s3_drew ?_ | with_reducible refine s3_set ?_ nB.out))) (fail)
  have HB3 := hid (q_set (q_set (q_set HB2.out hw1 (p := ⟨w1.heap.size, 2, none⟩) (.int .u64 b)) hw1 (p := ⟨w1.heap.size, 5, none⟩) (.int .i64 t)) hw1 (p := ⟨w1.heap.size, 6, none⟩) (.int .i64 s)).drew
  have HI3 := hid ((((HI2.out.far nB.out (k := 2) (v := .int .u64 b)).far nB.out (k := 5) (v := .int .i64 t)).far nB.out (k := 6) (v := .int .i64 s)).below (Below.refl _ _).drew)
  have HO3 := hid ((own_rety HO.out b t s).below (Below.refl _ _).drew)
  clear o0 o1 o2 o3 o4 o5 o6 o7 of hS HO HI2 HB2 HI1 HB1
  generalize (((W.setCell ⟨w1.heap.size, 2, none⟩ (.int .u64 b)).setCell ⟨w1.heap.size, 5, none⟩ (.int .i64 t)).setCell ⟨w1.heap.size, 6, none⟩ (.int .i64 s)).drew = V at *
  obtain ⟨c0, c1, c2, c3, c4, c5, c6, c7⟩ := HI3.out
  obtain ⟨⟨o0, o1, o2, o3, o4, o5, o6, o7⟩, of⟩ := HO3.out
  dsimp only at o0 o1 o2 o3 o4 o5 o6 o7 c0 c1 c2 c3 c4 c5 c6 c7
  go_wp2_with (go_at_call 29; refine (ris2_any _ _).mono ?_; rintro e w' ⟨rfl, hw⟩; rw [hw]; clear hw w')
  refine (HC.out _).mono ?_
  rintro e w2 ⟨rfl, b2⟩
  have HI4 := hid (HI3.out.below b2)
  have HB4 := hid (q_trans HB3.out b2)
  clear o0 o1 o2 o3 o4 o5 o6 o7 of
  clear b2 c0 c1 c2 c3 c4 c5 c6 c7 HC
  obtain ⟨c0, c1, c2, c3, c4, c5, c6, c7⟩ := HI4.out
  dsimp only at c0 c1 c2 c3 c4 c5 c6 c7
  go_wp2_with (go_at_call 29; refine (ris2_any _ _).mono ?_; rintro e w' ⟨rfl, hw⟩; rw [hw]; clear hw w')
  go_ret
  exact ⟨ret_bool (by rw [← hz.out, mh5 rfl]; exact fl_rs_5e HG0.out HG1.out H3.out HQ.out), HB4.out⟩
theorem fl_rs_5f {b r g t s v : Int} (g0 : inB t 1 5 = true) (g1 : inB s 0 1048576 = false) (h3 : adB b = true) (hq : (r == 0 && (g == 0 && v == 0)) = true) : false = (adB b && (inB t 1 5 && (inB s 0 1048576 && (r == 0 && (g == 0 && v == 0))))) := by rw [g0, g1, h3, hq] <;> simp
set_option maxRecDepth 100000 in
set_option maxHeartbeats 1000000 in
theorem rs_5f (a b r g t s v : Int) (w : World) (ha : Hid (U64 a)) (hA : adB a = true) (hb : Hid (U64 b)) (hq0 : (r == 0 && (g == 0 && v == 0)) = true) (d1 : 1 ≤ t) (d2 : t ≤ 5) (d3 : 0 ≤ s) (d4 : decide (s ≤ 1048576) = false) (h3 : adB b = true) (z : Bool) (hz : Hid (mhB ⟨5, a, b, r, g, t, s, v⟩ = z)) :
    Calls Tryd.prog 15 #[.agg #[.int .i64 5, .int .u64 a, .int .u64 b, .int .i64 r, .int .i64 g, .int .i64 t, .int .i64 s, .int .i64 v]] w fun e w' => e = .returned (.bool z) ∧ Below w.heap.size w w' := by
  have HA : Hid (∀ W : World, Calls Tryd.prog 28 #[.int .u64 a] W fun e w' => e = .returned (.bool true) ∧ Below W.heap.size W w') := fun W => by
    have := address_any a W ha.out
    rwa [hA] at this
  have HC : Hid (∀ W : World, Calls Tryd.prog 28 #[.int .u64 b] W fun e w' => e = .returned (.bool true) ∧ Below W.heap.size W w') := fun W => by
    have := address_any b W hb.out
    rwa [h3] at this
  have H3 := hid h3
  have HG0 : Hid (inB t 1 5 = true) := inB_iff.2 (by omega)
  have HG1 : Hid (inB s 0 1048576 = false) := inB_not.2 (by have := of_decide_eq_false d4; omega)
  have hq := eqd 5 a b r g t s v 5 a b 0 0 t s 0 true (by rw [← hq0]; simp)
  have HQ := hid hq0
  clear hq0 hA h3
  go_enter Tryd.func15, Tryd.ntmps15
  go_wp2_with fail
  refine (HA.out _).mono ?_
  rintro e w1 ⟨rfl, b1⟩
  have HI1 := hid ((in_new w ⟨5, a, b, r, g, t, s, v⟩ 24).below b1)
  have HB1 := hid (q_trans (q_alloc (Below.refl _ _) _) b1)
  have hlt := HI1.out.lt
  obtain ⟨c0, c1, c2, c3, c4, c5, c6, c7⟩ := HI1.out
  dsimp only at c0 c1 c2 c3 c4 c5 c6 c7
  clear b1 HA
  go_wp2_with fail
  have HO := hid (own_new w1 ⟨5, a, 0, 0, 0, 0, 0, 0⟩ 24)
  have HI2 := hid (HI1.out.below (q_alloc (Below.refl _ w1) (.cells #[.int .i64 5, .int .u64 a, .int .u64 0, .int .i64 0, .int .i64 0, .int .i64 0, .int .i64 0, .int .i64 0] 24)))
  have HB2 := hid (q_alloc HB1.out (.cells #[.int .i64 5, .int .u64 a, .int .u64 0, .int .i64 0, .int .i64 0, .int .i64 0, .int .i64 0, .int .i64 0] 24))
  have nB := hid (show w.heap.size ≠ w1.heap.size by omega)
  have hw1 := HB1.out.size
  have hS : S3 w.heap.size 2 5 6 (.int .u64 b) (.int .i64 t) (.int .i64 s) (w1.alloc (.cells #[.int .i64 5, .int .u64 a, .int .u64 0, .int .i64 0, .int .i64 0, .int .i64 0, .int .i64 0, .int .i64 0] 24)) := ⟨HI2.out.c2, HI2.out.c5, HI2.out.c6⟩
  obtain ⟨⟨o0, o1, o2, o3, o4, o5, o6, o7⟩, of⟩ := HO.out
  dsimp only at o0 o1 o2 o3 o4 o5 o6 o7
  clear c0 c1 c2 c3 c4 c5 c6 c7
  generalize w1.alloc (.cells #[.int .i64 5, .int .u64 a, .int .u64 0, .int .i64 0, .int .i64 0, .int .i64 0, .int .i64 0, .int .i64 0] 24) = W at *
  go_region_held3 (S3 w.heap.size 2 5 6 (.int .u64 b) (.int .i64 t) (.int .i64 s)) (first | with_reducible assumption | (repeat (first | with_reducible exact hS | with_reducible refine s3_drew ?_ | with_reducible refine s3_set ?_ nB.out))) (fail)
  have HB3 := hid (q_set (q_set (q_set HB2.out hw1 (p := ⟨w1.heap.size, 2, none⟩) (.int .u64 b)) hw1 (p := ⟨w1.heap.size, 5, none⟩) (.int .i64 t)) hw1 (p := ⟨w1.heap.size, 6, none⟩) (.int .i64 s)).drew
  have HI3 := hid ((((HI2.out.far nB.out (k := 2) (v := .int .u64 b)).far nB.out (k := 5) (v := .int .i64 t)).far nB.out (k := 6) (v := .int .i64 s)).below (Below.refl _ _).drew)
  have HO3 := hid ((own_rety HO.out b t s).below (Below.refl _ _).drew)
  clear o0 o1 o2 o3 o4 o5 o6 o7 of hS HO HI2 HB2 HI1 HB1
  generalize (((W.setCell ⟨w1.heap.size, 2, none⟩ (.int .u64 b)).setCell ⟨w1.heap.size, 5, none⟩ (.int .i64 t)).setCell ⟨w1.heap.size, 6, none⟩ (.int .i64 s)).drew = V at *
  obtain ⟨c0, c1, c2, c3, c4, c5, c6, c7⟩ := HI3.out
  obtain ⟨⟨o0, o1, o2, o3, o4, o5, o6, o7⟩, of⟩ := HO3.out
  dsimp only at o0 o1 o2 o3 o4 o5 o6 o7 c0 c1 c2 c3 c4 c5 c6 c7
  go_wp2_with (go_at_call 29; refine (ris2_any _ _).mono ?_; rintro e w' ⟨rfl, hw⟩; rw [hw]; clear hw w')
  refine (HC.out _).mono ?_
  rintro e w2 ⟨rfl, b2⟩
  have HI4 := hid (HI3.out.below b2)
  have HB4 := hid (q_trans HB3.out b2)
  clear o0 o1 o2 o3 o4 o5 o6 o7 of
  clear b2 c0 c1 c2 c3 c4 c5 c6 c7 HC
  obtain ⟨c0, c1, c2, c3, c4, c5, c6, c7⟩ := HI4.out
  dsimp only at c0 c1 c2 c3 c4 c5 c6 c7
  go_wp2_with (go_at_call 29; refine (ris2_any _ _).mono ?_; rintro e w' ⟨rfl, hw⟩; rw [hw]; clear hw w')
  go_ret
  exact ⟨ret_bool (by rw [← hz.out, mh5 rfl]; exact fl_rs_5f HG0.out HG1.out H3.out HQ.out), HB4.out⟩
theorem fl_rs_5g {b r g t s v : Int} (g0 : inB t 1 5 = true) (g1 : inB s 0 1048576 = true) (h3 : adB b = true) (hq : (r == 0 && (g == 0 && v == 0)) = true) : true = (adB b && (inB t 1 5 && (inB s 0 1048576 && (r == 0 && (g == 0 && v == 0))))) := by rw [g0, g1, h3, hq] <;> simp
set_option maxRecDepth 100000 in
set_option maxHeartbeats 1000000 in
theorem rs_5g (a b r g t s v : Int) (w : World) (ha : Hid (U64 a)) (hA : adB a = true) (hb : Hid (U64 b)) (hq0 : (r == 0 && (g == 0 && v == 0)) = true) (d1 : 1 ≤ t) (d2 : t ≤ 5) (d3 : 0 ≤ s) (d4 : s ≤ 1048576) (h3 : adB b = true) (z : Bool) (hz : Hid (mhB ⟨5, a, b, r, g, t, s, v⟩ = z)) :
    Calls Tryd.prog 15 #[.agg #[.int .i64 5, .int .u64 a, .int .u64 b, .int .i64 r, .int .i64 g, .int .i64 t, .int .i64 s, .int .i64 v]] w fun e w' => e = .returned (.bool z) ∧ Below w.heap.size w w' := by
  have HA : Hid (∀ W : World, Calls Tryd.prog 28 #[.int .u64 a] W fun e w' => e = .returned (.bool true) ∧ Below W.heap.size W w') := fun W => by
    have := address_any a W ha.out
    rwa [hA] at this
  have HC : Hid (∀ W : World, Calls Tryd.prog 28 #[.int .u64 b] W fun e w' => e = .returned (.bool true) ∧ Below W.heap.size W w') := fun W => by
    have := address_any b W hb.out
    rwa [h3] at this
  have H3 := hid h3
  have HG0 : Hid (inB t 1 5 = true) := inB_iff.2 (by omega)
  have HG1 : Hid (inB s 0 1048576 = true) := inB_iff.2 (by omega)
  have hq := eqd 5 a b r g t s v 5 a b 0 0 t s 0 true (by rw [← hq0]; simp)
  have HQ := hid hq0
  clear hq0 hA h3
  go_enter Tryd.func15, Tryd.ntmps15
  go_wp2_with fail
  refine (HA.out _).mono ?_
  rintro e w1 ⟨rfl, b1⟩
  have HI1 := hid ((in_new w ⟨5, a, b, r, g, t, s, v⟩ 24).below b1)
  have HB1 := hid (q_trans (q_alloc (Below.refl _ _) _) b1)
  have hlt := HI1.out.lt
  obtain ⟨c0, c1, c2, c3, c4, c5, c6, c7⟩ := HI1.out
  dsimp only at c0 c1 c2 c3 c4 c5 c6 c7
  clear b1 HA
  go_wp2_with fail
  have HO := hid (own_new w1 ⟨5, a, 0, 0, 0, 0, 0, 0⟩ 24)
  have HI2 := hid (HI1.out.below (q_alloc (Below.refl _ w1) (.cells #[.int .i64 5, .int .u64 a, .int .u64 0, .int .i64 0, .int .i64 0, .int .i64 0, .int .i64 0, .int .i64 0] 24)))
  have HB2 := hid (q_alloc HB1.out (.cells #[.int .i64 5, .int .u64 a, .int .u64 0, .int .i64 0, .int .i64 0, .int .i64 0, .int .i64 0, .int .i64 0] 24))
  have nB := hid (show w.heap.size ≠ w1.heap.size by omega)
  have hw1 := HB1.out.size
  have hS : S3 w.heap.size 2 5 6 (.int .u64 b) (.int .i64 t) (.int .i64 s) (w1.alloc (.cells #[.int .i64 5, .int .u64 a, .int .u64 0, .int .i64 0, .int .i64 0, .int .i64 0, .int .i64 0, .int .i64 0] 24)) := ⟨HI2.out.c2, HI2.out.c5, HI2.out.c6⟩
  obtain ⟨⟨o0, o1, o2, o3, o4, o5, o6, o7⟩, of⟩ := HO.out
  dsimp only at o0 o1 o2 o3 o4 o5 o6 o7
  clear c0 c1 c2 c3 c4 c5 c6 c7
  generalize w1.alloc (.cells #[.int .i64 5, .int .u64 a, .int .u64 0, .int .i64 0, .int .i64 0, .int .i64 0, .int .i64 0, .int .i64 0] 24) = W at *
  go_region_held3 (S3 w.heap.size 2 5 6 (.int .u64 b) (.int .i64 t) (.int .i64 s)) (first | with_reducible assumption | (repeat (first | with_reducible exact hS | with_reducible refine s3_drew ?_ | with_reducible refine s3_set ?_ nB.out))) (fail)
  have HB3 := hid (q_set (q_set (q_set HB2.out hw1 (p := ⟨w1.heap.size, 2, none⟩) (.int .u64 b)) hw1 (p := ⟨w1.heap.size, 5, none⟩) (.int .i64 t)) hw1 (p := ⟨w1.heap.size, 6, none⟩) (.int .i64 s)).drew
  have HI3 := hid ((((HI2.out.far nB.out (k := 2) (v := .int .u64 b)).far nB.out (k := 5) (v := .int .i64 t)).far nB.out (k := 6) (v := .int .i64 s)).below (Below.refl _ _).drew)
  have HO3 := hid ((own_rety HO.out b t s).below (Below.refl _ _).drew)
  clear o0 o1 o2 o3 o4 o5 o6 o7 of hS HO HI2 HB2 HI1 HB1
  generalize (((W.setCell ⟨w1.heap.size, 2, none⟩ (.int .u64 b)).setCell ⟨w1.heap.size, 5, none⟩ (.int .i64 t)).setCell ⟨w1.heap.size, 6, none⟩ (.int .i64 s)).drew = V at *
  obtain ⟨c0, c1, c2, c3, c4, c5, c6, c7⟩ := HI3.out
  obtain ⟨⟨o0, o1, o2, o3, o4, o5, o6, o7⟩, of⟩ := HO3.out
  dsimp only at o0 o1 o2 o3 o4 o5 o6 o7 c0 c1 c2 c3 c4 c5 c6 c7
  go_wp2_with (go_at_call 29; refine (ris2_any _ _).mono ?_; rintro e w' ⟨rfl, hw⟩; rw [hw]; clear hw w')
  refine (HC.out _).mono ?_
  rintro e w2 ⟨rfl, b2⟩
  have HI4 := hid (HI3.out.below b2)
  have HB4 := hid (q_trans HB3.out b2)
  clear o0 o1 o2 o3 o4 o5 o6 o7 of
  clear b2 c0 c1 c2 c3 c4 c5 c6 c7 HC
  obtain ⟨c0, c1, c2, c3, c4, c5, c6, c7⟩ := HI4.out
  dsimp only at c0 c1 c2 c3 c4 c5 c6 c7
  go_wp2_with (go_at_call 29; refine (ris2_any _ _).mono ?_; rintro e w' ⟨rfl, hw⟩; rw [hw]; clear hw w')
  go_ret
  exact ⟨ret_bool (by rw [← hz.out, mh5 rfl]; exact fl_rs_5g HG0.out HG1.out H3.out HQ.out), HB4.out⟩
end Go.Proofs.YtilannincbcgkaaDoor.Kl
