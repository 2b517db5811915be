/- What the document's Is does. -/
import Derived.Test.YtilannincbcgkaaDoorKlR1z
namespace Go.Proofs.YtilannincbcgkaaDoor.Kl
open Go.RowKit
open Ad (q_trans q_alloc q_set ret_int ret_bool hid)
theorem fl_rs_9a {b r g t s v : Int}  (hq : (r == 0 && (g == 0 && (t == 0 && (s == 0 && v == 0)))) = false) : false = ((b == 0 || adB b) && (r == 0 && (g == 0 && (t == 0 && (s == 0 && v == 0))))) := by rw [hq] <;> simp
set_option maxRecDepth 100000 in
set_option maxHeartbeats 1000000 in
theorem rs_9a (a b r g t s v : Int) (w : World) (ha : Hid (U64 a)) (hA : adB a = true) (hq0 : (r == 0 && (g == 0 && (t == 0 && (s == 0 && v == 0)))) = false) (z : Bool) (hz : Hid (mhB ⟨9, a, b, r, g, t, s, v⟩ = z)) :
    Calls Tryd.prog 15 #[.agg #[.int .i64 9, .int .u64 a, .int .u64 b, .int .i64 r, .int .i64 g, .int .i64 t, .int .i64 s, .int .i64 v]] w fun e w' => e = .returned (.bool z) ∧ Below w.heap.size w w' := by
  have HA : Hid (∀ W : World, Calls Tryd.prog 28 #[.int .u64 a] W fun e w' => e = .returned (.bool true) ∧ Below W.heap.size W w') := fun W => by
    have := address_any a W ha.out
    rwa [hA] at this
  have hq := eqd 9 a b r g t s v 9 a b 0 0 0 0 0 false (by rw [← hq0]; simp)
  have HQ := hid hq0
  clear hq0 hA
  go_enter Tryd.func15, Tryd.ntmps15
  go_wp2_with fail
  refine (HA.out _).mono ?_
  rintro e w1 ⟨rfl, b1⟩
  have HI1 := hid ((in_new w ⟨9, a, b, r, g, t, s, v⟩ 24).below b1)
  have HB1 := hid (q_trans (q_alloc (Below.refl _ _) _) b1)
  have hlt := HI1.out.lt
  obtain ⟨c0, c1, c2, c3, c4, c5, c6, c7⟩ := HI1.out
  dsimp only at c0 c1 c2 c3 c4 c5 c6 c7
  clear b1 HA
  go_wp2_with (go_at_call 29; refine (ris2_any _ _).mono ?_; rintro e w' ⟨rfl, hw⟩; rw [hw]; clear hw w')
  go_ret
  exact ⟨ret_bool (by rw [← hz.out, mh9 rfl]; exact fl_rs_9a  HQ.out), q_alloc HB1.out _⟩
theorem fl_rs_9z {r g t s v : Int}  (hq : (r == 0 && (g == 0 && (t == 0 && (s == 0 && v == 0)))) = true) : true = ((0 == 0 || adB 0) && (r == 0 && (g == 0 && (t == 0 && (s == 0 && v == 0))))) := by rw [hq] <;> simp
set_option maxRecDepth 100000 in
set_option maxHeartbeats 1000000 in
theorem rs_9z (a r g t s v : Int) (w : World) (ha : Hid (U64 a)) (hA : adB a = true) (hq0 : (r == 0 && (g == 0 && (t == 0 && (s == 0 && v == 0)))) = true) (z : Bool) (hz : Hid (mhB ⟨9, a, 0, r, g, t, s, v⟩ = z)) :
    Calls Tryd.prog 15 #[.agg #[.int .i64 9, .int .u64 a, .int .u64 0, .int .i64 r, .int .i64 g, .int .i64 t, .int .i64 s, .int .i64 v]] w fun e w' => e = .returned (.bool z) ∧ Below w.heap.size w w' := by
  have HA : Hid (∀ W : World, Calls Tryd.prog 28 #[.int .u64 a] W fun e w' => e = .returned (.bool true) ∧ Below W.heap.size W w') := fun W => by
    have := address_any a W ha.out
    rwa [hA] at this
  have hq := eqd 9 a 0 r g t s v 9 a 0 0 0 0 0 0 true (by rw [← hq0]; simp)
  have HQ := hid hq0
  clear hq0 hA
  go_enter Tryd.func15, Tryd.ntmps15
  go_wp2_with fail
  refine (HA.out _).mono ?_
  rintro e w1 ⟨rfl, b1⟩
  have HI1 := hid ((in_new w ⟨9, a, 0, r, g, t, s, v⟩ 24).below b1)
  have HB1 := hid (q_trans (q_alloc (Below.refl _ _) _) b1)
  have hlt := HI1.out.lt
  obtain ⟨c0, c1, c2, c3, c4, c5, c6, c7⟩ := HI1.out
  dsimp only at c0 c1 c2 c3 c4 c5 c6 c7
  clear b1 HA
  go_wp2_with (go_at_call 29; refine (ris2_any _ _).mono ?_; rintro e w' ⟨rfl, hw⟩; rw [hw]; clear hw w')
  go_ret
  exact ⟨ret_bool (by rw [← hz.out, mh9 rfl]; exact fl_rs_9z  HQ.out), q_alloc HB1.out _⟩
theorem fl_rs_9b {b r g t s v : Int} (h3 : adB b = false) (e0 : (b == 0) = false) (hq : (r == 0 && (g == 0 && (t == 0 && (s == 0 && v == 0)))) = true) : false = ((b == 0 || adB b) && (r == 0 && (g == 0 && (t == 0 && (s == 0 && v == 0))))) := by rw [h3, e0, hq] <;> simp
set_option maxRecDepth 100000 in
set_option maxHeartbeats 1000000 in
theorem rs_9b (a b r g t s v : Int) (w : World) (ha : Hid (U64 a)) (hA : adB a = true) (hb : Hid (U64 b)) (hq0 : (r == 0 && (g == 0 && (t == 0 && (s == 0 && v == 0)))) = true) (e0 : (b == 0) = false) (h3 : adB b = false) (z : Bool) (hz : Hid (mhB ⟨9, a, b, r, g, t, s, v⟩ = z)) :
    Calls Tryd.prog 15 #[.agg #[.int .i64 9, .int .u64 a, .int .u64 b, .int .i64 r, .int .i64 g, .int .i64 t, .int .i64 s, .int .i64 v]] w fun e w' => e = .returned (.bool z) ∧ Below w.heap.size w w' := by
  have HA : Hid (∀ W : World, Calls Tryd.prog 28 #[.int .u64 a] W fun e w' => e = .returned (.bool true) ∧ Below W.heap.size W w') := fun W => by
    have := address_any a W ha.out
    rwa [hA] at this
  have HC : Hid (∀ W : World, Calls Tryd.prog 28 #[.int .u64 b] W fun e w' => e = .returned (.bool false) ∧ Below W.heap.size W w') := fun W => by
    have := address_any b W hb.out
    rwa [h3] at this
  have H3 := hid h3
  have hq := eqd 9 a b r g t s v 9 a b 0 0 0 0 0 true (by rw [← hq0]; simp)
  have HQ := hid hq0
  clear hq0 hA h3
  go_enter Tryd.func15, Tryd.ntmps15
  go_wp2_with fail
  refine (HA.out _).mono ?_
  rintro e w1 ⟨rfl, b1⟩
  have HI1 := hid ((in_new w ⟨9, a, b, r, g, t, s, v⟩ 24).below b1)
  have HB1 := hid (q_trans (q_alloc (Below.refl _ _) _) b1)
  have hlt := HI1.out.lt
  obtain ⟨c0, c1, c2, c3, c4, c5, c6, c7⟩ := HI1.out
  dsimp only at c0 c1 c2 c3 c4 c5 c6 c7
  clear b1 HA
  go_wp2_with (go_at_call 29; refine (ris2_any _ _).mono ?_; rintro e w' ⟨rfl, hw⟩; rw [hw]; clear hw w')
  refine (HC.out _).mono ?_
  rintro e w2 ⟨rfl, b2⟩
  have HI4 := hid ((HI1.out.below (q_alloc (Below.refl _ _) _)).below b2)
  have HB4 := hid (q_trans (q_alloc HB1.out _) b2)
  clear b2 c0 c1 c2 c3 c4 c5 c6 c7 HC
  obtain ⟨c0, c1, c2, c3, c4, c5, c6, c7⟩ := HI4.out
  dsimp only at c0 c1 c2 c3 c4 c5 c6 c7
  go_wp2_with (go_at_call 29; refine (ris2_any _ _).mono ?_; rintro e w' ⟨rfl, hw⟩; rw [hw]; clear hw w')
  go_ret
  exact ⟨ret_bool (by rw [← hz.out, mh9 rfl]; exact fl_rs_9b H3.out e0 HQ.out), HB4.out⟩
theorem fl_rs_9c {b r g t s v : Int} (h3 : adB b = true) (e0 : (b == 0) = false) (hq : (r == 0 && (g == 0 && (t == 0 && (s == 0 && v == 0)))) = true) : true = ((b == 0 || adB b) && (r == 0 && (g == 0 && (t == 0 && (s == 0 && v == 0))))) := by rw [h3, e0, hq] <;> simp
set_option maxRecDepth 100000 in
set_option maxHeartbeats 1000000 in
theorem rs_9c (a b r g t s v : Int) (w : World) (ha : Hid (U64 a)) (hA : adB a = true) (hb : Hid (U64 b)) (hq0 : (r == 0 && (g == 0 && (t == 0 && (s == 0 && v == 0)))) = true) (e0 : (b == 0) = false) (h3 : adB b = true) (z : Bool) (hz : Hid (mhB ⟨9, a, b, r, g, t, s, v⟩ = z)) :
    Calls Tryd.prog 15 #[.agg #[.int .i64 9, .int .u64 a, .int .u64 b, .int .i64 r, .int .i64 g, .int .i64 t, .int .i64 s, .int .i64 v]] w fun e w' => e = .returned (.bool z) ∧ Below w.heap.size w w' := by
  have HA : Hid (∀ W : World, Calls Tryd.prog 28 #[.int .u64 a] W fun e w' => e = .returned (.bool true) ∧ Below W.heap.size W w') := fun W => by
    have := address_any a W ha.out
    rwa [hA] at this
  have HC : Hid (∀ W : World, Calls Tryd.prog 28 #[.int .u64 b] W fun e w' => e = .returned (.bool true) ∧ Below W.heap.size W w') := fun W => by
    have := address_any b W hb.out
    rwa [h3] at this
  have H3 := hid h3
  have hq := eqd 9 a b r g t s v 9 a b 0 0 0 0 0 true (by rw [← hq0]; simp)
  have HQ := hid hq0
  clear hq0 hA h3
  go_enter Tryd.func15, Tryd.ntmps15
  go_wp2_with fail
  refine (HA.out _).mono ?_
  rintro e w1 ⟨rfl, b1⟩
  have HI1 := hid ((in_new w ⟨9, a, b, r, g, t, s, v⟩ 24).below b1)
  have HB1 := hid (q_trans (q_alloc (Below.refl _ _) _) b1)
  have hlt := HI1.out.lt
  obtain ⟨c0, c1, c2, c3, c4, c5, c6, c7⟩ := HI1.out
  dsimp only at c0 c1 c2 c3 c4 c5 c6 c7
  clear b1 HA
  go_wp2_with (go_at_call 29; refine (ris2_any _ _).mono ?_; rintro e w' ⟨rfl, hw⟩; rw [hw]; clear hw w')
  refine (HC.out _).mono ?_
  rintro e w2 ⟨rfl, b2⟩
  have HI4 := hid ((HI1.out.below (q_alloc (Below.refl _ _) _)).below b2)
  have HB4 := hid (q_trans (q_alloc HB1.out _) b2)
  clear b2 c0 c1 c2 c3 c4 c5 c6 c7 HC
  obtain ⟨c0, c1, c2, c3, c4, c5, c6, c7⟩ := HI4.out
  dsimp only at c0 c1 c2 c3 c4 c5 c6 c7
  go_wp2_with (go_at_call 29; refine (ris2_any _ _).mono ?_; rintro e w' ⟨rfl, hw⟩; rw [hw]; clear hw w')
  go_ret
  exact ⟨ret_bool (by rw [← hz.out, mh9 rfl]; exact fl_rs_9c H3.out e0 HQ.out), HB4.out⟩
set_option maxRecDepth 100000 in
set_option maxHeartbeats 1000000 in
theorem rs_7 (a b r g t s v : Int) (w : World) (ha : Hid (U64 a)) (hA : adB a = true)  (z : Bool) (hz : Hid (mhB ⟨7, a, b, r, g, t, s, v⟩ = z)) :
    Calls Tryd.prog 15 #[.agg #[.int .i64 7, .int .u64 a, .int .u64 b, .int .i64 r, .int .i64 g, .int .i64 t, .int .i64 s, .int .i64 v]] w fun e w' => e = .returned (.bool z) ∧ Below w.heap.size w w' := by
  have HA : Hid (∀ W : World, Calls Tryd.prog 28 #[.int .u64 a] W fun e w' => e = .returned (.bool true) ∧ Below W.heap.size W w') := fun W => by
    have := address_any a W ha.out
    rwa [hA] at this
  obtain ⟨q, hq0⟩ : ∃ q : Bool, (b == 0 && (r == 0 && (g == 0 && (t == 0 && s == 0)))) = q := ⟨_, rfl⟩
  have hq := eqd 7 a b r g t s v 7 a 0 0 0 0 0 v q (by rw [← hq0]; simp)
  have HQ := hid hq0
  clear hq0 hA
  go_enter Tryd.func15, Tryd.ntmps15
  go_wp2_with fail
  refine (HA.out _).mono ?_
  rintro e w1 ⟨rfl, b1⟩
  have HI1 := hid ((in_new w ⟨7, a, b, r, g, t, s, v⟩ 24).below b1)
  have HB1 := hid (q_trans (q_alloc (Below.refl _ _) _) b1)
  have hlt := HI1.out.lt
  obtain ⟨c0, c1, c2, c3, c4, c5, c6, c7⟩ := HI1.out
  dsimp only at c0 c1 c2 c3 c4 c5 c6 c7
  clear b1 HA
  go_wp2_with (go_at_call 29; refine (ris2_any _ _).mono ?_; rintro e w' ⟨rfl, hw⟩; rw [hw]; clear hw w')
  go_ret
  exact ⟨ret_bool (by rw [← hz.out, mh7 rfl, ← HQ.out]), q_alloc HB1.out _⟩
set_option maxRecDepth 100000 in
set_option maxHeartbeats 1000000 in
theorem rs_0 (k : Int) (a b r g t s v : Int) (w : World) (ha : Hid (U64 a)) (hA : adB a = true) (l1 : decide (k < 1) = false) (l2 : decide (12 < k) = false) (n1 : (k == 1) = false) (n2 : (k == 2) = false) (n5 : (k == 5) = false) (n8 : (k == 8) = false) (n9 : (k == 9) = false) (n7 : (k == 7) = false) (N0 : Hid (k ≠ 1 ∧ k ≠ 2 ∧ k ≠ 5 ∧ k ≠ 8 ∧ k ≠ 9 ∧ k ≠ 7)) (z : Bool) (hz : Hid (mhB ⟨k, a, b, r, g, t, s, v⟩ = z)) :
    Calls Tryd.prog 15 #[.agg #[.int .i64 k, .int .u64 a, .int .u64 b, .int .i64 r, .int .i64 g, .int .i64 t, .int .i64 s, .int .i64 v]] w fun e w' => e = .returned (.bool z) ∧ Below w.heap.size w w' := by
  have HA : Hid (∀ W : World, Calls Tryd.prog 28 #[.int .u64 a] W fun e w' => e = .returned (.bool true) ∧ Below W.heap.size W w') := fun W => by
    have := address_any a W ha.out
    rwa [hA] at this
  obtain ⟨q, hq0⟩ : ∃ q : Bool, (b == 0 && (r == 0 && (g == 0 && (t == 0 && (s == 0 && v == 0))))) = q := ⟨_, rfl⟩
  have hq := eqd k a b r g t s v k a 0 0 0 0 0 0 q (by rw [← hq0]; simp)
  have HQ := hid hq0
  clear hq0 hA
  go_enter Tryd.func15, Tryd.ntmps15
  go_wp2_with fail
  refine (HA.out _).mono ?_
  rintro e w1 ⟨rfl, b1⟩
  have HI1 := hid ((in_new w ⟨k, a, b, r, g, t, s, v⟩ 24).below b1)
  have HB1 := hid (q_trans (q_alloc (Below.refl _ _) _) b1)
  have hlt := HI1.out.lt
  obtain ⟨c0, c1, c2, c3, c4, c5, c6, c7⟩ := HI1.out
  dsimp only at c0 c1 c2 c3 c4 c5 c6 c7
  clear b1 HA
  go_wp2_with (go_at_call 29; refine (ris2_any _ _).mono ?_; rintro e w' ⟨rfl, hw⟩; rw [hw]; clear hw w')
  go_ret
  exact ⟨ret_bool (by rw [← hz.out, mh0 N0.out.1 N0.out.2.1 N0.out.2.2.1 N0.out.2.2.2.1 N0.out.2.2.2.2.1 N0.out.2.2.2.2.2, ← HQ.out]), q_alloc HB1.out _⟩
end Go.Proofs.YtilannincbcgkaaDoor.Kl
