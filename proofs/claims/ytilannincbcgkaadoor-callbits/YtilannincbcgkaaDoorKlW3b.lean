/- What mayHave does. -/
import Derived.Test.YtilannincbcgkaaDoorKlW3z
namespace Go.Proofs.YtilannincbcgkaaDoor.Kl
open Go.RowKit
open Ad (q_trans q_alloc q_set ret_int ret_bool hid)

set_option maxHeartbeats 1000000 in
theorem mh_5a (a b r g t s v : Int) (w : World) (hb : Hid (U64 b)) (h3 : adB b = false) (z : Bool) (hz : Hid (mhB ⟨5, a, b, r, g, t, s, v⟩ = z)) :
    Calls Tryd.prog 27 #[.agg #[.int .i64 5, .int .u64 a, .int .u64 b, .int .i64 r, .int .i64 g, .int .i64 t, .int .i64 s, .int .i64 v]] w fun e w' => e = .returned (.bool z) ∧ Below w.heap.size w w' := by
  have HC : Hid (∀ W : World, Calls Tryd.prog 26 #[.int .u64 b] W fun e w' => e = .returned (.bool false) ∧ Below W.heap.size W w') := fun W => by
    have := isAddress_any b W hb.out
    rwa [h3] at this
  have H3 := hid h3
  clear h3
  go_enter Tryd.func27, Tryd.ntmps27
  go_wp2_with (first | (go_at_call 36; refine (Rt.is_any _ _).mono ?_; rintro e w' ⟨rfl, hw⟩; rw [hw]; clear hw w') | (go_at_call 34; refine (within_any _ _ _ _).mono ?_; rintro e w' ⟨rfl, hw⟩; rw [hw]; clear hw w'))
  refine (HC.out _).mono ?_
  rintro e w1 ⟨rfl, b1⟩
  obtain ⟨⟨z0, z1, z2, z3, z4, z5, z6, z7⟩, zf⟩ := (two_own w _ ⟨0, 0, b, r, g, t, s, v⟩ _).below b1
  obtain ⟨c0, c1, c2, c3, c4, c5, c6, c7⟩ := ((in_new w ⟨5, a, b, r, g, t, s, v⟩ _).below (q_alloc (Below.refl _ _) _)).below b1
  have HB := hid (q_trans (two_low w _ _) b1)
  clear b1 HC
  go_wp2_with (first | (go_at_call 36; refine (Rt.is_any _ _).mono ?_; rintro e w' ⟨rfl, hw⟩; rw [hw]; clear hw w') | (go_at_call 34; refine (within_any _ _ _ _).mono ?_; rintro e w' ⟨rfl, hw⟩; rw [hw]; clear hw w'))
  go_ret
  exact ⟨ret_bool (by rw [← hz.out, mh5 rfl]; simp [H3.out]), by repeat (first | exact HB.out | refine q_set ?_ (by simp) _)⟩
set_option maxHeartbeats 1000000 in
theorem mh_5b (a b r g t s v : Int) (w : World) (hb : Hid (U64 b)) (h3 : adB b = true) (h4 : inB t 1 5 = false) (z : Bool) (hz : Hid (mhB ⟨5, a, b, r, g, t, s, v⟩ = z)) :
    Calls Tryd.prog 27 #[.agg #[.int .i64 5, .int .u64 a, .int .u64 b, .int .i64 r, .int .i64 g, .int .i64 t, .int .i64 s, .int .i64 v]] w fun e w' => e = .returned (.bool z) ∧ Below w.heap.size w w' := by
  have HC : Hid (∀ W : World, Calls Tryd.prog 26 #[.int .u64 b] W fun e w' => e = .returned (.bool true) ∧ Below W.heap.size W w') := fun W => by
    have := isAddress_any b W hb.out
    rwa [h3] at this
  have H3 := hid h3
  have H4 := hid h4
  clear h3
  go_enter Tryd.func27, Tryd.ntmps27
  go_wp2_with (first | (go_at_call 36; refine (Rt.is_any _ _).mono ?_; rintro e w' ⟨rfl, hw⟩; rw [hw]; clear hw w') | (go_at_call 34; refine (within_any _ _ _ _).mono ?_; rintro e w' ⟨rfl, hw⟩; rw [hw]; clear hw w'))
  refine (HC.out _).mono ?_
  rintro e w1 ⟨rfl, b1⟩
  obtain ⟨⟨z0, z1, z2, z3, z4, z5, z6, z7⟩, zf⟩ := (two_own w _ ⟨0, 0, b, r, g, t, s, v⟩ _).below b1
  obtain ⟨c0, c1, c2, c3, c4, c5, c6, c7⟩ := ((in_new w ⟨5, a, b, r, g, t, s, v⟩ _).below (q_alloc (Below.refl _ _) _)).below b1
  have HB := hid (q_trans (two_low w _ _) b1)
  clear b1 HC
  go_wp2_with (first | (go_at_call 36; refine (Rt.is_any _ _).mono ?_; rintro e w' ⟨rfl, hw⟩; rw [hw]; clear hw w') | (go_at_call 34; refine (within_any _ _ _ _).mono ?_; rintro e w' ⟨rfl, hw⟩; rw [hw]; clear hw w'))
  go_ret
  exact ⟨ret_bool (by rw [← hz.out, mh5 rfl]; simp [H3.out, H4.out]), by repeat (first | exact HB.out | refine q_set ?_ (by simp) _)⟩
set_option maxHeartbeats 1000000 in
theorem mh_5c (a b r g t s v : Int) (w : World) (hb : Hid (U64 b)) (h3 : adB b = true) (h4 : inB t 1 5 = true) (h5 : inB s 0 1048576 = false) (z : Bool) (hz : Hid (mhB ⟨5, a, b, r, g, t, s, v⟩ = z)) :
    Calls Tryd.prog 27 #[.agg #[.int .i64 5, .int .u64 a, .int .u64 b, .int .i64 r, .int .i64 g, .int .i64 t, .int .i64 s, .int .i64 v]] w fun e w' => e = .returned (.bool z) ∧ Below w.heap.size w w' := by
  have HC : Hid (∀ W : World, Calls Tryd.prog 26 #[.int .u64 b] W fun e w' => e = .returned (.bool true) ∧ Below W.heap.size W w') := fun W => by
    have := isAddress_any b W hb.out
    rwa [h3] at this
  have H3 := hid h3
  have H4 := hid h4
  have H5 := hid h5
  clear h3
  go_enter Tryd.func27, Tryd.ntmps27
  go_wp2_with (first | (go_at_call 36; refine (Rt.is_any _ _).mono ?_; rintro e w' ⟨rfl, hw⟩; rw [hw]; clear hw w') | (go_at_call 34; refine (within_any _ _ _ _).mono ?_; rintro e w' ⟨rfl, hw⟩; rw [hw]; clear hw w'))
  refine (HC.out _).mono ?_
  rintro e w1 ⟨rfl, b1⟩
  obtain ⟨⟨z0, z1, z2, z3, z4, z5, z6, z7⟩, zf⟩ := (two_own w _ ⟨0, 0, b, r, g, t, s, v⟩ _).below b1
  obtain ⟨c0, c1, c2, c3, c4, c5, c6, c7⟩ := ((in_new w ⟨5, a, b, r, g, t, s, v⟩ _).below (q_alloc (Below.refl _ _) _)).below b1
  have HB := hid (q_trans (two_low w _ _) b1)
  clear b1 HC
  go_wp2_with (first | (go_at_call 36; refine (Rt.is_any _ _).mono ?_; rintro e w' ⟨rfl, hw⟩; rw [hw]; clear hw w') | (go_at_call 34; refine (within_any _ _ _ _).mono ?_; rintro e w' ⟨rfl, hw⟩; rw [hw]; clear hw w'))
  go_ret
  exact ⟨ret_bool (by rw [← hz.out, mh5 rfl]; simp [H3.out, H4.out, H5.out]), by repeat (first | exact HB.out | refine q_set ?_ (by simp) _)⟩
set_option maxHeartbeats 1000000 in
theorem mh_5d (a b r g t s v : Int) (w : World) (hb : Hid (U64 b)) (h3 : adB b = true) (h4 : inB t 1 5 = true) (h5 : inB s 0 1048576 = true) (z : Bool) (hz : Hid (mhB ⟨5, a, b, r, g, t, s, v⟩ = z)) :
    Calls Tryd.prog 27 #[.agg #[.int .i64 5, .int .u64 a, .int .u64 b, .int .i64 r, .int .i64 g, .int .i64 t, .int .i64 s, .int .i64 v]] w fun e w' => e = .returned (.bool z) ∧ Below w.heap.size w w' := by
  have HC : Hid (∀ W : World, Calls Tryd.prog 26 #[.int .u64 b] W fun e w' => e = .returned (.bool true) ∧ Below W.heap.size W w') := fun W => by
    have := isAddress_any b W hb.out
    rwa [h3] at this
  have H3 := hid h3
  have H4 := hid h4
  have H5 := hid h5
  obtain ⟨q, hq0⟩ : ∃ q : Bool, (r == 0 && (g == 0 && v == 0)) = q := ⟨_, rfl⟩
  have hq := eqz 0 0 0 r g 0 0 v q (by rw [← hq0]; simp)
  have HQ := hid hq0
  clear hq0
  clear h3
  go_enter Tryd.func27, Tryd.ntmps27
  go_wp2_with (first | (go_at_call 36; refine (Rt.is_any _ _).mono ?_; rintro e w' ⟨rfl, hw⟩; rw [hw]; clear hw w') | (go_at_call 34; refine (within_any _ _ _ _).mono ?_; rintro e w' ⟨rfl, hw⟩; rw [hw]; clear hw w'))
  refine (HC.out _).mono ?_
  rintro e w1 ⟨rfl, b1⟩
  obtain ⟨⟨z0, z1, z2, z3, z4, z5, z6, z7⟩, zf⟩ := (two_own w _ ⟨0, 0, b, r, g, t, s, v⟩ _).below b1
  obtain ⟨c0, c1, c2, c3, c4, c5, c6, c7⟩ := ((in_new w ⟨5, a, b, r, g, t, s, v⟩ _).below (q_alloc (Below.refl _ _) _)).below b1
  have HB := hid (q_trans (two_low w _ _) b1)
  clear b1 HC
  go_wp2_with (first | (go_at_call 36; refine (Rt.is_any _ _).mono ?_; rintro e w' ⟨rfl, hw⟩; rw [hw]; clear hw w') | (go_at_call 34; refine (within_any _ _ _ _).mono ?_; rintro e w' ⟨rfl, hw⟩; rw [hw]; clear hw w'))
  go_ret
  exact ⟨ret_bool (by rw [← HQ.out, ← hz.out, mh5 rfl]; simp [H3.out, H4.out, H5.out]), by repeat (first | exact HB.out | refine q_set ?_ (by simp) _)⟩
set_option maxHeartbeats 1000000 in
theorem mh_8a (a r g t s v : Int) (w : World)  (z : Bool) (hz : Hid (mhB ⟨8, a, 0, r, g, t, s, v⟩ = z)) :
    Calls Tryd.prog 27 #[.agg #[.int .i64 8, .int .u64 a, .int .u64 0, .int .i64 r, .int .i64 g, .int .i64 t, .int .i64 s, .int .i64 v]] w fun e w' => e = .returned (.bool z) ∧ Below w.heap.size w w' := by
  obtain ⟨q, hq0⟩ : ∃ q : Bool, (r == 0 && (g == 0 && (t == 0 && s == 0))) = q := ⟨_, rfl⟩
  have hq := eqz 0 0 0 r g t s 0 q (by rw [← hq0]; simp)
  have HQ := hid hq0
  clear hq0
  go_enter Tryd.func27, Tryd.ntmps27
  go_wp2_with (first | (go_at_call 36; refine (Rt.is_any _ _).mono ?_; rintro e w' ⟨rfl, hw⟩; rw [hw]; clear hw w') | (go_at_call 34; refine (within_any _ _ _ _).mono ?_; rintro e w' ⟨rfl, hw⟩; rw [hw]; clear hw w'))
  go_ret
  exact ⟨ret_bool (by rw [← HQ.out, ← hz.out, mh8 rfl]; simp), two_low w _ _⟩
set_option maxHeartbeats 1000000 in
theorem mh_8b (a b r g t s v : Int) (w : World) (hb : Hid (U64 b)) (e0 : (b == 0) = false) (h3 : adB b = false) (z : Bool) (hz : Hid (mhB ⟨8, a, b, r, g, t, s, v⟩ = z)) :
    Calls Tryd.prog 27 #[.agg #[.int .i64 8, .int .u64 a, .int .u64 b, .int .i64 r, .int .i64 g, .int .i64 t, .int .i64 s, .int .i64 v]] w fun e w' => e = .returned (.bool z) ∧ Below w.heap.size w w' := by
  have HC : Hid (∀ W : World, Calls Tryd.prog 26 #[.int .u64 b] W fun e w' => e = .returned (.bool false) ∧ Below W.heap.size W w') := fun W => by
    have := isAddress_any b W hb.out
    rwa [h3] at this
  have H3 := hid h3
  clear h3
  go_enter Tryd.func27, Tryd.ntmps27
  go_wp2_with (first | (go_at_call 36; refine (Rt.is_any _ _).mono ?_; rintro e w' ⟨rfl, hw⟩; rw [hw]; clear hw w') | (go_at_call 34; refine (within_any _ _ _ _).mono ?_; rintro e w' ⟨rfl, hw⟩; rw [hw]; clear hw w'))
  refine (HC.out _).mono ?_
  rintro e w1 ⟨rfl, b1⟩
  obtain ⟨⟨z0, z1, z2, z3, z4, z5, z6, z7⟩, zf⟩ := (two_own w _ ⟨0, 0, b, r, g, t, s, 0⟩ _).below b1
  obtain ⟨c0, c1, c2, c3, c4, c5, c6, c7⟩ := ((in_new w ⟨8, a, b, r, g, t, s, v⟩ _).below (q_alloc (Below.refl _ _) _)).below b1
  have HB := hid (q_trans (two_low w _ _) b1)
  clear b1 HC
  go_wp2_with (first | (go_at_call 36; refine (Rt.is_any _ _).mono ?_; rintro e w' ⟨rfl, hw⟩; rw [hw]; clear hw w') | (go_at_call 34; refine (within_any _ _ _ _).mono ?_; rintro e w' ⟨rfl, hw⟩; rw [hw]; clear hw w'))
  go_ret
  exact ⟨ret_bool (by rw [← hz.out, mh8 rfl]; simp [H3.out, e0]), by repeat (first | exact HB.out | refine q_set ?_ (by simp) _)⟩
end Go.Proofs.YtilannincbcgkaaDoor.Kl
