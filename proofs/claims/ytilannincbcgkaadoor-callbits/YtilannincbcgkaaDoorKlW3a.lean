/- What mayHave does. -/
import Derived.Test.YtilannincbcgkaaDoorKlW3z
namespace Go.Proofs.YtilannincbcgkaaDoor.Kl
open Go.RowKit
open Ad (q_trans q_alloc q_set ret_int ret_bool hid)

set_option maxHeartbeats 1000000 in
theorem mh_1a (a b r g t s v : Int) (w : World) (h1 : Rt.isR r = false) (z : Bool) (hz : Hid (mhB ⟨1, a, b, r, g, t, s, v⟩ = z)) :
    Calls Tryd.prog 27 #[.agg #[.int .i64 1, .int .u64 a, .int .u64 b, .int .i64 r, .int .i64 g, .int .i64 t, .int .i64 s, .int .i64 v]] w fun e w' => e = .returned (.bool z) ∧ Below w.heap.size w w' := by
  have H1 := hid h1
  go_enter Tryd.func27, Tryd.ntmps27
  go_wp2_with (first | (go_at_call 36; refine (Rt.is_any _ _).mono ?_; rintro e w' ⟨rfl, hw⟩; rw [hw]; clear hw w') | (go_at_call 34; refine (within_any _ _ _ _).mono ?_; rintro e w' ⟨rfl, hw⟩; rw [hw]; clear hw w'))
  go_ret
  exact ⟨ret_bool (by rw [← hz.out, mh1 rfl]; simp [H1.out]), two_low w _ _⟩
set_option maxHeartbeats 1000000 in
theorem mh_1b (a b r g t s v : Int) (w : World) (h1 : Rt.isR r = true) (h2 : inB g 0 65535 = false) (z : Bool) (hz : Hid (mhB ⟨1, a, b, r, g, t, s, v⟩ = z)) :
    Calls Tryd.prog 27 #[.agg #[.int .i64 1, .int .u64 a, .int .u64 b, .int .i64 r, .int .i64 g, .int .i64 t, .int .i64 s, .int .i64 v]] w fun e w' => e = .returned (.bool z) ∧ Below w.heap.size w w' := by
  have H1 := hid h1
  have H2 := hid h2
  go_enter Tryd.func27, Tryd.ntmps27
  go_wp2_with (first | (go_at_call 36; refine (Rt.is_any _ _).mono ?_; rintro e w' ⟨rfl, hw⟩; rw [hw]; clear hw w') | (go_at_call 34; refine (within_any _ _ _ _).mono ?_; rintro e w' ⟨rfl, hw⟩; rw [hw]; clear hw w'))
  go_ret
  exact ⟨ret_bool (by rw [← hz.out, mh1 rfl]; simp [H1.out, H2.out]), two_low w _ _⟩
set_option maxHeartbeats 1000000 in
theorem mh_1c (a b r g t s v : Int) (w : World) (hb : Hid (U64 b)) (h1 : Rt.isR r = true) (h2 : inB g 0 65535 = true) (h3 : adB b = false) (z : Bool) (hz : Hid (mhB ⟨1, a, b, r, g, t, s, v⟩ = z)) :
    Calls Tryd.prog 27 #[.agg #[.int .i64 1, .int .u64 a, .int .u64 b, .int .i64 r, .int .i64 g, .int .i64 t, .int .i64 s, .int .i64 v]] w fun e w' => e = .returned (.bool z) ∧ Below w.heap.size w w' := by
  have HC : Hid (∀ W : World, Calls Tryd.prog 26 #[.int .u64 b] W fun e w' => e = .returned (.bool false) ∧ Below W.heap.size W w') := fun W => by
    have := isAddress_any b W hb.out
    rwa [h3] at this
  have H1 := hid h1
  have H2 := hid h2
  have H3 := hid h3
  clear h3
  go_enter Tryd.func27, Tryd.ntmps27
  go_wp2_with (first | (go_at_call 36; refine (Rt.is_any _ _).mono ?_; rintro e w' ⟨rfl, hw⟩; rw [hw]; clear hw w') | (go_at_call 34; refine (within_any _ _ _ _).mono ?_; rintro e w' ⟨rfl, hw⟩; rw [hw]; clear hw w'))
  refine (HC.out _).mono ?_
  rintro e w1 ⟨rfl, b1⟩
  obtain ⟨⟨z0, z1, z2, z3, z4, z5, z6, z7⟩, zf⟩ := (two_own w _ ⟨0, 0, b, 0, 0, t, s, v⟩ _).below b1
  obtain ⟨c0, c1, c2, c3, c4, c5, c6, c7⟩ := ((in_new w ⟨1, a, b, r, g, t, s, v⟩ _).below (q_alloc (Below.refl _ _) _)).below b1
  have HB := hid (q_trans (two_low w _ _) b1)
  clear b1 HC
  go_wp2_with (first | (go_at_call 36; refine (Rt.is_any _ _).mono ?_; rintro e w' ⟨rfl, hw⟩; rw [hw]; clear hw w') | (go_at_call 34; refine (within_any _ _ _ _).mono ?_; rintro e w' ⟨rfl, hw⟩; rw [hw]; clear hw w'))
  go_ret
  exact ⟨ret_bool (by rw [← hz.out, mh1 rfl]; simp [H1.out, H2.out, H3.out]), by repeat (first | exact HB.out | refine q_set ?_ (by simp) _)⟩
set_option maxHeartbeats 1000000 in
theorem mh_1d (a b r g t s v : Int) (w : World) (hb : Hid (U64 b)) (h1 : Rt.isR r = true) (h2 : inB g 0 65535 = true) (h3 : adB b = true) (z : Bool) (hz : Hid (mhB ⟨1, a, b, r, g, t, s, v⟩ = z)) :
    Calls Tryd.prog 27 #[.agg #[.int .i64 1, .int .u64 a, .int .u64 b, .int .i64 r, .int .i64 g, .int .i64 t, .int .i64 s, .int .i64 v]] w fun e w' => e = .returned (.bool z) ∧ Below w.heap.size w w' := by
  have HC : Hid (∀ W : World, Calls Tryd.prog 26 #[.int .u64 b] W fun e w' => e = .returned (.bool true) ∧ Below W.heap.size W w') := fun W => by
    have := isAddress_any b W hb.out
    rwa [h3] at this
  have H1 := hid h1
  have H2 := hid h2
  have H3 := hid h3
  obtain ⟨q, hq0⟩ : ∃ q : Bool, (t == 0 && (s == 0 && v == 0)) = q := ⟨_, rfl⟩
  have hq := eqz 0 0 0 0 0 t s v q (by rw [← hq0]; simp)
  have HQ := hid hq0
  clear hq0
  clear h3
  go_enter Tryd.func27, Tryd.ntmps27
  go_wp2_with (first | (go_at_call 36; refine (Rt.is_any _ _).mono ?_; rintro e w' ⟨rfl, hw⟩; rw [hw]; clear hw w') | (go_at_call 34; refine (within_any _ _ _ _).mono ?_; rintro e w' ⟨rfl, hw⟩; rw [hw]; clear hw w'))
  refine (HC.out _).mono ?_
  rintro e w1 ⟨rfl, b1⟩
  obtain ⟨⟨z0, z1, z2, z3, z4, z5, z6, z7⟩, zf⟩ := (two_own w _ ⟨0, 0, b, 0, 0, t, s, v⟩ _).below b1
  obtain ⟨c0, c1, c2, c3, c4, c5, c6, c7⟩ := ((in_new w ⟨1, a, b, r, g, t, s, v⟩ _).below (q_alloc (Below.refl _ _) _)).below b1
  have HB := hid (q_trans (two_low w _ _) b1)
  clear b1 HC
  go_wp2_with (first | (go_at_call 36; refine (Rt.is_any _ _).mono ?_; rintro e w' ⟨rfl, hw⟩; rw [hw]; clear hw w') | (go_at_call 34; refine (within_any _ _ _ _).mono ?_; rintro e w' ⟨rfl, hw⟩; rw [hw]; clear hw w'))
  go_ret
  exact ⟨ret_bool (by rw [← HQ.out, ← hz.out, mh1 rfl]; simp [H1.out, H2.out, H3.out]), by repeat (first | exact HB.out | refine q_set ?_ (by simp) _)⟩
set_option maxHeartbeats 1000000 in
theorem mh_2c (a b r g t s v : Int) (w : World) (hb : Hid (U64 b)) (h3 : adB b = false) (z : Bool) (hz : Hid (mhB ⟨2, a, b, r, g, t, s, v⟩ = z)) :
    Calls Tryd.prog 27 #[.agg #[.int .i64 2, .int .u64 a, .int .u64 b, .int .i64 r, .int .i64 g, .int .i64 t, .int .i64 s, .int .i64 v]] w fun e w' => e = .returned (.bool z) ∧ Below w.heap.size w w' := by
  have HC : Hid (∀ W : World, Calls Tryd.prog 26 #[.int .u64 b] W fun e w' => e = .returned (.bool false) ∧ Below W.heap.size W w') := fun W => by
    have := isAddress_any b W hb.out
    rwa [h3] at this
  have H3 := hid h3
  clear h3
  go_enter Tryd.func27, Tryd.ntmps27
  go_wp2_with (first | (go_at_call 36; refine (Rt.is_any _ _).mono ?_; rintro e w' ⟨rfl, hw⟩; rw [hw]; clear hw w') | (go_at_call 34; refine (within_any _ _ _ _).mono ?_; rintro e w' ⟨rfl, hw⟩; rw [hw]; clear hw w'))
  refine (HC.out _).mono ?_
  rintro e w1 ⟨rfl, b1⟩
  obtain ⟨⟨z0, z1, z2, z3, z4, z5, z6, z7⟩, zf⟩ := (two_own w _ ⟨0, 0, b, r, g, t, s, v⟩ _).below b1
  obtain ⟨c0, c1, c2, c3, c4, c5, c6, c7⟩ := ((in_new w ⟨2, a, b, r, g, t, s, v⟩ _).below (q_alloc (Below.refl _ _) _)).below b1
  have HB := hid (q_trans (two_low w _ _) b1)
  clear b1 HC
  go_wp2_with (first | (go_at_call 36; refine (Rt.is_any _ _).mono ?_; rintro e w' ⟨rfl, hw⟩; rw [hw]; clear hw w') | (go_at_call 34; refine (within_any _ _ _ _).mono ?_; rintro e w' ⟨rfl, hw⟩; rw [hw]; clear hw w'))
  go_ret
  exact ⟨ret_bool (by rw [← hz.out, mh2 rfl]; simp [H3.out]), by repeat (first | exact HB.out | refine q_set ?_ (by simp) _)⟩
set_option maxHeartbeats 1000000 in
theorem mh_2d (a b r g t s v : Int) (w : World) (hb : Hid (U64 b)) (h3 : adB b = true) (z : Bool) (hz : Hid (mhB ⟨2, a, b, r, g, t, s, v⟩ = z)) :
    Calls Tryd.prog 27 #[.agg #[.int .i64 2, .int .u64 a, .int .u64 b, .int .i64 r, .int .i64 g, .int .i64 t, .int .i64 s, .int .i64 v]] w fun e w' => e = .returned (.bool z) ∧ Below w.heap.size w w' := by
  have HC : Hid (∀ W : World, Calls Tryd.prog 26 #[.int .u64 b] W fun e w' => e = .returned (.bool true) ∧ Below W.heap.size W w') := fun W => by
    have := isAddress_any b W hb.out
    rwa [h3] at this
  have H3 := hid h3
  obtain ⟨q, hq0⟩ : ∃ q : Bool, (r == 0 && (g == 0 && (t == 0 && (s == 0 && v == 0)))) = q := ⟨_, rfl⟩
  have hq := eqz 0 0 0 r g t s v q (by rw [← hq0]; simp)
  have HQ := hid hq0
  clear hq0
  clear h3
  go_enter Tryd.func27, Tryd.ntmps27
  go_wp2_with (first | (go_at_call 36; refine (Rt.is_any _ _).mono ?_; rintro e w' ⟨rfl, hw⟩; rw [hw]; clear hw w') | (go_at_call 34; refine (within_any _ _ _ _).mono ?_; rintro e w' ⟨rfl, hw⟩; rw [hw]; clear hw w'))
  refine (HC.out _).mono ?_
  rintro e w1 ⟨rfl, b1⟩
  obtain ⟨⟨z0, z1, z2, z3, z4, z5, z6, z7⟩, zf⟩ := (two_own w _ ⟨0, 0, b, r, g, t, s, v⟩ _).below b1
  obtain ⟨c0, c1, c2, c3, c4, c5, c6, c7⟩ := ((in_new w ⟨2, a, b, r, g, t, s, v⟩ _).below (q_alloc (Below.refl _ _) _)).below b1
  have HB := hid (q_trans (two_low w _ _) b1)
  clear b1 HC
  go_wp2_with (first | (go_at_call 36; refine (Rt.is_any _ _).mono ?_; rintro e w' ⟨rfl, hw⟩; rw [hw]; clear hw w') | (go_at_call 34; refine (within_any _ _ _ _).mono ?_; rintro e w' ⟨rfl, hw⟩; rw [hw]; clear hw w'))
  go_ret
  exact ⟨ret_bool (by rw [← HQ.out, ← hz.out, mh2 rfl]; simp [H3.out]), by repeat (first | exact HB.out | refine q_set ?_ (by simp) _)⟩
end Go.Proofs.YtilannincbcgkaaDoor.Kl
