/- CallOnly answers true. -/
import Derived.Test.YtilannincbcgkaaDoorKlLive
namespace Go.Proofs.YtilannincbcgkaaDoor.Kl
open Go.RowKit
open Ad (q_trans q_alloc q_set ret_int ret_bool hid)

theorem ch_ok {c : C} (h : chE c = 0) : okC c = true := by
  cases e : okC c with
  | true => rfl
  | false => rw [(put_no e).2] at h; cases h
theorem ch_vals (c : C) : chE c = 0 ∨ chE c = 150 := by unfold chE; split <;> simp
theorem ch_no {c : C} (h : okC c = false) : chE c = 150 := (put_no h).2
theorem ch_yes {c : C} (h : okC c = true) : chE c = 0 := (put_yes h).2
theorem mh_no {c : C} (h : mhB c = false) : okC c = false := by simp [okC, h]
theorem ad_zero : adB 0 = false := by decide
theorem ok_mh {c : C} (h : okC c = true) : kdB c.k = true ∧ adB c.a = true ∧ mhB c = true := by
  simp only [okC, Bool.and_eq_true] at h
  exact ⟨h.1, h.2.1, h.2.2⟩
/-- Rights and badges are for those that mint, types and sizes for those that retype, values for those that write or send, a second address for five kinds. -/
theorem no_r {k a b r g t s v : Int} (hk : k ≠ 1) (hr : r ≠ 0) : mhB ⟨k, a, b, r, g, t, s, v⟩ = false := by
  simp [mhB, hk, hr]
theorem no_g {k a b r g t s v : Int} (hk : k ≠ 1) (hg : g ≠ 0) : mhB ⟨k, a, b, r, g, t, s, v⟩ = false := by
  simp [mhB, hk, hg]
theorem no_t {k a b r g t s v : Int} (hk : k ≠ 5) (ht : t ≠ 0) : mhB ⟨k, a, b, r, g, t, s, v⟩ = false := by
  simp [mhB, hk, ht]
theorem no_s {k a b r g t s v : Int} (hk : k ≠ 5) (hs : s ≠ 0) : mhB ⟨k, a, b, r, g, t, s, v⟩ = false := by
  simp [mhB, hk, hs]
theorem no_v {k a b r g t s v : Int} (h7 : k ≠ 7) (h8 : k ≠ 8) (hv : v ≠ 0) : mhB ⟨k, a, b, r, g, t, s, v⟩ = false := by
  simp [mhB, h7, h8, hv]
theorem no_b {k a b r g t s v : Int} (h1 : k ≠ 1) (h2 : k ≠ 2) (h5 : k ≠ 5) (h8 : k ≠ 8) (h9 : k ≠ 9) (hb : b ≠ 0) : mhB ⟨k, a, b, r, g, t, s, v⟩ = false := by
  simp [mhB, h1, h2, h5, h8, h9, hb]
theorem yes_v {k a b r g t s v u : Int} (h : k = 7 ∨ k = 8) (hm : mhB ⟨k, a, b, r, g, t, s, v⟩ = true) : mhB ⟨k, a, b, r, g, t, s, u⟩ = true := by
  rcases h with rfl | rfl
  · rw [mh7 rfl] at hm ⊢; exact hm
  · rw [mh8 rfl] at hm ⊢; exact hm
theorem yes_b {k a b r g t s v x : Int} (h : k = 1 ∨ k = 2 ∨ k = 5 ∨ k = 8 ∨ k = 9) (hx : adB x = true) (hm : mhB ⟨k, a, b, r, g, t, s, v⟩ = true) : mhB ⟨k, a, x, r, g, t, s, v⟩ = true := by
  rcases h with rfl | rfl | rfl | rfl | rfl
  · rw [mh1 rfl] at hm ⊢; simp only [Bool.and_eq_true] at hm ⊢; exact ⟨hm.1, hm.2.1, hx, hm.2.2.2⟩
  · rw [mh2 rfl] at hm ⊢; simp only [Bool.and_eq_true] at hm ⊢; exact ⟨hx, hm.2⟩
  · rw [mh5 rfl] at hm ⊢; simp only [Bool.and_eq_true] at hm ⊢; exact ⟨hx, hm.2⟩
  · rw [mh8 rfl] at hm ⊢; simp only [Bool.and_eq_true, Bool.or_eq_true] at hm ⊢; exact ⟨.inr hx, hm.2⟩
  · rw [mh9 rfl] at hm ⊢; simp only [Bool.and_eq_true, Bool.or_eq_true] at hm ⊢; exact ⟨.inr hx, hm.2⟩
theorem ok_same {k a b r g t s v b' r' g' t' s' v' : Int} (h : okC ⟨k, a, b, r, g, t, s, v⟩ = true) (hm : mhB ⟨k, a, b', r', g', t', s', v'⟩ = true) : okC ⟨k, a, b', r', g', t', s', v'⟩ = true := by
  obtain ⟨h1, h2, _⟩ := ok_mh h
  simp only [okC, Bool.and_eq_true]
  exact ⟨h1, h2, hm⟩
set_option maxRecDepth 100000 in
set_option maxHeartbeats 1000000 in
theorem on_bad (c : C) (n y : Int) (w : World) (hT : Tabs w) (hc : Wf c) (HC : Hid (chE c = 150)) :
    Calls Tryd.prog 5 #[(.agg #[.int .i64 c.k, .int .u64 c.a, .int .u64 c.b, .int .i64 c.r, .int .i64 c.g, .int .i64 c.t, .int .i64 c.s, .int .i64 c.v]), .int .i64 n, .int .i64 y] w fun e w' => e = .returned (.bool true) ∧ Below w.heap.size w w' := by
  have HT : Hid (Tabs w) := hT
  have K1 : Hid (∀ W : World, Calls Tryd.prog 14 #[(.agg #[.int .i64 c.k, .int .u64 c.a, .int .u64 c.b, .int .i64 c.r, .int .i64 c.g, .int .i64 c.t, .int .i64 c.s, .int .i64 c.v])] W fun e w' => e = .returned (.int .i64 150) ∧ Below W.heap.size W w') := fun W => by
    have := check_any c W hc
    rwa [HC.out] at this
  clear hT hc
  go_enter Tryd.func5, Tryd.ntmps5
  go_wp2_with fail
  refine (K1.out _).mono ?_
  rintro e w1 ⟨rfl, b1⟩
  have B1 := hid (q_trans (q_alloc (Below.refl _ _) _) b1)
  have HT1 := hid (HT.out.below B1.out)
  clear b1
  go_wp2_with (first | (go_at_call 13; refine (num_any _ _).mono ?_; rintro e w' ⟨rfl, hw⟩; rw [hw]; clear hw w') | (go_at_call 8; refine (live_any _ HT1.out).mono ?_; rintro e w6 ⟨rfl, b6⟩))
  go_ret
  exact ⟨rfl, q_trans B1.out b6⟩
set_option maxRecDepth 100000 in
set_option maxHeartbeats 1000000 in
theorem on_zero (c : C) (n : Int) (w : World) (hT : Tabs w) (hc : Wf c) (HC : Hid (chE c = 0)) :
    Calls Tryd.prog 5 #[(.agg #[.int .i64 c.k, .int .u64 c.a, .int .u64 c.b, .int .i64 c.r, .int .i64 c.g, .int .i64 c.t, .int .i64 c.s, .int .i64 c.v]), .int .i64 n, .int .i64 0] w fun e w' => e = .returned (.bool true) ∧ Below w.heap.size w w' := by
  have HT : Hid (Tabs w) := hT
  have K1 : Hid (∀ W : World, Calls Tryd.prog 14 #[(.agg #[.int .i64 c.k, .int .u64 c.a, .int .u64 c.b, .int .i64 c.r, .int .i64 c.g, .int .i64 c.t, .int .i64 c.s, .int .i64 c.v])] W fun e w' => e = .returned (.int .i64 0) ∧ Below W.heap.size W w') := fun W => by
    have := check_any c W hc
    rwa [HC.out] at this
  clear hT hc
  go_enter Tryd.func5, Tryd.ntmps5
  go_wp2_with fail
  refine (K1.out _).mono ?_
  rintro e w1 ⟨rfl, b1⟩
  have B1 := hid (q_trans (q_alloc (Below.refl _ _) _) b1)
  have HT1 := hid (HT.out.below B1.out)
  clear b1
  go_wp2_with (first | (go_at_call 13; refine (num_any _ _).mono ?_; rintro e w' ⟨rfl, hw⟩; rw [hw]; clear hw w') | (go_at_call 8; refine (live_any _ HT1.out).mono ?_; rintro e w6 ⟨rfl, b6⟩))
  go_ret
  exact ⟨rfl, q_trans B1.out b6⟩

end Go.Proofs.YtilannincbcgkaaDoor.Kl
