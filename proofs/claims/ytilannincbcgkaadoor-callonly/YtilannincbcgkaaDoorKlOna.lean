/- CallOnly answers true. -/
import Derived.Test.YtilannincbcgkaaDoorKlOn0
namespace Go.Proofs.YtilannincbcgkaaDoor.Kl
open Go.RowKit
open Ad (q_trans q_alloc q_set ret_int ret_bool hid)

set_option maxRecDepth 100000 in
set_option maxHeartbeats 1000000 in
theorem on_0_k (k a b r g t s v y : Int) (w : World) (hT : Tabs w) (hy : (y == 0) = false) (m1 : (k != 1) = true) (hc : Wf ⟨k, a, b, r, g, t, s, v⟩) (hd : Wf ⟨k, a, b, y, g, t, s, v⟩) (HC : Hid (chE ⟨k, a, b, r, g, t, s, v⟩ = 0)) (HD : Hid (chE ⟨k, a, b, y, g, t, s, v⟩ = 150)) :
    Calls Tryd.prog 5 #[.agg #[.int .i64 k, .int .u64 a, .int .u64 b, .int .i64 r, .int .i64 g, .int .i64 t, .int .i64 s, .int .i64 v], .int .i64 0, .int .i64 y] w fun e w' => e = .returned (.bool true) ∧ Below w.heap.size w w' := by
  have HT : Hid (Tabs w) := hT
  have K1 : Hid (∀ W : World, Calls Tryd.prog 14 #[.agg #[.int .i64 k, .int .u64 a, .int .u64 b, .int .i64 r, .int .i64 g, .int .i64 t, .int .i64 s, .int .i64 v]] W fun e w' => e = .returned (.int .i64 0) ∧ Below W.heap.size W w') := fun W => by
    have := check_any ⟨k, a, b, r, g, t, s, v⟩ W hc
    rwa [HC.out] at this
  have K2 : Hid (∀ W : World, Calls Tryd.prog 14 #[.agg #[.int .i64 k, .int .u64 a, .int .u64 b, .int .i64 y, .int .i64 g, .int .i64 t, .int .i64 s, .int .i64 v]] W fun e w' => e = .returned (.int .i64 150) ∧ Below W.heap.size W w') := fun W => by
    have := check_any ⟨k, a, b, y, g, t, s, v⟩ W hd
    rwa [HD.out] at this
  clear hT hc hd
  go_enter Tryd.func5, Tryd.ntmps5
  go_wp2_with fail
  refine (K1.out _).mono ?_
  rintro e w1 ⟨rfl, b1⟩
  have HI := hid ((in_new w ⟨k, a, b, r, g, t, s, v⟩ 24).below b1)
  have B1 := hid (q_trans (q_alloc (Below.refl _ _) _) b1)
  have hlt := HI.out.lt
  obtain ⟨c0, c1, c2, c3, c4, c5, c6, c7⟩ := HI.out
  dsimp only at c0 c1 c2 c3 c4 c5 c6 c7
  clear b1
  go_wp2_with (go_at_call 13; refine (num_any _ _).mono ?_; rintro e w' ⟨rfl, hw⟩; rw [hw]; clear hw w')
  refine (K2.out _).mono ?_
  rintro e w2 ⟨rfl, b2⟩
  have B2 := hid (q_trans (q_alloc B1.out _) b2)
  have HT2 := hid (HT.out.below B2.out)
  clear b2 c0 c1 c2 c3 c4 c5 c6 c7 HI B1
  go_wp2_with (first | (go_at_call 13; refine (num_any _ _).mono ?_; rintro e w' ⟨rfl, hw⟩; rw [hw]; clear hw w') | (go_at_call 8; refine (live_any _ HT2.out).mono ?_; rintro e w6 ⟨rfl, b6⟩))
  all_goals go_ret
  all_goals exact ⟨rfl, q_trans B2.out b6⟩
set_option maxRecDepth 100000 in
set_option maxHeartbeats 1000000 in
theorem on_0_1 (a b r g t s v y x : Int) (w : World) (hT : Tabs w) (hy : (y == 0) = false)  (hc : Wf ⟨1, a, b, r, g, t, s, v⟩) (hd : Wf ⟨1, a, b, y, g, t, s, v⟩) (HC : Hid (chE ⟨1, a, b, r, g, t, s, v⟩ = 0)) (HD : Hid (chE ⟨1, a, b, y, g, t, s, v⟩ = x)) :
    Calls Tryd.prog 5 #[.agg #[.int .i64 1, .int .u64 a, .int .u64 b, .int .i64 r, .int .i64 g, .int .i64 t, .int .i64 s, .int .i64 v], .int .i64 0, .int .i64 y] w fun e w' => e = .returned (.bool true) ∧ Below w.heap.size w w' := by
  have HT : Hid (Tabs w) := hT
  have K1 : Hid (∀ W : World, Calls Tryd.prog 14 #[.agg #[.int .i64 1, .int .u64 a, .int .u64 b, .int .i64 r, .int .i64 g, .int .i64 t, .int .i64 s, .int .i64 v]] W fun e w' => e = .returned (.int .i64 0) ∧ Below W.heap.size W w') := fun W => by
    have := check_any ⟨1, a, b, r, g, t, s, v⟩ W hc
    rwa [HC.out] at this
  have K2 : Hid (∀ W : World, Calls Tryd.prog 14 #[.agg #[.int .i64 1, .int .u64 a, .int .u64 b, .int .i64 y, .int .i64 g, .int .i64 t, .int .i64 s, .int .i64 v]] W fun e w' => e = .returned (.int .i64 x) ∧ Below W.heap.size W w') := fun W => by
    have := check_any ⟨1, a, b, y, g, t, s, v⟩ W hd
    rwa [HD.out] at this
  clear hT hc hd
  go_enter Tryd.func5, Tryd.ntmps5
  go_wp2_with fail
  refine (K1.out _).mono ?_
  rintro e w1 ⟨rfl, b1⟩
  have HI := hid ((in_new w ⟨1, a, b, r, g, t, s, v⟩ 24).below b1)
  have B1 := hid (q_trans (q_alloc (Below.refl _ _) _) b1)
  have hlt := HI.out.lt
  obtain ⟨c0, c1, c2, c3, c4, c5, c6, c7⟩ := HI.out
  dsimp only at c0 c1 c2 c3 c4 c5 c6 c7
  clear b1
  go_wp2_with (go_at_call 13; refine (num_any _ _).mono ?_; rintro e w' ⟨rfl, hw⟩; rw [hw]; clear hw w')
  refine (K2.out _).mono ?_
  rintro e w2 ⟨rfl, b2⟩
  have B2 := hid (q_trans (q_alloc B1.out _) b2)
  have HT2 := hid (HT.out.below B2.out)
  clear b2 c0 c1 c2 c3 c4 c5 c6 c7 HI B1
  go_wp2_with (first | (go_at_call 13; refine (num_any _ _).mono ?_; rintro e w' ⟨rfl, hw⟩; rw [hw]; clear hw w') | (go_at_call 8; refine (live_any _ HT2.out).mono ?_; rintro e w6 ⟨rfl, b6⟩))
  all_goals go_ret
  all_goals exact ⟨rfl, q_trans B2.out b6⟩
set_option maxRecDepth 100000 in
set_option maxHeartbeats 1000000 in
theorem on_1_k (k a b r g t s v y : Int) (w : World) (hT : Tabs w) (hy : (y == 0) = false) (m1 : (k != 1) = true) (hc : Wf ⟨k, a, b, r, g, t, s, v⟩) (hd : Wf ⟨k, a, b, r, y, t, s, v⟩) (HC : Hid (chE ⟨k, a, b, r, g, t, s, v⟩ = 0)) (HD : Hid (chE ⟨k, a, b, r, y, t, s, v⟩ = 150)) :
    Calls Tryd.prog 5 #[.agg #[.int .i64 k, .int .u64 a, .int .u64 b, .int .i64 r, .int .i64 g, .int .i64 t, .int .i64 s, .int .i64 v], .int .i64 1, .int .i64 y] w fun e w' => e = .returned (.bool true) ∧ Below w.heap.size w w' := by
  have HT : Hid (Tabs w) := hT
  have K1 : Hid (∀ W : World, Calls Tryd.prog 14 #[.agg #[.int .i64 k, .int .u64 a, .int .u64 b, .int .i64 r, .int .i64 g, .int .i64 t, .int .i64 s, .int .i64 v]] W fun e w' => e = .returned (.int .i64 0) ∧ Below W.heap.size W w') := fun W => by
    have := check_any ⟨k, a, b, r, g, t, s, v⟩ W hc
    rwa [HC.out] at this
  have K2 : Hid (∀ W : World, Calls Tryd.prog 14 #[.agg #[.int .i64 k, .int .u64 a, .int .u64 b, .int .i64 r, .int .i64 y, .int .i64 t, .int .i64 s, .int .i64 v]] W fun e w' => e = .returned (.int .i64 150) ∧ Below W.heap.size W w') := fun W => by
    have := check_any ⟨k, a, b, r, y, t, s, v⟩ W hd
    rwa [HD.out] at this
  clear hT hc hd
  go_enter Tryd.func5, Tryd.ntmps5
  go_wp2_with fail
  refine (K1.out _).mono ?_
  rintro e w1 ⟨rfl, b1⟩
  have HI := hid ((in_new w ⟨k, a, b, r, g, t, s, v⟩ 24).below b1)
  have B1 := hid (q_trans (q_alloc (Below.refl _ _) _) b1)
  have hlt := HI.out.lt
  obtain ⟨c0, c1, c2, c3, c4, c5, c6, c7⟩ := HI.out
  dsimp only at c0 c1 c2 c3 c4 c5 c6 c7
  clear b1
  go_wp2_with (go_at_call 13; refine (num_any _ _).mono ?_; rintro e w' ⟨rfl, hw⟩; rw [hw]; clear hw w')
  refine (K2.out _).mono ?_
  rintro e w2 ⟨rfl, b2⟩
  have B2 := hid (q_trans (q_alloc B1.out _) b2)
  have HT2 := hid (HT.out.below B2.out)
  clear b2 c0 c1 c2 c3 c4 c5 c6 c7 HI B1
  go_wp2_with (first | (go_at_call 13; refine (num_any _ _).mono ?_; rintro e w' ⟨rfl, hw⟩; rw [hw]; clear hw w') | (go_at_call 8; refine (live_any _ HT2.out).mono ?_; rintro e w6 ⟨rfl, b6⟩))
  all_goals go_ret
  all_goals exact ⟨rfl, q_trans B2.out b6⟩
set_option maxRecDepth 100000 in
set_option maxHeartbeats 1000000 in
theorem on_1_1 (a b r g t s v y x : Int) (w : World) (hT : Tabs w) (hy : (y == 0) = false)  (hc : Wf ⟨1, a, b, r, g, t, s, v⟩) (hd : Wf ⟨1, a, b, r, y, t, s, v⟩) (HC : Hid (chE ⟨1, a, b, r, g, t, s, v⟩ = 0)) (HD : Hid (chE ⟨1, a, b, r, y, t, s, v⟩ = x)) :
    Calls Tryd.prog 5 #[.agg #[.int .i64 1, .int .u64 a, .int .u64 b, .int .i64 r, .int .i64 g, .int .i64 t, .int .i64 s, .int .i64 v], .int .i64 1, .int .i64 y] w fun e w' => e = .returned (.bool true) ∧ Below w.heap.size w w' := by
  have HT : Hid (Tabs w) := hT
  have K1 : Hid (∀ W : World, Calls Tryd.prog 14 #[.agg #[.int .i64 1, .int .u64 a, .int .u64 b, .int .i64 r, .int .i64 g, .int .i64 t, .int .i64 s, .int .i64 v]] W fun e w' => e = .returned (.int .i64 0) ∧ Below W.heap.size W w') := fun W => by
    have := check_any ⟨1, a, b, r, g, t, s, v⟩ W hc
    rwa [HC.out] at this
  have K2 : Hid (∀ W : World, Calls Tryd.prog 14 #[.agg #[.int .i64 1, .int .u64 a, .int .u64 b, .int .i64 r, .int .i64 y, .int .i64 t, .int .i64 s, .int .i64 v]] W fun e w' => e = .returned (.int .i64 x) ∧ Below W.heap.size W w') := fun W => by
    have := check_any ⟨1, a, b, r, y, t, s, v⟩ W hd
    rwa [HD.out] at this
  clear hT hc hd
  go_enter Tryd.func5, Tryd.ntmps5
  go_wp2_with fail
  refine (K1.out _).mono ?_
  rintro e w1 ⟨rfl, b1⟩
  have HI := hid ((in_new w ⟨1, a, b, r, g, t, s, v⟩ 24).below b1)
  have B1 := hid (q_trans (q_alloc (Below.refl _ _) _) b1)
  have hlt := HI.out.lt
  obtain ⟨c0, c1, c2, c3, c4, c5, c6, c7⟩ := HI.out
  dsimp only at c0 c1 c2 c3 c4 c5 c6 c7
  clear b1
  go_wp2_with (go_at_call 13; refine (num_any _ _).mono ?_; rintro e w' ⟨rfl, hw⟩; rw [hw]; clear hw w')
  refine (K2.out _).mono ?_
  rintro e w2 ⟨rfl, b2⟩
  have B2 := hid (q_trans (q_alloc B1.out _) b2)
  have HT2 := hid (HT.out.below B2.out)
  clear b2 c0 c1 c2 c3 c4 c5 c6 c7 HI B1
  go_wp2_with (first | (go_at_call 13; refine (num_any _ _).mono ?_; rintro e w' ⟨rfl, hw⟩; rw [hw]; clear hw w') | (go_at_call 8; refine (live_any _ HT2.out).mono ?_; rintro e w6 ⟨rfl, b6⟩))
  all_goals go_ret
  all_goals exact ⟨rfl, q_trans B2.out b6⟩
set_option maxRecDepth 100000 in
set_option maxHeartbeats 1000000 in
theorem on_2_k (k a b r g t s v y : Int) (w : World) (hT : Tabs w) (hy : (y == 0) = false) (m5 : (k != 5) = true) (hc : Wf ⟨k, a, b, r, g, t, s, v⟩) (hd : Wf ⟨k, a, b, r, g, y, s, v⟩) (HC : Hid (chE ⟨k, a, b, r, g, t, s, v⟩ = 0)) (HD : Hid (chE ⟨k, a, b, r, g, y, s, v⟩ = 150)) :
    Calls Tryd.prog 5 #[.agg #[.int .i64 k, .int .u64 a, .int .u64 b, .int .i64 r, .int .i64 g, .int .i64 t, .int .i64 s, .int .i64 v], .int .i64 2, .int .i64 y] w fun e w' => e = .returned (.bool true) ∧ Below w.heap.size w w' := by
  have HT : Hid (Tabs w) := hT
  have K1 : Hid (∀ W : World, Calls Tryd.prog 14 #[.agg #[.int .i64 k, .int .u64 a, .int .u64 b, .int .i64 r, .int .i64 g, .int .i64 t, .int .i64 s, .int .i64 v]] W fun e w' => e = .returned (.int .i64 0) ∧ Below W.heap.size W w') := fun W => by
    have := check_any ⟨k, a, b, r, g, t, s, v⟩ W hc
    rwa [HC.out] at this
  have K2 : Hid (∀ W : World, Calls Tryd.prog 14 #[.agg #[.int .i64 k, .int .u64 a, .int .u64 b, .int .i64 r, .int .i64 g, .int .i64 y, .int .i64 s, .int .i64 v]] W fun e w' => e = .returned (.int .i64 150) ∧ Below W.heap.size W w') := fun W => by
    have := check_any ⟨k, a, b, r, g, y, s, v⟩ W hd
    rwa [HD.out] at this
  clear hT hc hd
  go_enter Tryd.func5, Tryd.ntmps5
  go_wp2_with fail
  refine (K1.out _).mono ?_
  rintro e w1 ⟨rfl, b1⟩
  have HI := hid ((in_new w ⟨k, a, b, r, g, t, s, v⟩ 24).below b1)
  have B1 := hid (q_trans (q_alloc (Below.refl _ _) _) b1)
  have hlt := HI.out.lt
  obtain ⟨c0, c1, c2, c3, c4, c5, c6, c7⟩ := HI.out
  dsimp only at c0 c1 c2 c3 c4 c5 c6 c7
  clear b1
  go_wp2_with (go_at_call 13; refine (num_any _ _).mono ?_; rintro e w' ⟨rfl, hw⟩; rw [hw]; clear hw w')
  refine (K2.out _).mono ?_
  rintro e w2 ⟨rfl, b2⟩
  have B2 := hid (q_trans (q_alloc B1.out _) b2)
  have HT2 := hid (HT.out.below B2.out)
  clear b2 c0 c1 c2 c3 c4 c5 c6 c7 HI B1
  go_wp2_with (first | (go_at_call 13; refine (num_any _ _).mono ?_; rintro e w' ⟨rfl, hw⟩; rw [hw]; clear hw w') | (go_at_call 8; refine (live_any _ HT2.out).mono ?_; rintro e w6 ⟨rfl, b6⟩))
  all_goals go_ret
  all_goals exact ⟨rfl, q_trans B2.out b6⟩
set_option maxRecDepth 100000 in
set_option maxHeartbeats 1000000 in
theorem on_2_5 (a b r g t s v y x : Int) (w : World) (hT : Tabs w) (hy : (y == 0) = false)  (hc : Wf ⟨5, a, b, r, g, t, s, v⟩) (hd : Wf ⟨5, a, b, r, g, y, s, v⟩) (HC : Hid (chE ⟨5, a, b, r, g, t, s, v⟩ = 0)) (HD : Hid (chE ⟨5, a, b, r, g, y, s, v⟩ = x)) :
    Calls Tryd.prog 5 #[.agg #[.int .i64 5, .int .u64 a, .int .u64 b, .int .i64 r, .int .i64 g, .int .i64 t, .int .i64 s, .int .i64 v], .int .i64 2, .int .i64 y] w fun e w' => e = .returned (.bool true) ∧ Below w.heap.size w w' := by
  have HT : Hid (Tabs w) := hT
  have K1 : Hid (∀ W : World, Calls Tryd.prog 14 #[.agg #[.int .i64 5, .int .u64 a, .int .u64 b, .int .i64 r, .int .i64 g, .int .i64 t, .int .i64 s, .int .i64 v]] W fun e w' => e = .returned (.int .i64 0) ∧ Below W.heap.size W w') := fun W => by
    have := check_any ⟨5, a, b, r, g, t, s, v⟩ W hc
    rwa [HC.out] at this
  have K2 : Hid (∀ W : World, Calls Tryd.prog 14 #[.agg #[.int .i64 5, .int .u64 a, .int .u64 b, .int .i64 r, .int .i64 g, .int .i64 y, .int .i64 s, .int .i64 v]] W fun e w' => e = .returned (.int .i64 x) ∧ Below W.heap.size W w') := fun W => by
    have := check_any ⟨5, a, b, r, g, y, s, v⟩ W hd
    rwa [HD.out] at this
  clear hT hc hd
  go_enter Tryd.func5, Tryd.ntmps5
  go_wp2_with fail
  refine (K1.out _).mono ?_
  rintro e w1 ⟨rfl, b1⟩
  have HI := hid ((in_new w ⟨5, a, b, r, g, t, s, v⟩ 24).below b1)
  have B1 := hid (q_trans (q_alloc (Below.refl _ _) _) b1)
  have hlt := HI.out.lt
  obtain ⟨c0, c1, c2, c3, c4, c5, c6, c7⟩ := HI.out
  dsimp only at c0 c1 c2 c3 c4 c5 c6 c7
  clear b1
  go_wp2_with (go_at_call 13; refine (num_any _ _).mono ?_; rintro e w' ⟨rfl, hw⟩; rw [hw]; clear hw w')
  refine (K2.out _).mono ?_
  rintro e w2 ⟨rfl, b2⟩
  have B2 := hid (q_trans (q_alloc B1.out _) b2)
  have HT2 := hid (HT.out.below B2.out)
  clear b2 c0 c1 c2 c3 c4 c5 c6 c7 HI B1
  go_wp2_with (first | (go_at_call 13; refine (num_any _ _).mono ?_; rintro e w' ⟨rfl, hw⟩; rw [hw]; clear hw w') | (go_at_call 8; refine (live_any _ HT2.out).mono ?_; rintro e w6 ⟨rfl, b6⟩))
  all_goals go_ret
  all_goals exact ⟨rfl, q_trans B2.out b6⟩
end Go.Proofs.YtilannincbcgkaaDoor.Kl
