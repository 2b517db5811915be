/- CallOnly answers true. -/
import Derived.Test.YtilannincbcgkaaDoorKlOn0
namespace Go.Proofs.YtilannincbcgkaaDoor.Kl
open Go.RowKit
open Ad (q_trans q_alloc q_set ret_int ret_bool hid)

set_option maxRecDepth 100000 in
set_option maxHeartbeats 1000000 in
theorem on_3_k (k a b r g t s v y : Int) (w : World) (hT : Tabs w) (hy : (y == 0) = false) (m5 : (k != 5) = true) (hc : Wf ⟨k, a, b, r, g, t, s, v⟩) (hd : Wf ⟨k, a, b, r, g, t, y, v⟩) (HC : Hid (chE ⟨k, a, b, r, g, t, s, v⟩ = 0)) (HD : Hid (chE ⟨k, a, b, r, g, t, y, v⟩ = 150)) :
    Calls Tryd.prog 5 #[.agg #[.int .i64 k, .int .u64 a, .int .u64 b, .int .i64 r, .int .i64 g, .int .i64 t, .int .i64 s, .int .i64 v], .int .i64 3, .int .i64 y] w fun e w' => e = .returned (.bool true) ∧ Below w.heap.size w w' := by
  have HT : Hid (Tabs w) := hT
  have K1 : Hid (∀ W : World, Calls Tryd.prog 14 #[.agg #[.int .i64 k, .int .u64 a, .int .u64 b, .int .i64 r, .int .i64 g, .int .i64 t, .int .i64 s, .int .i64 v]] W fun e w' => e = .returned (.int .i64 0) ∧ Below W.heap.size W w') := fun W => by
    have := check_any ⟨k, a, b, r, g, t, s, v⟩ W hc
    rwa [HC.out] at this
  have K2 : Hid (∀ W : World, Calls Tryd.prog 14 #[.agg #[.int .i64 k, .int .u64 a, .int .u64 b, .int .i64 r, .int .i64 g, .int .i64 t, .int .i64 y, .int .i64 v]] W fun e w' => e = .returned (.int .i64 150) ∧ Below W.heap.size W w') := fun W => by
    have := check_any ⟨k, a, b, r, g, t, y, v⟩ W hd
    rwa [HD.out] at this
  clear hT hc hd
  go_enter Tryd.func5, Tryd.ntmps5
  go_wp2_with fail
  refine (K1.out _).mono ?_
  rintro e w1 ⟨rfl, b1⟩
  have HI := hid ((in_new w ⟨k, a, b, r, g, t, s, v⟩ 24).below b1)
  have B1 := hid (q_trans (q_alloc (Below.refl _ _) _) b1)
  have hlt := HI.out.lt
  obtain ⟨c0, c1, c2, c3, c4, c5, c6, c7⟩ := HI.out
  dsimp only at c0 c1 c2 c3 c4 c5 c6 c7
  clear b1
  go_wp2_with (go_at_call 13; refine (num_any _ _).mono ?_; rintro e w' ⟨rfl, hw⟩; rw [hw]; clear hw w')
  refine (K2.out _).mono ?_
  rintro e w2 ⟨rfl, b2⟩
  have B2 := hid (q_trans (q_alloc B1.out _) b2)
  have HT2 := hid (HT.out.below B2.out)
  clear b2 c0 c1 c2 c3 c4 c5 c6 c7 HI B1
  go_wp2_with (first | (go_at_call 13; refine (num_any _ _).mono ?_; rintro e w' ⟨rfl, hw⟩; rw [hw]; clear hw w') | (go_at_call 8; refine (live_any _ HT2.out).mono ?_; rintro e w6 ⟨rfl, b6⟩))
  all_goals go_ret
  all_goals exact ⟨rfl, q_trans B2.out b6⟩
set_option maxRecDepth 100000 in
set_option maxHeartbeats 1000000 in
theorem on_3_5 (a b r g t s v y x : Int) (w : World) (hT : Tabs w) (hy : (y == 0) = false)  (hc : Wf ⟨5, a, b, r, g, t, s, v⟩) (hd : Wf ⟨5, a, b, r, g, t, y, v⟩) (HC : Hid (chE ⟨5, a, b, r, g, t, s, v⟩ = 0)) (HD : Hid (chE ⟨5, a, b, r, g, t, y, v⟩ = x)) :
    Calls Tryd.prog 5 #[.agg #[.int .i64 5, .int .u64 a, .int .u64 b, .int .i64 r, .int .i64 g, .int .i64 t, .int .i64 s, .int .i64 v], .int .i64 3, .int .i64 y] w fun e w' => e = .returned (.bool true) ∧ Below w.heap.size w w' := by
  have HT : Hid (Tabs w) := hT
  have K1 : Hid (∀ W : World, Calls Tryd.prog 14 #[.agg #[.int .i64 5, .int .u64 a, .int .u64 b, .int .i64 r, .int .i64 g, .int .i64 t, .int .i64 s, .int .i64 v]] W fun e w' => e = .returned (.int .i64 0) ∧ Below W.heap.size W w') := fun W => by
    have := check_any ⟨5, a, b, r, g, t, s, v⟩ W hc
    rwa [HC.out] at this
  have K2 : Hid (∀ W : World, Calls Tryd.prog 14 #[.agg #[.int .i64 5, .int .u64 a, .int .u64 b, .int .i64 r, .int .i64 g, .int .i64 t, .int .i64 y, .int .i64 v]] W fun e w' => e = .returned (.int .i64 x) ∧ Below W.heap.size W w') := fun W => by
    have := check_any ⟨5, a, b, r, g, t, y, v⟩ W hd
    rwa [HD.out] at this
  clear hT hc hd
  go_enter Tryd.func5, Tryd.ntmps5
  go_wp2_with fail
  refine (K1.out _).mono ?_
  rintro e w1 ⟨rfl, b1⟩
  have HI := hid ((in_new w ⟨5, a, b, r, g, t, s, v⟩ 24).below b1)
  have B1 := hid (q_trans (q_alloc (Below.refl _ _) _) b1)
  have hlt := HI.out.lt
  obtain ⟨c0, c1, c2, c3, c4, c5, c6, c7⟩ := HI.out
  dsimp only at c0 c1 c2 c3 c4 c5 c6 c7
  clear b1
  go_wp2_with (go_at_call 13; refine (num_any _ _).mono ?_; rintro e w' ⟨rfl, hw⟩; rw [hw]; clear hw w')
  refine (K2.out _).mono ?_
  rintro e w2 ⟨rfl, b2⟩
  have B2 := hid (q_trans (q_alloc B1.out _) b2)
  have HT2 := hid (HT.out.below B2.out)
  clear b2 c0 c1 c2 c3 c4 c5 c6 c7 HI B1
  go_wp2_with (first | (go_at_call 13; refine (num_any _ _).mono ?_; rintro e w' ⟨rfl, hw⟩; rw [hw]; clear hw w') | (go_at_call 8; refine (live_any _ HT2.out).mono ?_; rintro e w6 ⟨rfl, b6⟩))
  all_goals go_ret
  all_goals exact ⟨rfl, q_trans B2.out b6⟩
set_option maxRecDepth 100000 in
set_option maxHeartbeats 1000000 in
theorem on_4_k (k a b r g t s v y : Int) (w : World) (hT : Tabs w) (hy : (y == 0) = false) (m7 : (k != 7) = true) (m8 : (k != 8) = true) (hc : Wf ⟨k, a, b, r, g, t, s, v⟩) (hd : Wf ⟨k, a, b, r, g, t, s, y⟩) (HC : Hid (chE ⟨k, a, b, r, g, t, s, v⟩ = 0)) (HD : Hid (chE ⟨k, a, b, r, g, t, s, y⟩ = 150)) :
    Calls Tryd.prog 5 #[.agg #[.int .i64 k, .int .u64 a, .int .u64 b, .int .i64 r, .int .i64 g, .int .i64 t, .int .i64 s, .int .i64 v], .int .i64 4, .int .i64 y] w fun e w' => e = .returned (.bool true) ∧ Below w.heap.size w w' := by
  have HT : Hid (Tabs w) := hT
  have K1 : Hid (∀ W : World, Calls Tryd.prog 14 #[.agg #[.int .i64 k, .int .u64 a, .int .u64 b, .int .i64 r, .int .i64 g, .int .i64 t, .int .i64 s, .int .i64 v]] W fun e w' => e = .returned (.int .i64 0) ∧ Below W.heap.size W w') := fun W => by
    have := check_any ⟨k, a, b, r, g, t, s, v⟩ W hc
    rwa [HC.out] at this
  have K2 : Hid (∀ W : World, Calls Tryd.prog 14 #[.agg #[.int .i64 k, .int .u64 a, .int .u64 b, .int .i64 r, .int .i64 g, .int .i64 t, .int .i64 s, .int .i64 y]] W fun e w' => e = .returned (.int .i64 150) ∧ Below W.heap.size W w') := fun W => by
    have := check_any ⟨k, a, b, r, g, t, s, y⟩ W hd
    rwa [HD.out] at this
  clear hT hc hd
  go_enter Tryd.func5, Tryd.ntmps5
  go_wp2_with fail
  refine (K1.out _).mono ?_
  rintro e w1 ⟨rfl, b1⟩
  have HI := hid ((in_new w ⟨k, a, b, r, g, t, s, v⟩ 24).below b1)
  have B1 := hid (q_trans (q_alloc (Below.refl _ _) _) b1)
  have hlt := HI.out.lt
  obtain ⟨c0, c1, c2, c3, c4, c5, c6, c7⟩ := HI.out
  dsimp only at c0 c1 c2 c3 c4 c5 c6 c7
  clear b1
  go_wp2_with (go_at_call 13; refine (num_any _ _).mono ?_; rintro e w' ⟨rfl, hw⟩; rw [hw]; clear hw w')
  refine (K2.out _).mono ?_
  rintro e w2 ⟨rfl, b2⟩
  have B2 := hid (q_trans (q_alloc B1.out _) b2)
  have HT2 := hid (HT.out.below B2.out)
  clear b2 c0 c1 c2 c3 c4 c5 c6 c7 HI B1
  go_wp2_with (first | (go_at_call 13; refine (num_any _ _).mono ?_; rintro e w' ⟨rfl, hw⟩; rw [hw]; clear hw w') | (go_at_call 8; refine (live_any _ HT2.out).mono ?_; rintro e w6 ⟨rfl, b6⟩))
  all_goals go_ret
  all_goals exact ⟨rfl, q_trans B2.out b6⟩
set_option maxRecDepth 100000 in
set_option maxHeartbeats 1000000 in
theorem on_4_7 (a b r g t s v y : Int) (w : World) (hT : Tabs w) (hy : (y == 0) = false)  (hc : Wf ⟨7, a, b, r, g, t, s, v⟩) (hd : Wf ⟨7, a, b, r, g, t, s, y⟩) (HC : Hid (chE ⟨7, a, b, r, g, t, s, v⟩ = 0)) (HD : Hid (chE ⟨7, a, b, r, g, t, s, y⟩ = 0)) :
    Calls Tryd.prog 5 #[.agg #[.int .i64 7, .int .u64 a, .int .u64 b, .int .i64 r, .int .i64 g, .int .i64 t, .int .i64 s, .int .i64 v], .int .i64 4, .int .i64 y] w fun e w' => e = .returned (.bool true) ∧ Below w.heap.size w w' := by
  have HT : Hid (Tabs w) := hT
  have K1 : Hid (∀ W : World, Calls Tryd.prog 14 #[.agg #[.int .i64 7, .int .u64 a, .int .u64 b, .int .i64 r, .int .i64 g, .int .i64 t, .int .i64 s, .int .i64 v]] W fun e w' => e = .returned (.int .i64 0) ∧ Below W.heap.size W w') := fun W => by
    have := check_any ⟨7, a, b, r, g, t, s, v⟩ W hc
    rwa [HC.out] at this
  have K2 : Hid (∀ W : World, Calls Tryd.prog 14 #[.agg #[.int .i64 7, .int .u64 a, .int .u64 b, .int .i64 r, .int .i64 g, .int .i64 t, .int .i64 s, .int .i64 y]] W fun e w' => e = .returned (.int .i64 0) ∧ Below W.heap.size W w') := fun W => by
    have := check_any ⟨7, a, b, r, g, t, s, y⟩ W hd
    rwa [HD.out] at this
  clear hT hc hd
  go_enter Tryd.func5, Tryd.ntmps5
  go_wp2_with fail
  refine (K1.out _).mono ?_
  rintro e w1 ⟨rfl, b1⟩
  have HI := hid ((in_new w ⟨7, a, b, r, g, t, s, v⟩ 24).below b1)
  have B1 := hid (q_trans (q_alloc (Below.refl _ _) _) b1)
  have hlt := HI.out.lt
  obtain ⟨c0, c1, c2, c3, c4, c5, c6, c7⟩ := HI.out
  dsimp only at c0 c1 c2 c3 c4 c5 c6 c7
  clear b1
  go_wp2_with (go_at_call 13; refine (num_any _ _).mono ?_; rintro e w' ⟨rfl, hw⟩; rw [hw]; clear hw w')
  refine (K2.out _).mono ?_
  rintro e w2 ⟨rfl, b2⟩
  have B2 := hid (q_trans (q_alloc B1.out _) b2)
  have HT2 := hid (HT.out.below B2.out)
  clear b2 c0 c1 c2 c3 c4 c5 c6 c7 HI B1
  go_wp2_with (first | (go_at_call 13; refine (num_any _ _).mono ?_; rintro e w' ⟨rfl, hw⟩; rw [hw]; clear hw w') | (go_at_call 8; refine (live_any _ HT2.out).mono ?_; rintro e w6 ⟨rfl, b6⟩))
  all_goals go_ret
  all_goals exact ⟨rfl, q_trans B2.out b6⟩
set_option maxRecDepth 100000 in
set_option maxHeartbeats 1000000 in
theorem on_4_8 (a b r g t s v y : Int) (w : World) (hT : Tabs w) (hy : (y == 0) = false)  (hc : Wf ⟨8, a, b, r, g, t, s, v⟩) (hd : Wf ⟨8, a, b, r, g, t, s, y⟩) (HC : Hid (chE ⟨8, a, b, r, g, t, s, v⟩ = 0)) (HD : Hid (chE ⟨8, a, b, r, g, t, s, y⟩ = 0)) :
    Calls Tryd.prog 5 #[.agg #[.int .i64 8, .int .u64 a, .int .u64 b, .int .i64 r, .int .i64 g, .int .i64 t, .int .i64 s, .int .i64 v], .int .i64 4, .int .i64 y] w fun e w' => e = .returned (.bool true) ∧ Below w.heap.size w w' := by
  have HT : Hid (Tabs w) := hT
  have K1 : Hid (∀ W : World, Calls Tryd.prog 14 #[.agg #[.int .i64 8, .int .u64 a, .int .u64 b, .int .i64 r, .int .i64 g, .int .i64 t, .int .i64 s, .int .i64 v]] W fun e w' => e = .returned (.int .i64 0) ∧ Below W.heap.size W w') := fun W => by
    have := check_any ⟨8, a, b, r, g, t, s, v⟩ W hc
    rwa [HC.out] at this
  have K2 : Hid (∀ W : World, Calls Tryd.prog 14 #[.agg #[.int .i64 8, .int .u64 a, .int .u64 b, .int .i64 r, .int .i64 g, .int .i64 t, .int .i64 s, .int .i64 y]] W fun e w' => e = .returned (.int .i64 0) ∧ Below W.heap.size W w') := fun W => by
    have := check_any ⟨8, a, b, r, g, t, s, y⟩ W hd
    rwa [HD.out] at this
  clear hT hc hd
  go_enter Tryd.func5, Tryd.ntmps5
  go_wp2_with fail
  refine (K1.out _).mono ?_
  rintro e w1 ⟨rfl, b1⟩
  have HI := hid ((in_new w ⟨8, a, b, r, g, t, s, v⟩ 24).below b1)
  have B1 := hid (q_trans (q_alloc (Below.refl _ _) _) b1)
  have hlt := HI.out.lt
  obtain ⟨c0, c1, c2, c3, c4, c5, c6, c7⟩ := HI.out
  dsimp only at c0 c1 c2 c3 c4 c5 c6 c7
  clear b1
  go_wp2_with (go_at_call 13; refine (num_any _ _).mono ?_; rintro e w' ⟨rfl, hw⟩; rw [hw]; clear hw w')
  refine (K2.out _).mono ?_
  rintro e w2 ⟨rfl, b2⟩
  have B2 := hid (q_trans (q_alloc B1.out _) b2)
  have HT2 := hid (HT.out.below B2.out)
  clear b2 c0 c1 c2 c3 c4 c5 c6 c7 HI B1
  go_wp2_with (first | (go_at_call 13; refine (num_any _ _).mono ?_; rintro e w' ⟨rfl, hw⟩; rw [hw]; clear hw w') | (go_at_call 8; refine (live_any _ HT2.out).mono ?_; rintro e w6 ⟨rfl, b6⟩))
  all_goals go_ret
  all_goals exact ⟨rfl, q_trans B2.out b6⟩
set_option maxRecDepth 100000 in
set_option maxHeartbeats 1000000 in
theorem on_n_k (k a b r g t s v n y : Int) (w : World) (hT : Tabs w) (hy : (y == 0) = false) (m1 : (k != 1) = true) (m2 : (k != 2) = true) (m5 : (k != 5) = true) (m8 : (k != 8) = true) (m9 : (k != 9) = true) (e0 : (n == 0) = false) (e1 : (n == 1) = false) (e2 : (n == 2) = false) (e3 : (n == 3) = false) (e4 : (n == 4) = false) (hc : Wf ⟨k, a, b, r, g, t, s, v⟩) (hd : Wf ⟨k, a, a, r, g, t, s, v⟩) (HC : Hid (chE ⟨k, a, b, r, g, t, s, v⟩ = 0)) (HD : Hid (chE ⟨k, a, a, r, g, t, s, v⟩ = 150)) :
    Calls Tryd.prog 5 #[.agg #[.int .i64 k, .int .u64 a, .int .u64 b, .int .i64 r, .int .i64 g, .int .i64 t, .int .i64 s, .int .i64 v], .int .i64 n, .int .i64 y] w fun e w' => e = .returned (.bool true) ∧ Below w.heap.size w w' := by
  have HT : Hid (Tabs w) := hT
  have K1 : Hid (∀ W : World, Calls Tryd.prog 14 #[.agg #[.int .i64 k, .int .u64 a, .int .u64 b, .int .i64 r, .int .i64 g, .int .i64 t, .int .i64 s, .int .i64 v]] W fun e w' => e = .returned (.int .i64 0) ∧ Below W.heap.size W w') := fun W => by
    have := check_any ⟨k, a, b, r, g, t, s, v⟩ W hc
    rwa [HC.out] at this
  have K2 : Hid (∀ W : World, Calls Tryd.prog 14 #[.agg #[.int .i64 k, .int .u64 a, .int .u64 a, .int .i64 r, .int .i64 g, .int .i64 t, .int .i64 s, .int .i64 v]] W fun e w' => e = .returned (.int .i64 150) ∧ Below W.heap.size W w') := fun W => by
    have := check_any ⟨k, a, a, r, g, t, s, v⟩ W hd
    rwa [HD.out] at this
  clear hT hc hd
  go_enter Tryd.func5, Tryd.ntmps5
  go_wp2_with fail
  refine (K1.out _).mono ?_
  rintro e w1 ⟨rfl, b1⟩
  have HI := hid ((in_new w ⟨k, a, b, r, g, t, s, v⟩ 24).below b1)
  have B1 := hid (q_trans (q_alloc (Below.refl _ _) _) b1)
  have hlt := HI.out.lt
  obtain ⟨c0, c1, c2, c3, c4, c5, c6, c7⟩ := HI.out
  dsimp only at c0 c1 c2 c3 c4 c5 c6 c7
  clear b1
  go_wp2_with (go_at_call 13; refine (num_any _ _).mono ?_; rintro e w' ⟨rfl, hw⟩; rw [hw]; clear hw w')
  refine (K2.out _).mono ?_
  rintro e w2 ⟨rfl, b2⟩
  have B2 := hid (q_trans (q_alloc B1.out _) b2)
  have HT2 := hid (HT.out.below B2.out)
  clear b2 c0 c1 c2 c3 c4 c5 c6 c7 HI B1
  go_wp2_with (first | (go_at_call 13; refine (num_any _ _).mono ?_; rintro e w' ⟨rfl, hw⟩; rw [hw]; clear hw w') | (go_at_call 8; refine (live_any _ HT2.out).mono ?_; rintro e w6 ⟨rfl, b6⟩))
  all_goals go_ret
  all_goals exact ⟨rfl, q_trans B2.out b6⟩
end Go.Proofs.YtilannincbcgkaaDoor.Kl
