/- The walks of RightsOrder and RightsLess: they answer true. -/
import Derived.Test.YtepadldbhjbjaaaDoorRtW5
import Derived.Test.YtepadldbhjbjaaaDoorRtFacts
namespace Go.Proofs.YtepadldbhjbjaaaDoor.Rt
open Go.RowKit

set_option maxRecDepth 100000 in
set_option maxHeartbeats 2000000 in
theorem order_no (a b c : Int) (w : World) (hT : Tab w) (h : (isR a && isR b) = false) :
    Calls Tryd.prog 5 #[.int .i64 a, .int .i64 b, .int .i64 c] w fun e w' => e = .returned (.bool true) ∧ Below w.heap.size w w' := by
  have HT : Hid (Tab w) := hT
  clear hT
  have HM : Hid (∀ W : World, Calls Tryd.prog 19 #[.slice (some ⟨W.heap.size, 0, none⟩) 2 2] (W.alloc (.cells #[.int .i64 a, .int .i64 b] 3)) fun e w' => e = .returned (.tuple #[.int .i64 0, .int .i64 20]) ∧ Below W.heap.size W w') := fun W => by
    have := meet_two a b W
    rw [two_meet, two_E, h] at this
    exact this
  have HJ : Hid (∀ W : World, Calls Tryd.prog 21 #[.slice (some ⟨W.heap.size, 0, none⟩) 2 2] (W.alloc (.cells #[.int .i64 a, .int .i64 b] 3)) fun e w' => e = .returned (.tuple #[.int .i64 0, .int .i64 20]) ∧ Below W.heap.size W w') := fun W => by
    have := join_two a b W
    rw [two_join, two_E, h] at this
    exact this
  cases ha : isR a with
  | false =>
    clear h
    go_enter Tryd.func5, Tryd.ntmps5
    go_wp2_with fail
    refine (HM.out _).mono ?_
    rintro e w1 ⟨rfl, b1⟩
    go_wp2_with fail
    refine (HJ.out _).mono ?_
    rintro e w2 ⟨rfl, b2⟩
    replace b2 := q_trans b1 b2
    clear b1
    go_wp2_with (first | (go_at_call 18; refine (num_any _ _).mono ?_; rintro e w5 ⟨rfl, rfl⟩) | (go_at_call 12; refine (is_any _ _).mono ?_; rintro e w5 ⟨rfl, rfl⟩) | (go_at_call 9; refine (live_any _ (HT.out.below b2)).mono ?_; rintro e w6 ⟨rfl, b6⟩; replace b6 := q_trans b2 b6))
    go_ret
    exact ⟨rfl, b6⟩
  | true =>
    have hb : isR b = false := by simpa [ha] using h
    clear h
    go_enter Tryd.func5, Tryd.ntmps5
    go_wp2_with fail
    refine (HM.out _).mono ?_
    rintro e w1 ⟨rfl, b1⟩
    go_wp2_with fail
    refine (HJ.out _).mono ?_
    rintro e w2 ⟨rfl, b2⟩
    replace b2 := q_trans b1 b2
    clear b1
    go_wp2_with (first | (go_at_call 18; refine (num_any _ _).mono ?_; rintro e w5 ⟨rfl, rfl⟩) | (go_at_call 12; refine (is_any _ _).mono ?_; rintro e w5 ⟨rfl, rfl⟩) | (go_at_call 9; refine (live_any _ (HT.out.below b2)).mono ?_; rintro e w6 ⟨rfl, b6⟩; replace b6 := q_trans b2 b6))
    go_ret
    exact ⟨rfl, b6⟩

set_option maxRecDepth 100000 in
set_option maxHeartbeats 4000000 in
theorem order_core (a b c m j : Int) (w : World) (HT : Hid (Tab w))
    (HM : Hid (∀ W : World, Calls Tryd.prog 19 #[.slice (some ⟨W.heap.size, 0, none⟩) 2 2] (W.alloc (.cells #[.int .i64 a, .int .i64 b] 3)) fun e w' => e = .returned (.tuple #[.int .i64 m, .int .i64 0]) ∧ Below W.heap.size W w'))
    (HJ : Hid (∀ W : World, Calls Tryd.prog 21 #[.slice (some ⟨W.heap.size, 0, none⟩) 2 2] (W.alloc (.cells #[.int .i64 a, .int .i64 b] 3)) fun e w' => e = .returned (.tuple #[.int .i64 j, .int .i64 0]) ∧ Below W.heap.size W w'))
    (h1 : wiB m a = true) (h2 : wiB m b = true) (h3 : wiB a j = true) (h4 : wiB b j = true)
    (h5 : Hid ((wiB c a && wiB c b) = wiB c m)) (h6 : Hid (wiB a c = true → wiB b c = true → wiB j c = true)) :
    Calls Tryd.prog 5 #[.int .i64 a, .int .i64 b, .int .i64 c] w fun e w' => e = .returned (.bool true) ∧ Below w.heap.size w w' := by
  obtain ⟨x, hx⟩ : ∃ x, wiB c a = x := ⟨_, rfl⟩
  obtain ⟨y, hy⟩ : ∃ y, wiB c b = y := ⟨_, rfl⟩
  obtain ⟨p, hp⟩ : ∃ p, wiB a c = p := ⟨_, rfl⟩
  obtain ⟨q, hq⟩ : ∃ q, wiB b c = q := ⟨_, rfl⟩
  have hz : wiB c m = (x && y) := by rw [← h5.out, hx, hy]
  have H6 := h6.out
  rw [hp, hq] at H6
  clear h5 h6
  cases x <;> cases y <;> cases p <;> cases q
  all_goals
    simp only [forall_const, Bool.false_eq_true, false_implies, Bool.and_true, Bool.and_false] at H6 hz
    go_enter Tryd.func5, Tryd.ntmps5
    go_wp2_with fail
    refine (HM.out _).mono ?_
    rintro e w1 ⟨rfl, b1⟩
    go_wp2_with fail
    refine (HJ.out _).mono ?_
    rintro e w2 ⟨rfl, b2⟩
    replace b2 := q_trans b1 b2
    clear b1
    go_wp2_with (first | (go_at_call 18; refine (num_any _ _).mono ?_; rintro e w5 ⟨rfl, rfl⟩) | (go_at_call 14; refine (within_any _ _ _).mono ?_; rintro e w5 ⟨rfl, rfl⟩) | (go_at_call 9; refine (live_any _ (HT.out.below b2)).mono ?_; rintro e w6 ⟨rfl, b6⟩; replace b6 := q_trans b2 b6))
    go_ret
    exact ⟨rfl, b6⟩

theorem order_any (a b c : Int) (w : World) (hT : Tab w) :
    Calls Tryd.prog 5 #[.int .i64 a, .int .i64 b, .int .i64 c] w fun e w' => e = .returned (.bool true) ∧ Below w.heap.size w w' := by
  cases h : (isR a && isR b) with
  | false => exact order_no a b c w hT h
  | true =>
    have ha : isR a = true := by simpa using (Bool.and_eq_true_iff.1 h).1
    have hb : isR b = true := by simpa using (Bool.and_eq_true_iff.1 h).2
    obtain ⟨m, hm, rfl⟩ := isR_nat ha
    obtain ⟨n, hn, rfl⟩ := isR_nat hb
    obtain ⟨r1, r2, o1, o2, o3, o4⟩ := order_fin ⟨m, hm⟩ ⟨n, hn⟩
    have eM := two_meet m n
    have eJ := two_join m n
    have eE := two_E m n
    rw [h, if_pos rfl] at eM eJ eE
    refine order_core m n c _ _ w hT (fun W => ?_) (fun W => ?_) o1 o2 o3 o4 ?_ ?_
    · have := meet_two m n W
      rw [eM, eE] at this
      exact this
    · have := join_two m n W
      rw [eJ, eE] at this
      exact this
    · show _ = _
      cases hc : isR c with
      | false => simp [wiB, hc]
      | true =>
        obtain ⟨k, hk, rfl⟩ := isR_nat hc
        exact both_fin ⟨m, hm⟩ ⟨n, hn⟩ ⟨k, hk⟩
    · intro g1 g2
      obtain ⟨_, k, _, hk, _, rfl⟩ := wiB_nat g1
      exact join_fin ⟨m, hm⟩ ⟨n, hn⟩ ⟨k, hk⟩ g1 g2

set_option maxRecDepth 100000 in
set_option maxHeartbeats 2000000 in
theorem rless_no (a b : Int) (w : World) (HT : Hid (Tab w)) (hl : Hid (∀ W : World, Calls Tryd.prog 23 #[.int .i64 a, .int .i64 b] W fun e w' => e = .returned (.tuple #[.int .i64 0, .int .i64 20]) ∧ w' = W)) :
    Calls Tryd.prog 6 #[.int .i64 a, .int .i64 b] w fun e w' => e = .returned (.bool true) ∧ Below w.heap.size w w' := by
  go_enter Tryd.func6, Tryd.ntmps6
  go_wp2_with (first | (go_at_call 23; refine (hl.out _).mono ?_; rintro e w5 ⟨rfl, rfl⟩) | (go_at_call 18; refine (num_any _ _).mono ?_; rintro e w5 ⟨rfl, rfl⟩) | (go_at_call 9; refine (live_any _ HT.out).mono ?_; rintro e w6 ⟨rfl, b6⟩))
  go_ret
  exact ⟨rfl, b6⟩
set_option maxRecDepth 100000 in
set_option maxHeartbeats 2000000 in
theorem rless_core (a b l m : Int) (w : World) (HT : Hid (Tab w)) (hl : Hid (∀ W : World, Calls Tryd.prog 23 #[.int .i64 a, .int .i64 b] W fun e w' => e = .returned (.tuple #[.int .i64 l, .int .i64 0]) ∧ w' = W))
    (HM : Hid (∀ W : World, Calls Tryd.prog 19 #[.slice (some ⟨W.heap.size, 0, none⟩) 2 2] (W.alloc (.cells #[.int .i64 a, .int .i64 b] 3)) fun e w' => e = .returned (.tuple #[.int .i64 m, .int .i64 0]) ∧ Below W.heap.size W w'))
    (HN : Hid (∀ W : World, Calls Tryd.prog 19 #[.slice (some ⟨W.heap.size, 0, none⟩) 2 2] (W.alloc (.cells #[.int .i64 l, .int .i64 b] 3)) fun e w' => e = .returned (.tuple #[.int .i64 0, .int .i64 0]) ∧ Below W.heap.size W w'))
    (HJ : Hid (∀ W : World, Calls Tryd.prog 21 #[.slice (some ⟨W.heap.size, 0, none⟩) 2 2] (W.alloc (.cells #[.int .i64 l, .int .i64 m] 3)) fun e w' => e = .returned (.tuple #[.int .i64 a, .int .i64 0]) ∧ Below W.heap.size W w'))
    (hw : wiB l a = true) :
    Calls Tryd.prog 6 #[.int .i64 a, .int .i64 b] w fun e w' => e = .returned (.bool true) ∧ Below w.heap.size w w' := by
  go_enter Tryd.func6, Tryd.ntmps6
  go_wp2_with (first | (go_at_call 23; refine (hl.out _).mono ?_; rintro e w5 ⟨rfl, rfl⟩) | (go_at_call 18; refine (num_any _ _).mono ?_; rintro e w5 ⟨rfl, rfl⟩) | fail)
  refine (HM.out _).mono ?_
  rintro e w1 ⟨rfl, b1⟩
  go_wp2_with fail
  refine (HN.out _).mono ?_
  rintro e w2 ⟨rfl, b2⟩
  replace b2 := q_trans b1 b2
  clear b1
  go_wp2_with fail
  refine (HJ.out _).mono ?_
  rintro e w3 ⟨rfl, b3⟩
  replace b3 := q_trans b2 b3
  clear b2
  go_wp2_with (first | (go_at_call 18; refine (num_any _ _).mono ?_; rintro e w5 ⟨rfl, rfl⟩) | (go_at_call 14; refine (within_any _ _ _).mono ?_; rintro e w5 ⟨rfl, rfl⟩) | (go_at_call 9; refine (live_any _ (HT.out.below b3)).mono ?_; rintro e w6 ⟨rfl, b6⟩; replace b6 := q_trans b3 b6))
  go_ret
  exact ⟨rfl, b6⟩

theorem rless_any (a b : Int) (w : World) (hT : Tab w) :
    Calls Tryd.prog 6 #[.int .i64 a, .int .i64 b] w fun e w' => e = .returned (.bool true) ∧ Below w.heap.size w w' := by
  cases h : (isR a && isR b) with
  | false =>
    refine rless_no a b w hT (fun W => ?_)
    have := less_any a b W
    rw [show lessT a b = 0 by simp only [lessT, h]; rfl, show lessE a b = 20 by simp only [lessE, h]; rfl] at this
    exact this
  | true =>
    have ha : isR a = true := by simpa using (Bool.and_eq_true_iff.1 h).1
    have hb : isR b = true := by simpa using (Bool.and_eq_true_iff.1 h).2
    obtain ⟨m, hm, rfl⟩ := isR_nat ha
    obtain ⟨n, hn, rfl⟩ := isR_nat hb
    obtain ⟨f1, f2, f3, f4, f5, f6, f7⟩ := less_fin ⟨m, hm⟩ ⟨n, hn⟩
    simp only at f1 f2 f3 f4 f5 f6 f7
    refine rless_core m n (lessT m n) (meetT [(m : Int), (n : Int)]) w hT (fun W => ?_) (fun W => ?_) (fun W => ?_) (fun W => ?_) f3
    · have := less_any m n W
      rw [f7] at this
      exact this
    · have := meet_two m n W
      rw [f6] at this
      exact this
    · have := meet_two (lessT m n) n W
      rw [f1, f4] at this
      exact this
    · have := join_two (lessT m n) (meetT [(m : Int), (n : Int)]) W
      rw [f2, f5] at this
      exact this
end Go.Proofs.YtepadldbhjbjaaaDoor.Rt
