/- The walk of BitsBack: it answers true. -/
import Derived.Test.YtdngpjgpomjncaaDoorBackM
namespace Go.Proofs.YtdngpjgpomjncaaDoor
open Go.RowKit

set_option maxRecDepth 100000 in
set_option maxHeartbeats 2000000 in
theorem back_no (x a n v e1 : Int) (w : World) (HD : Hid (Dig w))
    (H1 : Hid (∀ W : World, Calls Tryd.prog 9 #[.int .u64 x, .int .i64 a, .int .i64 n, .int .u64 v] W fun e w' => e = .returned (.tuple #[.int .u64 0, .int .i64 e1]) ∧ Below W.heap.size W w'))
    (he : (e1 != 0) = true) :
    Calls Tryd.prog 6 #[.int .u64 x, .int .i64 a, .int .i64 n, .int .u64 v] w fun e w' => e = .returned (.bool true) ∧ Below w.heap.size w w' := by
  go_enter Tryd.func6, Tryd.ntmps6
  go_wp2_with (first | (go_at_call 9; refine (H1.out _).mono ?_; rintro e w1 ⟨rfl, b1⟩) | (go_at_call 15; refine (num_any _ _).mono ?_; rintro e w5 ⟨rfl, rfl⟩) | (go_at_call 16; refine (live_any _ (HD.out.below b1)).mono ?_; rintro e w6 ⟨rfl, b6⟩; replace b6 := q_trans b1 b6))
  go_ret
  exact ⟨rfl, b6⟩

set_option maxRecDepth 100000 in
set_option maxHeartbeats 2000000 in
theorem back_yes (x a n v p m g : Int) (w : World) (HD : Hid (Dig w))
    (H1 : Hid (∀ W : World, Calls Tryd.prog 9 #[.int .u64 x, .int .i64 a, .int .i64 n, .int .u64 v] W fun e w' => e = .returned (.tuple #[.int .u64 p, .int .i64 0]) ∧ Below W.heap.size W w'))
    (H2 : Hid (∀ W : World, Calls Tryd.prog 13 #[.int .i64 a, .int .i64 n] W fun e w' => e = .returned (.int .u64 m) ∧ w' = W))
    (H3 : Hid (∀ W : World, Calls Tryd.prog 11 #[.int .u64 x, .int .i64 a, .int .i64 n] W fun e w' => e = .returned (.int .u64 g) ∧ w' = W))
    (H4 : Hid (∀ W : World, Calls Tryd.prog 9 #[.int .u64 p, .int .i64 a, .int .i64 n, .int .u64 g] W fun e w' => e = .returned (.tuple #[.int .u64 x, .int .i64 0]) ∧ Below W.heap.size W w'))
    (H5 : Hid (∀ W : World, Calls Tryd.prog 11 #[.int .u64 p, .int .i64 a, .int .i64 n] W fun e w' => e = .returned (.int .u64 v) ∧ w' = W))
    (H6 : Hid (∀ W : World, Calls Tryd.prog 22 #[.int .u64 m] W fun e w' => e = .returned (.int .i64 n) ∧ Below W.heap.size W w'))
    (hr : (bits .andNot .u64 p m == bits .andNot .u64 x m) = true) :
    Calls Tryd.prog 6 #[.int .u64 x, .int .i64 a, .int .i64 n, .int .u64 v] w fun e w' => e = .returned (.bool true) ∧ Below w.heap.size w w' := by
  go_enter Tryd.func6, Tryd.ntmps6
  go_wp2_with fail
  refine (H1.out _).mono ?_
  rintro e w1 ⟨rfl, b1⟩
  go_wp2_with (first | (go_at_call 15; refine (num_any _ _).mono ?_; rintro e w5 ⟨rfl, rfl⟩) | (go_at_call 13; refine (H2.out _).mono ?_; rintro e w5 ⟨rfl, rfl⟩))
  refine (H3.out _).mono ?_
  rintro e w2 ⟨rfl, rfl⟩
  go_wp2_with fail
  refine (H4.out _).mono ?_
  rintro e w3 ⟨rfl, b3⟩
  replace b3 := q_trans b1 b3
  clear b1
  go_wp2_with (first | (go_at_call 15; refine (num_any _ _).mono ?_; rintro e w5 ⟨rfl, rfl⟩) | (go_at_call 11; refine (H5.out _).mono ?_; rintro e w5 ⟨rfl, rfl⟩) | (go_at_call 22; refine (H6.out _).mono ?_; rintro e w4 ⟨rfl, b4⟩; replace b4 := q_trans b3 b4) | (go_at_call 16; refine (live_any _ (HD.out.below b4)).mono ?_; rintro e w6 ⟨rfl, b6⟩; replace b6 := q_trans b4 b6))
  go_ret
  exact ⟨rfl, b6⟩

theorem count_int (m : Int) (hm : U64 m) (w : World) :
    Calls Tryd.prog 22 #[.int .u64 m] w fun e W' => e = .returned (.int .i64 (cnt m.toNat 64 : Nat)) ∧ Below w.heap.size w W' := by
  have h := count_any m.toNat (u64_nat hm) w
  rw [u64_cast hm] at h
  exact h

theorem back_any (x a n v : Int) (w : World) (hx : U64 x) (hv : U64 v) (hD : Dig w) :
    Calls Tryd.prog 6 #[.int .u64 x, .int .i64 a, .int .i64 n, .int .u64 v] w fun e w' => e = .returned (.bool true) ∧ Below w.heap.size w w' := by
  by_cases he : putE a n v = 0
  · have hp := putT_back hx hv he
    refine back_yes x a n v (putT x a n v) (maskT a n) (getT x a n) w hD (fun W => ?_) (fun W => mask_any a n W) (fun W => get_any x a n W hx) (fun W => ?_) (fun W => ?_) (fun W => ?_) ?_
    · have h := put_any x a n v W hx hv
      rw [he] at h
      exact h
    · have h := put_any (putT x a n v) a n (getT x a n) W (putT_u64 hx hv) (getT_u64 hx)
      rw [hp.1, hp.2] at h
      exact h
    · have h := get_any (putT x a n v) a n W (putT_u64 hx hv)
      rw [getT_put hx hv he] at h
      exact h
    · have h := count_int (maskT a n) (maskT_u64 a n) W
      rw [count_mask (putE_zero he).1] at h
      exact h
    · rw [beq_iff_eq]; exact putT_rest hx hv he
  · refine back_no x a n v (putE a n v) w hD (fun W => ?_) (by rw [bne_iff_ne]; exact he)
    have h := put_any x a n v W hx hv
    rw [putT_no he] at h
    exact h
end Go.Proofs.YtdngpjgpomjncaaDoor
