/- The walk of BitsTwice: it answers true. -/
import Derived.Test.YtdngpjgpomjncabDoorPutM
namespace Go.Proofs.YtdngpjgpomjncabDoor
open Go.RowKit

set_option maxRecDepth 100000 in
set_option maxHeartbeats 2000000 in
theorem twice_core (x a n v u p1 e1 p2 e2 p3 : Int) (w : World) (HD : Hid (Dig w))
    (H1 : Hid (∀ W : World, Calls Tryd.prog 10 #[.int .u64 x, .int .i64 a, .int .i64 n, .int .u64 v] W fun e w' => e = .returned (.tuple #[.int .u64 p1, .int .i64 e1]) ∧ Below W.heap.size W w'))
    (H2 : Hid (∀ W : World, Calls Tryd.prog 10 #[.int .u64 p1, .int .i64 a, .int .i64 n, .int .u64 u] W fun e w' => e = .returned (.tuple #[.int .u64 p2, .int .i64 e2]) ∧ Below W.heap.size W w'))
    (H3 : Hid (∀ W : World, Calls Tryd.prog 10 #[.int .u64 x, .int .i64 a, .int .i64 n, .int .u64 u] W fun e w' => e = .returned (.tuple #[.int .u64 p3, .int .i64 e2]) ∧ Below W.heap.size W w'))
    (H4 : Hid (∀ W : World, Calls Tryd.prog 10 #[.int .u64 x, .int .i64 0, .int .i64 64, .int .u64 v] W fun e w' => e = .returned (.tuple #[.int .u64 v, .int .i64 0]) ∧ Below W.heap.size W w'))
    (H5 : Hid (∀ W : World, Calls Tryd.prog 12 #[.int .u64 x, .int .i64 0, .int .i64 64] W fun e w' => e = .returned (.int .u64 x) ∧ w' = W))
    (hc : Hid ((e1 != 0) = true ∨ ((e1 != 0) = false ∧ (p2 == p3) = true))) :
    Calls Tryd.prog 5 #[.int .u64 x, .int .i64 a, .int .i64 n, .int .u64 v, .int .u64 u] w fun e w' => e = .returned (.bool true) ∧ Below w.heap.size w w' := by
  rcases hc.out with he | ⟨he, hp⟩
  all_goals
    clear hc
    go_enter Tryd.func5, Tryd.ntmps5
    go_wp2_with fail
    refine (H1.out _).mono ?_
    rintro e w1 ⟨rfl, b1⟩
    go_wp2_with fail
    refine (H2.out _).mono ?_
    rintro e w2 ⟨rfl, b2⟩
    replace b2 := q_trans b1 b2
    go_wp2_with fail
    refine (H3.out _).mono ?_
    rintro e w3 ⟨rfl, b3⟩
    replace b3 := q_trans b2 b3
    go_wp2_with fail
    refine (H4.out _).mono ?_
    rintro e w4 ⟨rfl, b4⟩
    replace b4 := q_trans b3 b4
    clear b1 b2 b3
    go_wp2_with (first | (go_at_call 11; refine (num_any _ _).mono ?_; rintro e w5 ⟨rfl, rfl⟩) | (go_at_call 12; refine (H5.out _).mono ?_; rintro e w5 ⟨rfl, rfl⟩) | (go_at_call 9; refine (live_any _ (HD.out.below b4)).mono ?_; rintro e w6 ⟨rfl, b6⟩; replace b6 := q_trans b4 b6))
    go_ret
    exact ⟨rfl, b6⟩

theorem twice_any (x a n v u : Int) (w : World) (hx : U64 x) (hv : U64 v) (hu : U64 u) (hD : Dig w) :
    Calls Tryd.prog 5 #[.int .u64 x, .int .i64 a, .int .i64 n, .int .u64 v, .int .u64 u] w fun e w' => e = .returned (.bool true) ∧ Below w.heap.size w w' := by
  refine twice_core x a n v u (putT x a n v) (putE a n v) (putT (putT x a n v) a n u) (putE a n u) (putT x a n u) w hD (fun W => put_any x a n v W hx hv) (fun W => put_any _ a n u W (putT_u64 hx hv) hu) (fun W => put_any x a n u W hx hu) (fun W => ?_) (fun W => ?_) ?_
  · have h := put_any x 0 64 v W hx hv
    rw [putT_all hx hv, putE_all hv] at h
    exact h
  · have h := get_any x 0 64 W hx
    rw [getT_all hx] at h
    exact h
  · by_cases he : putE a n v = 0
    · exact .inr ⟨by rw [bne_eq_false_iff_eq]; exact he, by rw [beq_iff_eq]; exact putT_twice hx hv hu he⟩
    · exact .inl (by rw [bne_iff_ne]; exact he)
end Go.Proofs.YtdngpjgpomjncabDoor
