/- The walk of BitsFinds: it answers true. -/
import Derived.Test.YtdngpjgpomjncaaDoorRefB
namespace Go.Proofs.YtdngpjgpomjncaaDoor
open Go.RowKit

set_option maxRecDepth 100000 in
set_option maxHeartbeats 2000000 in
theorem finds_core (x : Nat) (a c l0 h0 n0 : Int) (l1 h1 n1 : Bool) (w : World) (HD : Hid (Dig w))
    (H1 : Hid (∀ W : World, Calls Tryd.prog 17 #[.int .u64 x] W fun e w' => e = .returned (.tuple #[.int .i64 l0, .bool l1]) ∧ Below W.heap.size W w'))
    (H2 : Hid (∀ W : World, Calls Tryd.prog 18 #[.int .u64 x, .int .i64 0] W fun e w' => e = .returned (.tuple #[.int .i64 l0, .bool l1]) ∧ w' = W))
    (H3 : Hid (∀ W : World, Calls Tryd.prog 19 #[.int .u64 x] W fun e w' => e = .returned (.tuple #[.int .i64 h0, .bool h1]) ∧ Below W.heap.size W w'))
    (H4 : Hid (∀ W : World, Calls Tryd.prog 20 #[.int .u64 x] W fun e w' => e = .returned (.tuple #[.int .i64 h0, .bool h1]) ∧ w' = W))
    (H5 : Hid (∀ W : World, Calls Tryd.prog 21 #[.int .u64 x, .int .i64 a] W fun e w' => e = .returned (.tuple #[.int .i64 n0, .bool n1]) ∧ Below W.heap.size W w'))
    (H6 : Hid (∀ W : World, Calls Tryd.prog 18 #[.int .u64 x, .int .i64 a] W fun e w' => e = .returned (.tuple #[.int .i64 n0, .bool n1]) ∧ w' = W))
    (H7 : Hid (∀ W : World, Calls Tryd.prog 22 #[.int .u64 x] W fun e w' => e = .returned (.int .i64 c) ∧ Below W.heap.size W w'))
    (H8 : Hid (∀ W : World, Calls Tryd.prog 23 #[.int .u64 x] W fun e w' => e = .returned (.int .i64 c) ∧ w' = W)) :
    Calls Tryd.prog 4 #[.int .u64 x, .int .i64 a] w fun e w' => e = .returned (.bool true) ∧ Below w.heap.size w w' := by
  go_enter Tryd.func4, Tryd.ntmps4
  go_wp2_with fail
  refine (H1.out _).mono ?_
  rintro e w1 ⟨rfl, b1⟩
  go_wp2_with fail
  refine (H2.out _).mono ?_
  rintro e w2 ⟨rfl, rfl⟩
  go_wp2_with fail
  refine (H3.out _).mono ?_
  rintro e w3 ⟨rfl, b3⟩
  replace b3 := q_trans b1 b3
  go_wp2_with fail
  refine (H4.out _).mono ?_
  rintro e w4 ⟨rfl, rfl⟩
  go_wp2_with fail
  refine (H5.out _).mono ?_
  rintro e w5 ⟨rfl, b5⟩
  replace b5 := q_trans b3 b5
  go_wp2_with fail
  refine (H6.out _).mono ?_
  rintro e w6 ⟨rfl, rfl⟩
  clear b1 b3
  go_wp2_with (first | (go_at_call 22; refine (H7.out _).mono ?_; rintro e w7 ⟨rfl, b7⟩; replace b7 := q_trans b5 b7) | (go_at_call 23; refine (H8.out _).mono ?_; rintro e w8 ⟨rfl, rfl⟩) | (go_at_call 16; refine (live_any _ (HD.out.below b7)).mono ?_; rintro e w9 ⟨rfl, b9⟩; replace b9 := q_trans b7 b9))
  go_ret
  exact ⟨rfl, b9⟩

theorem finds_any (x a : Int) (w : World) (hx : U64 x) (hD : Dig w) :
    Calls Tryd.prog 4 #[.int .u64 x, .int .i64 a] w fun e w' => e = .returned (.bool true) ∧ Below w.heap.size w w' := by
  obtain ⟨y, rfl⟩ := Int.eq_ofNat_of_zero_le hx.1
  have hy : y < 18446744073709551616 := by have := hx.2; omega
  exact finds_core y a (cnt y 64 : Nat) (nextI y 0) (lastI (upto y 64)) (nextI y a) (nextB y 0) (lastB (upto y 64)) (nextB y a) w hD (fun W => low_any y hy W) (fun W => rnext_any y 0 W hy) (fun W => high_any y hy W) (fun W => rhigh_any y W hy)
    (fun W => next_any y hy a W) (fun W => rnext_any y a W hy) (fun W => count_any y hy W) (fun W => rcount_any y W hy)
end Go.Proofs.YtdngpjgpomjncaaDoor
