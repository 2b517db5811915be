/- The walk of BitsFields: it answers true. -/
import Derived.Test.YtdngpjgpomjncaaDoorRefA
namespace Go.Proofs.YtdngpjgpomjncaaDoor
open Go.RowKit

set_option maxRecDepth 100000 in
set_option maxHeartbeats 2000000 in
theorem fields_core (x a n v p e0 g m : Int) (w : World) (HD : Hid (Dig w))
    (H1 : Hid (∀ W : World, Calls Tryd.prog 9 #[.int .u64 x, .int .i64 a, .int .i64 n, .int .u64 v] W fun e w' => e = .returned (.tuple #[.int .u64 p, .int .i64 e0]) ∧ Below W.heap.size W w'))
    (H2 : Hid (∀ W : World, Calls Tryd.prog 10 #[.int .u64 x, .int .i64 a, .int .i64 n, .int .u64 v] W fun e w' => e = .returned (.tuple #[.int .u64 p, .int .i64 e0]) ∧ w' = W))
    (H3 : Hid (∀ W : World, Calls Tryd.prog 11 #[.int .u64 x, .int .i64 a, .int .i64 n] W fun e w' => e = .returned (.int .u64 g) ∧ w' = W))
    (H4 : Hid (∀ W : World, Calls Tryd.prog 12 #[.int .u64 x, .int .i64 a, .int .i64 n] W fun e w' => e = .returned (.int .u64 g) ∧ w' = W))
    (H5 : Hid (∀ W : World, Calls Tryd.prog 13 #[.int .i64 a, .int .i64 n] W fun e w' => e = .returned (.int .u64 m) ∧ w' = W))
    (H6 : Hid (∀ W : World, Calls Tryd.prog 14 #[.int .i64 a, .int .i64 n] W fun e w' => e = .returned (.int .u64 m) ∧ w' = W)) :
    Calls Tryd.prog 3 #[.int .u64 x, .int .i64 a, .int .i64 n, .int .u64 v] w fun e w' => e = .returned (.bool true) ∧ Below w.heap.size w w' := by
  go_enter Tryd.func3, Tryd.ntmps3
  go_wp2_with (first | (go_at_call 9; refine (H1.out _).mono ?_; rintro e w1 ⟨rfl, b1⟩) | (go_at_call 10; refine (H2.out _).mono ?_; rintro e w5 ⟨rfl, rfl⟩) | (go_at_call 11; refine (H3.out _).mono ?_; rintro e w5 ⟨rfl, rfl⟩) | (go_at_call 12; refine (H4.out _).mono ?_; rintro e w5 ⟨rfl, rfl⟩) | (go_at_call 13; refine (H5.out _).mono ?_; rintro e w5 ⟨rfl, rfl⟩) | (go_at_call 14; refine (H6.out _).mono ?_; rintro e w5 ⟨rfl, rfl⟩) | (go_at_call 15; refine (num_any _ _).mono ?_; rintro e w5 ⟨rfl, rfl⟩) | (go_at_call 16; refine (live_any _ (HD.out.below b1)).mono ?_; rintro e w6 ⟨rfl, b6⟩; replace b6 := q_trans b1 b6))
  go_ret
  exact ⟨rfl, b6⟩

theorem fields_any (x a n v : Int) (w : World) (hx : U64 x) (hv : U64 v) (hD : Dig w) :
    Calls Tryd.prog 3 #[.int .u64 x, .int .i64 a, .int .i64 n, .int .u64 v] w fun e w' => e = .returned (.bool true) ∧ Below w.heap.size w w' :=
  fields_core x a n v (putT x a n v) (putE a n v) (getT x a n) (maskT a n) w hD (fun W => put_any x a n v W hx hv) (fun W => rput_any x a n v W hx hv) (fun W => get_any x a n W hx) (fun W => rget_any x a n W hx) (fun W => mask_any a n W) (fun W => rmask_any a n W)
end Go.Proofs.YtdngpjgpomjncaaDoor
