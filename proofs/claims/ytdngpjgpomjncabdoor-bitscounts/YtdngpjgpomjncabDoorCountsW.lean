/- The walk of BitsCounts: it answers true. -/
import Derived.Test.YtdngpjgpomjncabDoorW5
import Derived.Test.YtdngpjgpomjncabDoorCntM
namespace Go.Proofs.YtdngpjgpomjncabDoor
open Go.RowKit

set_option maxRecDepth 100000 in
set_option maxHeartbeats 2000000 in
theorem counts_core (v x cx cn ca co cv ce : Int) (w : World) (HD : Hid (Dig w))
    (H1 : Hid (∀ W : World, Calls Tryd.prog 8 #[.int .u64 x] W fun e w' => e = .returned (.int .i64 cx) ∧ Below W.heap.size W w'))
    (H2 : Hid (∀ W : World, Calls Tryd.prog 8 #[.int .u64 (bits .xor .u64 IntKind.u64.max x)] W fun e w' => e = .returned (.int .i64 cn) ∧ Below W.heap.size W w'))
    (H3 : Hid (∀ W : World, Calls Tryd.prog 8 #[.int .u64 (bits .and .u64 v x)] W fun e w' => e = .returned (.int .i64 ca) ∧ Below W.heap.size W w'))
    (H4 : Hid (∀ W : World, Calls Tryd.prog 8 #[.int .u64 (bits .or .u64 v x)] W fun e w' => e = .returned (.int .i64 co) ∧ Below W.heap.size W w'))
    (H5 : Hid (∀ W : World, Calls Tryd.prog 8 #[.int .u64 v] W fun e w' => e = .returned (.int .i64 cv) ∧ Below W.heap.size W w'))
    (H6 : Hid (∀ W : World, Calls Tryd.prog 8 #[.int .u64 (bits .xor .u64 v x)] W fun e w' => e = .returned (.int .i64 ce) ∧ Below W.heap.size W w'))
    (x0 : 0 ≤ cx) (x1 : cx ≤ 64) (n0 : 0 ≤ cn) (n1 : cn ≤ 64) (a0 : 0 ≤ ca) (a1 : ca ≤ 64) (o0 : 0 ≤ co) (o1 : co ≤ 64) (v0 : 0 ≤ cv) (v1 : cv ≤ 64)
    (t1 : (cx + cn == 64) = true) (t2 : (ca + co == cv + cx) = true) (t3 : (ce == co - ca) = true) :
    Calls Tryd.prog 4 #[.int .u64 v, .int .u64 x] w fun e w' => e = .returned (.bool true) ∧ Below w.heap.size w w' := by
  have hsg : IntKind.u64.signed = false := rfl
  go_enter Tryd.func4, Tryd.ntmps4
  go_wp2_with fail
  refine (H1.out _).mono ?_
  rintro e w1 ⟨rfl, b1⟩
  go_wp2_with fail
  refine (H2.out _).mono ?_
  rintro e w2 ⟨rfl, b2⟩
  replace b2 := q_trans b1 b2
  go_wp2_with fail
  refine (H3.out _).mono ?_
  rintro e w3 ⟨rfl, b3⟩
  replace b3 := q_trans b2 b3
  go_wp2_with fail
  refine (H4.out _).mono ?_
  rintro e w4 ⟨rfl, b4⟩
  replace b4 := q_trans b3 b4
  go_wp2_with fail
  refine (H5.out _).mono ?_
  rintro e w5 ⟨rfl, b5⟩
  replace b5 := q_trans b4 b5
  go_wp2_with fail
  refine (H1.out _).mono ?_
  rintro e w6 ⟨rfl, b6⟩
  replace b6 := q_trans b5 b6
  clear b1 b2 b3 b4 b5
  go_wp2_with fail
  refine (H6.out _).mono ?_
  rintro e w7 ⟨rfl, b7⟩
  replace b7 := q_trans b6 b7
  go_wp2_with fail
  refine (H4.out _).mono ?_
  rintro e w8 ⟨rfl, b8⟩
  replace b8 := q_trans b7 b8
  go_wp2_with fail
  refine (H3.out _).mono ?_
  rintro e w9 ⟨rfl, b9⟩
  replace b9 := q_trans b8 b9
  clear b6 b7 b8
  go_wp2_with (go_at_call 9; refine (live_any _ (HD.out.below b9)).mono ?_; rintro e w10 ⟨rfl, b10⟩; replace b10 := q_trans b9 b10)
  go_ret
  exact ⟨rfl, b10⟩

theorem counts_any (v x : Int) (w : World) (hv : U64 v) (hx : U64 x) (hD : Dig w) :
    Calls Tryd.prog 4 #[.int .u64 v, .int .u64 x] w fun e w' => e = .returned (.bool true) ∧ Below w.heap.size w w' := by
  obtain ⟨v', rfl⟩ := Int.eq_ofNat_of_zero_le hv.1
  obtain ⟨x', rfl⟩ := Int.eq_ofNat_of_zero_le hx.1
  have hv' : v' < 18446744073709551616 := by have := hv.2; omega
  have hx' : x' < 18446744073709551616 := by have := hx.2; omega
  have l1 := cnt_not x' hx' 64 (by omega)
  have l2 := cnt_and_or v' x' 64
  have l3 := cnt_xor v' x' 64
  have m1 := cnt_le x' 64
  have m2 := cnt_le (18446744073709551615 - x') 64
  have m3 := cnt_le (v' &&& x') 64
  have m4 := cnt_le (v' ||| x') 64
  have m5 := cnt_le v' 64
  refine counts_core v' x' (cnt x' 64 : Nat) (cnt (18446744073709551615 - x') 64 : Nat) (cnt (v' &&& x') 64 : Nat) (cnt (v' ||| x') 64 : Nat) (cnt v' 64 : Nat) (cnt (v' ^^^ x') 64 : Nat) w hD
    (fun W => count_any x' hx' W) (fun W => ?_) (fun W => ?_) (fun W => ?_) (fun W => count_any v' hv' W) (fun W => ?_)
    (by omega) (by omega) (by omega) (by omega) (by omega) (by omega) (by omega) (by omega) (by omega) (by omega)
    (by rw [beq_iff_eq]; omega) (by rw [beq_iff_eq]; omega) (by rw [beq_iff_eq]; omega)
  · rw [not_eq x' hx']; exact count_any _ (by omega) W
  · rw [u64_and_nat v' x' hv' hx']; exact count_any _ (Nat.lt_of_le_of_lt Nat.and_le_left hv') W
  · rw [u64_or_nat v' x' hv' hx']; exact count_any _ (Nat.or_lt_two_pow (n := 64) (by omega) (by omega)) W
  · rw [u64_xor_nat v' x' hv' hx']; exact count_any _ (Nat.xor_lt_two_pow (n := 64) (by omega) (by omega)) W
end Go.Proofs.YtdngpjgpomjncabDoor
