/- live answers true, in every world whose table of digits is the program's. -/
import Derived.Test.YtdngpjgpomjncaaDoorW1
import Derived.Test.YtdngpjgpomjncaaDoorW2
import Derived.Test.YtdngpjgpomjncaaDoorW3
import Derived.Test.YtdngpjgpomjncaaDoorW4
namespace Go.Proofs.YtdngpjgpomjncaaDoor
open Go.RowKit

def lit16 : ByteArray := ⟨#[48, 48, 48, 48, 48, 48, 48, 48, 48, 48, 48, 48, 48, 48, 97, 53]⟩

theorem u64_of (n : Nat) (h : n < 18446744073709551616) : U64 (n : Int) := ⟨by omega, by omega⟩
theorem q_trans {a b c : World} (h : Below a.heap.size a b) (k : Below b.heap.size b c) : Below a.heap.size a c := h.trans (k.mono h.size)

theorem lv_put1 (w : World) : Calls Tryd.prog 9 #[.int .u64 0, .int .i64 4, .int .i64 4, .int .u64 10] w fun e w' => e = .returned (.tuple #[.int .u64 160, .int .i64 0]) ∧ Below w.heap.size w w' := by
  have h := put_any 0 4 4 10 w (u64_of 0 (by omega)) (u64_of 10 (by omega))
  rw [show putT 0 4 4 10 = 160 by kernel_rfl, show putE 4 4 10 = 0 by kernel_rfl] at h
  exact h
theorem lv_put2 (w : World) : Calls Tryd.prog 9 #[.int .u64 0, .int .i64 4, .int .i64 4, .int .u64 16] w fun e w' => e = .returned (.tuple #[.int .u64 0, .int .i64 10]) ∧ Below w.heap.size w w' := by
  have h := put_any 0 4 4 16 w (u64_of 0 (by omega)) (u64_of 16 (by omega))
  rw [show putT 0 4 4 16 = 0 by kernel_rfl, show putE 4 4 16 = 10 by kernel_rfl] at h
  exact h
theorem lv_parse (w : World) (hD : Dig w) : Calls Tryd.prog 24 #[.string lit16] w fun e w' => e = .returned (.tuple #[.int .u64 165, .int .i64 0]) ∧ w' = w := by
  have h := parse_any lit16 w hD
  rw [show parT lit16 = 165 by kernel_rfl, show parE lit16 = 0 by kernel_rfl] at h
  exact h
theorem lv_low (w : World) : Calls Tryd.prog 17 #[.int .u64 160] w fun e w' => e = .returned (.tuple #[.int .i64 5, .bool true]) ∧ Below w.heap.size w w' := by
  have h := low_any 160 (show (160 : Nat) < 18446744073709551616 by omega) w
  rw [show nextI 160 0 = 5 by kernel_rfl, show nextB 160 0 = true by kernel_rfl] at h
  exact h
theorem lv_get (w : World) : Calls Tryd.prog 11 #[.int .u64 165, .int .i64 4, .int .i64 4] w fun e w' => e = .returned (.int .u64 10) ∧ w' = w := by
  have h := get_any 165 4 4 w (u64_of 165 (by omega))
  rw [show getT 165 4 4 = 10 by kernel_rfl] at h
  exact h
theorem lv_mask (w : World) : Calls Tryd.prog 13 #[.int .i64 4, .int .i64 4] w fun e w' => e = .returned (.int .u64 240) ∧ w' = w := by
  have h := mask_any 4 4 w
  rw [show maskT 4 4 = 240 by kernel_rfl] at h
  exact h
theorem lv_count (w : World) : Calls Tryd.prog 22 #[.int .u64 165] w fun e w' => e = .returned (.int .i64 4) ∧ Below w.heap.size w w' := by
  have h := count_any 165 (by omega) w
  rw [show ((((upto 165 64).length : Nat)) : Int) = 4 by kernel_rfl] at h
  exact h
theorem lv_text (w : World) (hD : Dig w) : Calls Tryd.prog 26 #[.int .u64 165] w fun e w' => e = .returned (.string lit16) ∧ Below w.heap.size w w' := by
  have h := text_any 165 w (show (165 : Nat) < 18446744073709551616 by omega) hD
  rw [show textS 165 = lit16 by kernel_rfl] at h
  exact h

set_option maxRecDepth 100000 in
set_option maxHeartbeats 2000000 in
theorem live_any (w : World) (hD : Dig w) : Calls Tryd.prog 16 #[] w fun e w' => e = .returned (.bool true) ∧ Below w.heap.size w w' := by
  have HD : Hid (Dig w) := hD
  clear hD
  have hlit : (lit16.toList == [48, 48, 48, 48, 48, 48, 48, 48, 48, 48, 48, 48, 48, 48, 97, 53]) = true := by kernel_rfl
  go_enter Tryd.func16, Tryd.ntmps16
  go_wp2_with fail
  refine (lv_put1 _).mono ?_
  rintro e w1 ⟨rfl, b1⟩
  go_wp2_with fail
  refine (lv_put2 _).mono ?_
  rintro e w2 ⟨rfl, b2⟩
  have b2 := q_trans b1 b2
  clear b1
  go_wp2_with fail
  refine (lv_parse _ (HD.out.below b2)).mono ?_
  rintro e w3 ⟨rfl, rfl⟩
  go_wp2_with fail
  refine (lv_low _).mono ?_
  rintro e w4 ⟨rfl, b4⟩
  have b4 := q_trans b2 b4
  clear b2
  go_wp2_with (first | (go_at_call 15; refine (num_any _ _).mono ?_; rintro e w5 ⟨rfl, rfl⟩) | (go_at_call 11; refine (lv_get _).mono ?_; rintro e w5 ⟨rfl, rfl⟩) | (go_at_call 13; refine (lv_mask _).mono ?_; rintro e w5 ⟨rfl, rfl⟩) | (go_at_call 22; refine (lv_count _).mono ?_; rintro e w6 ⟨rfl, b6⟩; replace b6 := q_trans b4 b6) | (go_at_call 26; refine (lv_text _ (HD.out.below b6)).mono ?_; rintro e w7 ⟨rfl, b7⟩; replace b7 := q_trans b6 b7))
  go_ret
  exact ⟨rfl, b7⟩
end Go.Proofs.YtdngpjgpomjncaaDoor
