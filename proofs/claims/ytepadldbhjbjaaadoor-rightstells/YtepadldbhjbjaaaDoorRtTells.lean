/- The walk of RightsTells: it answers true. -/
import Derived.Test.YtepadldbhjbjaaaDoorRtW5
import Derived.Test.YtepadldbhjbjaaaDoorRtRefD
namespace Go.Proofs.YtepadldbhjbjaaaDoor.Rt
open Go.RowKit

set_option maxRecDepth 100000 in
set_option maxHeartbeats 2000000 in
theorem tells_long (a b : Int) (s : ByteArray) (w : World) (HT : Hid (Tab w)) (hs : 1000 < s.size) (hs2 : s.size ≤ 9223372036854775807) :
    Calls Tryd.prog 3 #[.int .i64 a, .int .i64 b, .string s] w fun e w' => e = .returned (.bool true) ∧ Below w.heap.size w w' := by
  go_enter Tryd.func3, Tryd.ntmps3
  go_wp2_with (go_at_call 9; refine (live_any _ HT.out).mono ?_; rintro e w6 ⟨rfl, b6⟩)
  go_ret
  exact ⟨rfl, b6⟩

set_option maxRecDepth 100000 in
set_option maxHeartbeats 2000000 in
theorem tells_core (a b : Int) (s t : ByteArray) (p e0 : Int) (x y : Bool) (w : World) (HT : Hid (Tab w)) (hs : s.size ≤ 1000)
    (H1 : Hid (∀ W : World, Tab W → Calls Tryd.prog 10 #[.string s] W fun e w' => e = .returned (.tuple #[.int .i64 p, .int .i64 e0]) ∧ Below W.heap.size W w'))
    (H2 : Hid (∀ W : World, Calls Tryd.prog 11 #[.string s] W fun e w' => e = .returned (.tuple #[.int .i64 p, .int .i64 e0]) ∧ w' = W))
    (H3 : Hid (∀ W : World, Tab W → Calls Tryd.prog 16 #[.int .i64 a] W fun e w' => e = .returned (.string t) ∧ Below W.heap.size W w'))
    (H4 : Hid (∀ W : World, Calls Tryd.prog 17 #[.int .i64 a] W fun e w' => e = .returned (.string t) ∧ w' = W))
    (H5 : Hid (∀ W : World, Calls Tryd.prog 12 #[.int .i64 a] W fun e w' => e = .returned (.bool x) ∧ w' = W))
    (H6 : Hid (∀ W : World, Calls Tryd.prog 13 #[.int .i64 a] W fun e w' => e = .returned (.bool x) ∧ w' = W))
    (H7 : Hid (∀ W : World, Calls Tryd.prog 14 #[.int .i64 a, .int .i64 b] W fun e w' => e = .returned (.bool y) ∧ w' = W))
    (H8 : Hid (∀ W : World, Calls Tryd.prog 15 #[.int .i64 a, .int .i64 b] W fun e w' => e = .returned (.bool y) ∧ w' = W)) :
    Calls Tryd.prog 3 #[.int .i64 a, .int .i64 b, .string s] w fun e w' => e = .returned (.bool true) ∧ Below w.heap.size w w' := by
  go_enter Tryd.func3, Tryd.ntmps3
  go_wp2_with fail
  refine (H1.out _ HT.out).mono ?_
  rintro e w1 ⟨rfl, b1⟩
  go_wp2_with (first | (go_at_call 11; refine (H2.out _).mono ?_; rintro e w5 ⟨rfl, rfl⟩) | (go_at_call 12; refine (H5.out _).mono ?_; rintro e w5 ⟨rfl, rfl⟩) | (go_at_call 13; refine (H6.out _).mono ?_; rintro e w5 ⟨rfl, rfl⟩) | (go_at_call 14; refine (H7.out _).mono ?_; rintro e w5 ⟨rfl, rfl⟩) | (go_at_call 15; refine (H8.out _).mono ?_; rintro e w5 ⟨rfl, rfl⟩) | (go_at_call 16; refine (H3.out _ (HT.out.below b1)).mono ?_; rintro e w7 ⟨rfl, b7⟩; replace b7 := q_trans b1 b7) | (go_at_call 17; refine (H4.out _).mono ?_; rintro e w8 ⟨rfl, rfl⟩) | (go_at_call 18; refine (num_any _ _).mono ?_; rintro e w5 ⟨rfl, rfl⟩) | (go_at_call 9; refine (live_any _ (HT.out.below b7)).mono ?_; rintro e w9 ⟨rfl, b9⟩; replace b9 := q_trans b7 b9))
  go_ret
  exact ⟨rfl, b9⟩

theorem tells_any (a b : Int) (s : ByteArray) (w : World) (hs : s.size ≤ 9223372036854775807) (hT : Tab w) :
    Calls Tryd.prog 3 #[.int .i64 a, .int .i64 b, .string s] w fun e w' => e = .returned (.bool true) ∧ Below w.heap.size w w' := by
  by_cases h : s.size ≤ 1000
  · exact tells_core a b s (textT a) (parT s) (parE s) (isR a) (wiB a b) w hT h (fun W hW => parse_any s W hW) (fun W => rparse_any s W) (fun W hW => text_any a W hW) (fun W => rtext_any a W) (fun W => is_any a W) (fun W => ris_any a W) (fun W => within_any a b W) (fun W => rwithin_any a b W)
  · exact tells_long a b s w hT (by omega) hs
end Go.Proofs.YtepadldbhjbjaaaDoor.Rt
