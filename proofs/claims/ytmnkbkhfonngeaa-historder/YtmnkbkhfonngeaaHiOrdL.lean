/- What HistOrder does, with a list of whatever length. -/
import Derived.Test.YtmnkbkhfonngeaaHiOrder
namespace Go.Proofs.Ytmnkbkhfonngeaa.Hi
open Go.RowKit

set_option maxHeartbeats 400000 in
theorem order_long (K : LiveC) (y : Hd) (p q r : Int) (w : World) (hN : 60 < y.n) :
    Calls Try.prog 5 #[.slice y.o y.n y.c, .int .i64 p, .int .i64 q, .int .i64 r] w fun e w' => e = .returned (.bool true) ∧ Below w.heap.size w w' := by
  have i0 : (y.n : Int) > 60 := by omega
  go_enter Try.func5, Try.ntmps5
  go_wp2_with (go_at_call 9; refine (K _).mono ?_; rintro e w9 ⟨rfl, b9⟩)
  go_ret
  exact ⟨rfl, b9⟩
theorem order_any (K : LiveC) (y : Hd) (l : List (Ac × Hd)) (p q r : Int) (w : World) (HH : HasZ w y l) :
    Calls Try.prog 5 #[.slice y.o y.n y.c, .int .i64 p, .int .i64 q, .int .i64 r] w fun e w' => e = .returned (.bool true) ∧ Below w.heap.size w w' := by
  by_cases h : 60 < y.n
  · exact order_long K y p q r w h
  · exact order_in K y.o y.n y.c l p q r w (by omega) HH
end Go.Proofs.Ytmnkbkhfonngeaa.Hi
