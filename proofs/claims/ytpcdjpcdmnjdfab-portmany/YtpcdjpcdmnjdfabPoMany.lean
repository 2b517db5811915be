/- PortMany: as many as there are cores can wait; they are met in the order in which they came. -/
import Derived.Test.YtpcdjpcdmnjdfabPmFin
import Derived.Test.YtpcdjpcdmnjdfabPoMany0
namespace Go.Proofs.Ytpcdjpcdmnjdfab.Po
open Go.RowKit

/-- What live is asked for. -/
def LiveM : Prop := ∀ w : World, Calls Try.prog 4 #[] w fun e w' => e = .returned (.bool true) ∧ Below w.heap.size w w'
set_option maxRecDepth 100000 in
set_option maxHeartbeats 1000000 in
theorem many_out (K : LiveM) (n : Int) (s : Bool) (w : World) (h : n < 0 ∨ n ≥ 64) :
    Calls Try.prog 3 #[.int .i64 n, .bool s] w fun e w' => e = .returned (.bool true) ∧ Below w.heap.size w w' := by
  by_cases h1 : n < 0
  · clear h
    go_enter Try.func3, Try.ntmps3
    go_wp2_with (go_at_call 4; refine (K _).mono ?_; rintro e w2 ⟨rfl, b⟩)
    go_ret
    exact ⟨rfl, b⟩
  · have h2 : n ≥ 64 := by omega
    clear h
    go_enter Try.func3, Try.ntmps3
    go_wp2_with (go_at_call 4; refine (K _).mono ?_; rintro e w2 ⟨rfl, b⟩)
    go_ret
    exact ⟨rfl, b⟩
end Go.Proofs.Ytpcdjpcdmnjdfab.Po
