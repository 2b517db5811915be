/- PortMany, for every number. -/
import Derived.Test.YtpcdjpcdmnjdfabPoManyA
import Derived.Test.YtpcdjpcdmnjdfabPoManyB
namespace Go.Proofs.Ytpcdjpcdmnjdfab.Po
open Go.RowKit

theorem many_any (K : LiveM) (n : Int) (s : Bool) (w : World) :
    Calls Try.prog 3 #[.int .i64 n, .bool s] w fun e w' => e = .returned (.bool true) ∧ Below w.heap.size w w' := by
  by_cases h : n < 0 ∨ n ≥ 64
  · exact many_out K n s w h
  · obtain ⟨N, rfl⟩ := Int.eq_ofNat_of_zero_le (show 0 ≤ n by omega)
    have hN : N < 64 := by omega
    cases s
    · exact many_r K N w hN
    · exact many_s K N w hN
end Go.Proofs.Ytpcdjpcdmnjdfab.Po
