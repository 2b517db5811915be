/- GrabSteps, as its row asks. -/
import Derived.Test.YtaihabkacjbfjaaGrSteps
namespace Go.Proofs.Ytaihabkacjbfjaa.Gr
open Go.RowKit Go.Proofs.Ytaihabkacjbfjaa.Ce
theorem steps_row (g : G) (ao : Option Addr) (n cap : Nat) (ok : Bool) (w : World) (H : Has w ao n cap g.cs) :
    Calls Try.prog 4 #[(.agg #[.int .i64 g.w, .slice ao n cap, .int .i64 g.p, .int .i64 g.a, .int .i64 g.t, .bool g.b]), .bool ok] w fun e w' => e = .returned (.bool true) ∧ Below w.heap.size w w' := steps_any g ok ao n cap w H
end Go.Proofs.Ytaihabkacjbfjaa.Gr
