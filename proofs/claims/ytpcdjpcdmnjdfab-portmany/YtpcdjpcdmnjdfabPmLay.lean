/- What the law of this seat needs of its door. -/
import Derived.Test.YtpcdjpcdmnjdfabRows
import Derived.Test.YtpcdjpcdmnjdfabPoMem
import Derived.ProofKit
import Derived.OpenShut
import Derived.ChangeSlices
namespace Go.Proofs.Ytpcdjpcdmnjdfab.Po
open Go.ChangeShapes Go.WideShapes Go.ChangeAt Go.RowKit

theorem own : ownKnob Try.prog.godebug = none := by kernel_rfl
theorem laidOut : laidOutB Try.prog = true := by kernel_rfl
end Go.Proofs.Ytpcdjpcdmnjdfab.Po
