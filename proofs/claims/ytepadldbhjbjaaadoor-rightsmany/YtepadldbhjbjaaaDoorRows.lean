/-
  NARROWER THAN 'FOR EVERY INPUT', by the rows' own cells (each row's printed sentence says how): RightsTells: laid · RightsMeets: laid · RightsOrder: laid · RightsLess: laid · RightsBack: laid · RightsMany: laid.
  DERIVED. THE GIVEN ROWS OF THIS SEAT. 6 by the template 'for every input the law returns true; each argument reads behind the call as it read before'; 0 by the template 'total and deterministic' (their statements: YtepadldbhjbjaaaDoorTotals.lean).
  GIVEN WITH THE SEED: the statements are not yours to turn. If you find one false, say at which input.
  Laid BY PROGRAM, IN A SANDBOX (cutbox-rows.mjs): the forced cells as the released guide's own fill.sh prints them over the translation c1e4cae1523349a7… (all of the seat's roots in one cut). By AI agents, Wed Nov 11 2026. No macro, syntax, notation, axiom, sorry.
-/
import Derived.Test.YtepadldbhjbjaaaDoorChecked
import GoSem.Claim
import GoSem.ClaimJoined
import GoSem.ClaimMapViews
import Derived.JoinedTies
import Derived.KernelRfl
namespace Go.Proofs.YtepadldbhjbjaaaDoor
/- THE CELL 'sum', in the pinned program and in every row, IS THE sha256 OF THE DUMP (.gsa) THAT YtepadldbhjbjaaaDoorProg.lean LOADS. Nothing in Lean hashes anything: it is a label: what it is worth is what the hold of that sum in a sandbox is worth. -/
noncomputable def Tryd.pinned : Pinned := { name := "ytepadldbhjbjaaadoor", sum := "c1e4cae1523349a7eae5dceeda8ca54902345f6c44a66b51728ac90a05ee4fb5", checked := Tryd.checked }
namespace Rows
def none {H : Type} : Left H := { results := [], args := [] }

/- WHAT THE LISTED PACKAGE-LEVEL VARIABLES READ AS WHEN THE CALL BEGINS. Each datum BY PROGRAM (the guide's laid-datum.mjs) off the statement by which the dump's own 'gosem.cut.vars' lays the variable. In a bare row this is a premise. The card (YtepadldbhjbjaaaDoorCards.lean) ties it to the program's text. -/
def laid_garrison_rights_inText {H : Type} : DataW H := .agg [.lit (.int .i64 1), .lit (.int .i64 2), .lit (.int .i64 4), .lit (.int .i64 8)]

/-- 'garrisonlaw02.RightsTells': WHATEVER THE INPUT: true; the input reads as it did. -/
def rightsTellsSpec : ChangeSpec := { name := "rightsTells", fn := fun _ => fun
  | [d1, d2, d3] => { results := [.lit (.bool true)], args := [d1, d2, d3] }
  | _ => none }
def rightsTellsRow : OpenClaim := { program := "ytepadldbhjbjaaadoor", sum := "c1e4cae1523349a7eae5dceeda8ca54902345f6c44a66b51728ac90a05ee4fb5", func := "garrison/garrisonlaw02.RightsTells", spec := "rightsTells", named := ["garrison/rights.inText"], apart := false, laid := [("garrison/rights.inText", laid_garrison_rights_inText)] }
def RightsTellsSaid : Prop := rightsTellsRow.holds Tryd.pinned (OpenSpec.ofChange rightsTellsSpec)

/-- ITS FALSE NEIGHBOUR: 'it returns false'. Refute it at one input. -/
def rightsTellsWrong : ChangeSpec := { name := "rightsTells", fn := fun _ => fun
  | [d1, d2, d3] => { results := [.lit (.bool false)], args := [d1, d2, d3] }
  | _ => none }
def RightsTellsWrongFalsely : Prop := rightsTellsRow.holds Tryd.pinned (OpenSpec.ofChange rightsTellsWrong)

/-- 'garrisonlaw02.RightsMeets': WHATEVER THE INPUT: true; the input reads as it did. -/
def rightsMeetsSpec : ChangeSpec := { name := "rightsMeets", fn := fun _ => fun
  | [d1, d2, d3] => { results := [.lit (.bool true)], args := [d1, d2, d3] }
  | _ => none }
def rightsMeetsRow : OpenClaim := { program := "ytepadldbhjbjaaadoor", sum := "c1e4cae1523349a7eae5dceeda8ca54902345f6c44a66b51728ac90a05ee4fb5", func := "garrison/garrisonlaw02.RightsMeets", spec := "rightsMeets", named := ["garrison/rights.inText"], apart := false, laid := [("garrison/rights.inText", laid_garrison_rights_inText)] }
def RightsMeetsSaid : Prop := rightsMeetsRow.holds Tryd.pinned (OpenSpec.ofChange rightsMeetsSpec)

/-- ITS FALSE NEIGHBOUR: 'it returns false'. Refute it at one input. -/
def rightsMeetsWrong : ChangeSpec := { name := "rightsMeets", fn := fun _ => fun
  | [d1, d2, d3] => { results := [.lit (.bool false)], args := [d1, d2, d3] }
  | _ => none }
def RightsMeetsWrongFalsely : Prop := rightsMeetsRow.holds Tryd.pinned (OpenSpec.ofChange rightsMeetsWrong)

/-- 'garrisonlaw02.RightsOrder': WHATEVER THE INPUT: true; the input reads as it did. -/
def rightsOrderSpec : ChangeSpec := { name := "rightsOrder", fn := fun _ => fun
  | [d1, d2, d3] => { results := [.lit (.bool true)], args := [d1, d2, d3] }
  | _ => none }
def rightsOrderRow : OpenClaim := { program := "ytepadldbhjbjaaadoor", sum := "c1e4cae1523349a7eae5dceeda8ca54902345f6c44a66b51728ac90a05ee4fb5", func := "garrison/garrisonlaw02.RightsOrder", spec := "rightsOrder", named := ["garrison/rights.inText"], apart := false, laid := [("garrison/rights.inText", laid_garrison_rights_inText)] }
def RightsOrderSaid : Prop := rightsOrderRow.holds Tryd.pinned (OpenSpec.ofChange rightsOrderSpec)

/-- ITS FALSE NEIGHBOUR: 'it returns false'. Refute it at one input. -/
def rightsOrderWrong : ChangeSpec := { name := "rightsOrder", fn := fun _ => fun
  | [d1, d2, d3] => { results := [.lit (.bool false)], args := [d1, d2, d3] }
  | _ => none }
def RightsOrderWrongFalsely : Prop := rightsOrderRow.holds Tryd.pinned (OpenSpec.ofChange rightsOrderWrong)

/-- 'garrisonlaw02.RightsLess': WHATEVER THE INPUT: true; the input reads as it did. -/
def rightsLessSpec : ChangeSpec := { name := "rightsLess", fn := fun _ => fun
  | [d1, d2] => { results := [.lit (.bool true)], args := [d1, d2] }
  | _ => none }
def rightsLessRow : OpenClaim := { program := "ytepadldbhjbjaaadoor", sum := "c1e4cae1523349a7eae5dceeda8ca54902345f6c44a66b51728ac90a05ee4fb5", func := "garrison/garrisonlaw02.RightsLess", spec := "rightsLess", named := ["garrison/rights.inText"], apart := false, laid := [("garrison/rights.inText", laid_garrison_rights_inText)] }
def RightsLessSaid : Prop := rightsLessRow.holds Tryd.pinned (OpenSpec.ofChange rightsLessSpec)

/-- ITS FALSE NEIGHBOUR: 'it returns false'. Refute it at one input. -/
def rightsLessWrong : ChangeSpec := { name := "rightsLess", fn := fun _ => fun
  | [d1, d2] => { results := [.lit (.bool false)], args := [d1, d2] }
  | _ => none }
def RightsLessWrongFalsely : Prop := rightsLessRow.holds Tryd.pinned (OpenSpec.ofChange rightsLessWrong)

/-- 'garrisonlaw02.RightsBack': WHATEVER THE INPUT: true; the input reads as it did. -/
def rightsBackSpec : ChangeSpec := { name := "rightsBack", fn := fun _ => fun
  | [d1, d2] => { results := [.lit (.bool true)], args := [d1, d2] }
  | _ => none }
def rightsBackRow : OpenClaim := { program := "ytepadldbhjbjaaadoor", sum := "c1e4cae1523349a7eae5dceeda8ca54902345f6c44a66b51728ac90a05ee4fb5", func := "garrison/garrisonlaw02.RightsBack", spec := "rightsBack", named := ["garrison/rights.inText"], apart := false, laid := [("garrison/rights.inText", laid_garrison_rights_inText)] }
def RightsBackSaid : Prop := rightsBackRow.holds Tryd.pinned (OpenSpec.ofChange rightsBackSpec)

/-- ITS FALSE NEIGHBOUR: 'it returns false'. Refute it at one input. -/
def rightsBackWrong : ChangeSpec := { name := "rightsBack", fn := fun _ => fun
  | [d1, d2] => { results := [.lit (.bool false)], args := [d1, d2] }
  | _ => none }
def RightsBackWrongFalsely : Prop := rightsBackRow.holds Tryd.pinned (OpenSpec.ofChange rightsBackWrong)

/-- 'garrisonlaw02.RightsMany': WHATEVER THE INPUT: true; the input reads as it did. -/
def rightsManySpec : ChangeSpec := { name := "rightsMany", fn := fun _ => fun
  | [d1, d2] => { results := [.lit (.bool true)], args := [d1, d2] }
  | _ => none }
def rightsManyRow : OpenClaim := { program := "ytepadldbhjbjaaadoor", sum := "c1e4cae1523349a7eae5dceeda8ca54902345f6c44a66b51728ac90a05ee4fb5", func := "garrison/garrisonlaw02.RightsMany", spec := "rightsMany", named := ["garrison/rights.inText"], apart := false, laid := [("garrison/rights.inText", laid_garrison_rights_inText)] }
def RightsManySaid : Prop := rightsManyRow.holds Tryd.pinned (OpenSpec.ofChange rightsManySpec)

/-- ITS FALSE NEIGHBOUR: 'it returns false'. Refute it at one input. -/
def rightsManyWrong : ChangeSpec := { name := "rightsMany", fn := fun _ => fun
  | [d1, d2] => { results := [.lit (.bool false)], args := [d1, d2] }
  | _ => none }
def RightsManyWrongFalsely : Prop := rightsManyRow.holds Tryd.pinned (OpenSpec.ofChange rightsManyWrong)

/- THE SECOND FORM. 'bulk': how many values and letters a reading holds, each counted each time it is reached (what is shared counts as often as it is met; a slice's spare places count too). A statement '..UptoSaid' is the law's where the arguments, and the package variables that the reading takes, are together of bulk at most 1048576: NARROWER than '..Said'. Prove '..Said' where nothing that the law and all that it calls make is longer than what came in: it says more and counts as full. Else prove '..UptoSaid'. A law counts once. -/
mutual
def uptoBulk {H : Type} : DataW H → Nat
  | .lit (.string bytes) => bytes.length + 1
  | .lit _ => 1
  | .nil => 1
  | .ptr d => uptoBulk d + 1
  | .slice elems spare => uptoBulkAll elems + uptoBulkAll spare + 1
  | .agg parts => uptoBulkAll parts + 1
  | .iface _ d => uptoBulk d + 1
  | .map entries => uptoBulkEntries entries + 1
  | .held _ => 1
def uptoBulkAll {H : Type} : List (DataW H) → Nat
  | [] => 0
  | d :: r => uptoBulk d + uptoBulkAll r
def uptoBulkEntries {H : Type} : List (Lit × DataW H) → Nat
  | [] => 0
  | x :: r => uptoBulkEntry x + uptoBulkEntries r
def uptoBulkEntry {H : Type} : Lit × DataW H → Nat
  | (.string bytes, d) => bytes.length + uptoBulk d + 1
  | (_, d) => uptoBulk d + 1
 end
def uptoSmall : (H : Type) → List (DataW H) → Bool := fun _ ds => decide (uptoBulkAll ds ≤ 1048576)
def OpenSpec.upto (s : _root_.Go.ChangeSpec) : _root_.Go.OpenSpec := { _root_.Go.OpenSpec.ofChange s with cond := some uptoSmall }

/-- 'garrisonlaw02.RightsTells', WHERE WHAT IT READS IS OF BULK AT MOST 1048576: true; the input reads as it did. -/
def rightsTellsUptoRow : OpenClaim := { program := "ytepadldbhjbjaaadoor", sum := "c1e4cae1523349a7eae5dceeda8ca54902345f6c44a66b51728ac90a05ee4fb5", func := "garrison/garrisonlaw02.RightsTells", spec := "rightsTells", named := ["garrison/rights.inText"], apart := false, laid := [("garrison/rights.inText", laid_garrison_rights_inText)], narrowed := true }
def RightsTellsUptoSaid : Prop := rightsTellsUptoRow.holds Tryd.pinned (OpenSpec.upto rightsTellsSpec)

/-- 'garrisonlaw02.RightsMeets', WHERE WHAT IT READS IS OF BULK AT MOST 1048576: true; the input reads as it did. -/
def rightsMeetsUptoRow : OpenClaim := { program := "ytepadldbhjbjaaadoor", sum := "c1e4cae1523349a7eae5dceeda8ca54902345f6c44a66b51728ac90a05ee4fb5", func := "garrison/garrisonlaw02.RightsMeets", spec := "rightsMeets", named := ["garrison/rights.inText"], apart := false, laid := [("garrison/rights.inText", laid_garrison_rights_inText)], narrowed := true }
def RightsMeetsUptoSaid : Prop := rightsMeetsUptoRow.holds Tryd.pinned (OpenSpec.upto rightsMeetsSpec)

/-- 'garrisonlaw02.RightsOrder', WHERE WHAT IT READS IS OF BULK AT MOST 1048576: true; the input reads as it did. -/
def rightsOrderUptoRow : OpenClaim := { program := "ytepadldbhjbjaaadoor", sum := "c1e4cae1523349a7eae5dceeda8ca54902345f6c44a66b51728ac90a05ee4fb5", func := "garrison/garrisonlaw02.RightsOrder", spec := "rightsOrder", named := ["garrison/rights.inText"], apart := false, laid := [("garrison/rights.inText", laid_garrison_rights_inText)], narrowed := true }
def RightsOrderUptoSaid : Prop := rightsOrderUptoRow.holds Tryd.pinned (OpenSpec.upto rightsOrderSpec)

/-- 'garrisonlaw02.RightsLess', WHERE WHAT IT READS IS OF BULK AT MOST 1048576: true; the input reads as it did. -/
def rightsLessUptoRow : OpenClaim := { program := "ytepadldbhjbjaaadoor", sum := "c1e4cae1523349a7eae5dceeda8ca54902345f6c44a66b51728ac90a05ee4fb5", func := "garrison/garrisonlaw02.RightsLess", spec := "rightsLess", named := ["garrison/rights.inText"], apart := false, laid := [("garrison/rights.inText", laid_garrison_rights_inText)], narrowed := true }
def RightsLessUptoSaid : Prop := rightsLessUptoRow.holds Tryd.pinned (OpenSpec.upto rightsLessSpec)

/-- 'garrisonlaw02.RightsBack', WHERE WHAT IT READS IS OF BULK AT MOST 1048576: true; the input reads as it did. -/
def rightsBackUptoRow : OpenClaim := { program := "ytepadldbhjbjaaadoor", sum := "c1e4cae1523349a7eae5dceeda8ca54902345f6c44a66b51728ac90a05ee4fb5", func := "garrison/garrisonlaw02.RightsBack", spec := "rightsBack", named := ["garrison/rights.inText"], apart := false, laid := [("garrison/rights.inText", laid_garrison_rights_inText)], narrowed := true }
def RightsBackUptoSaid : Prop := rightsBackUptoRow.holds Tryd.pinned (OpenSpec.upto rightsBackSpec)

/-- 'garrisonlaw02.RightsMany', WHERE WHAT IT READS IS OF BULK AT MOST 1048576: true; the input reads as it did. -/
def rightsManyUptoRow : OpenClaim := { program := "ytepadldbhjbjaaadoor", sum := "c1e4cae1523349a7eae5dceeda8ca54902345f6c44a66b51728ac90a05ee4fb5", func := "garrison/garrisonlaw02.RightsMany", spec := "rightsMany", named := ["garrison/rights.inText"], apart := false, laid := [("garrison/rights.inText", laid_garrison_rights_inText)], narrowed := true }
def RightsManyUptoSaid : Prop := rightsManyUptoRow.holds Tryd.pinned (OpenSpec.upto rightsManySpec)

end Rows
end Go.Proofs.YtepadldbhjbjaaaDoor
