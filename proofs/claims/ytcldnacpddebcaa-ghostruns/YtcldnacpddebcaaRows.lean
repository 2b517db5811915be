/-
  No cell of these rows narrows 'for every input' (looked for: loops, veiled, ifaces, maps, wideKeys, modest, calm, conditions, laid).
  DERIVED. THE GIVEN ROWS OF THIS SEAT. 6 by the template 'for every input the law returns true; each argument reads behind the call as it read before'; 0 by the template 'total and deterministic' (their statements: YtcldnacpddebcaaTotals.lean).
  GIVEN WITH THE SEED: the statements are not yours to turn. If you find one false, say at which input.
  Laid BY PROGRAM, IN A SANDBOX (cutbox-rows.mjs): the forced cells as the released guide's own fill.sh prints them over the translation 58b4ae93d5661092… (all of the seat's roots in one cut). By AI agents, Wed Nov 11 2026. No macro, syntax, notation, axiom, sorry.
-/
import Derived.Test.YtcldnacpddebcaaChecked
import GoSem.Claim
import GoSem.ClaimJoined
import GoSem.ClaimMapViews
import Derived.JoinedTies
import Derived.KernelRfl
namespace Go.Proofs.Ytcldnacpddebcaa
/- THE CELL 'sum', in the pinned program and in every row, IS THE sha256 OF THE DUMP (.gsa) THAT YtcldnacpddebcaaProg.lean LOADS. Nothing in Lean hashes anything: it is a label: what it is worth is what the hold of that sum in a sandbox is worth. -/
noncomputable def Try.pinned : Pinned := { name := "ytcldnacpddebcaa", sum := "58b4ae93d5661092ac3e884386042fa48a3d0bbe1264753dd236cae1f3b3ff58", checked := Try.checked }
namespace Rows
def none {H : Type} : Left H := { results := [], args := [] }

/-- 'garrisonlaw14.GhostSteps': WHATEVER THE INPUT: true; the input reads as it did. -/
def ghostStepsSpec : ChangeSpec := { name := "ghostSteps", fn := fun _ => fun
  | [d1, d2, d3] => { results := [.lit (.bool true)], args := [d1, d2, d3] }
  | _ => none }
def ghostStepsRow : OpenClaim := { program := "ytcldnacpddebcaa", sum := "58b4ae93d5661092ac3e884386042fa48a3d0bbe1264753dd236cae1f3b3ff58", func := "garrison/garrisonlaw14.GhostSteps", spec := "ghostSteps", apart := false }
def GhostStepsSaid : Prop := ghostStepsRow.holds Try.pinned (OpenSpec.ofChange ghostStepsSpec)

/-- ITS FALSE NEIGHBOUR: 'it returns false'. Refute it at one input. -/
def ghostStepsWrong : ChangeSpec := { name := "ghostSteps", fn := fun _ => fun
  | [d1, d2, d3] => { results := [.lit (.bool false)], args := [d1, d2, d3] }
  | _ => none }
def GhostStepsWrongFalsely : Prop := ghostStepsRow.holds Try.pinned (OpenSpec.ofChange ghostStepsWrong)

/-- 'garrisonlaw14.GhostTells': WHATEVER THE INPUT: true; the input reads as it did. -/
def ghostTellsSpec : ChangeSpec := { name := "ghostTells", fn := fun _ => fun
  | [d1, d2, d3, d4] => { results := [.lit (.bool true)], args := [d1, d2, d3, d4] }
  | _ => none }
def ghostTellsRow : OpenClaim := { program := "ytcldnacpddebcaa", sum := "58b4ae93d5661092ac3e884386042fa48a3d0bbe1264753dd236cae1f3b3ff58", func := "garrison/garrisonlaw14.GhostTells", spec := "ghostTells", apart := false }
def GhostTellsSaid : Prop := ghostTellsRow.holds Try.pinned (OpenSpec.ofChange ghostTellsSpec)

/-- ITS FALSE NEIGHBOUR: 'it returns false'. Refute it at one input. -/
def ghostTellsWrong : ChangeSpec := { name := "ghostTells", fn := fun _ => fun
  | [d1, d2, d3, d4] => { results := [.lit (.bool false)], args := [d1, d2, d3, d4] }
  | _ => none }
def GhostTellsWrongFalsely : Prop := ghostTellsRow.holds Try.pinned (OpenSpec.ofChange ghostTellsWrong)

/-- 'garrisonlaw14.GhostRuns': WHATEVER THE INPUT: true; the input reads as it did. -/
def ghostRunsSpec : ChangeSpec := { name := "ghostRuns", fn := fun _ => fun
  | [d] => { results := [.lit (.bool true)], args := [d] }
  | _ => none }
def ghostRunsRow : OpenClaim := { program := "ytcldnacpddebcaa", sum := "58b4ae93d5661092ac3e884386042fa48a3d0bbe1264753dd236cae1f3b3ff58", func := "garrison/garrisonlaw14.GhostRuns", spec := "ghostRuns", apart := false }
def GhostRunsSaid : Prop := ghostRunsRow.holds Try.pinned (OpenSpec.ofChange ghostRunsSpec)

/-- ITS FALSE NEIGHBOUR: 'it returns false'. Refute it at one input. -/
def ghostRunsWrong : ChangeSpec := { name := "ghostRuns", fn := fun _ => fun
  | [d] => { results := [.lit (.bool false)], args := [d] }
  | _ => none }
def GhostRunsWrongFalsely : Prop := ghostRunsRow.holds Try.pinned (OpenSpec.ofChange ghostRunsWrong)

/-- 'garrisonlaw14.GhostTree': WHATEVER THE INPUT: true; the input reads as it did. -/
def ghostTreeSpec : ChangeSpec := { name := "ghostTree", fn := fun _ => fun
  | [d1, d2, d3] => { results := [.lit (.bool true)], args := [d1, d2, d3] }
  | _ => none }
def ghostTreeRow : OpenClaim := { program := "ytcldnacpddebcaa", sum := "58b4ae93d5661092ac3e884386042fa48a3d0bbe1264753dd236cae1f3b3ff58", func := "garrison/garrisonlaw14.GhostTree", spec := "ghostTree", unfollowed := true, recurses := true, apart := false }
def GhostTreeSaid : Prop := ghostTreeRow.holds Try.pinned (OpenSpec.ofChange ghostTreeSpec)

/-- ITS FALSE NEIGHBOUR: 'it returns false'. Refute it at one input. -/
def ghostTreeWrong : ChangeSpec := { name := "ghostTree", fn := fun _ => fun
  | [d1, d2, d3] => { results := [.lit (.bool false)], args := [d1, d2, d3] }
  | _ => none }
def GhostTreeWrongFalsely : Prop := ghostTreeRow.holds Try.pinned (OpenSpec.ofChange ghostTreeWrong)

/-- 'garrisonlaw14.GhostStays': WHATEVER THE INPUT: true; the input reads as it did. -/
def ghostStaysSpec : ChangeSpec := { name := "ghostStays", fn := fun _ => fun
  | [d1, d2, d3, d4] => { results := [.lit (.bool true)], args := [d1, d2, d3, d4] }
  | _ => none }
def ghostStaysRow : OpenClaim := { program := "ytcldnacpddebcaa", sum := "58b4ae93d5661092ac3e884386042fa48a3d0bbe1264753dd236cae1f3b3ff58", func := "garrison/garrisonlaw14.GhostStays", spec := "ghostStays", apart := false }
def GhostStaysSaid : Prop := ghostStaysRow.holds Try.pinned (OpenSpec.ofChange ghostStaysSpec)

/-- ITS FALSE NEIGHBOUR: 'it returns false'. Refute it at one input. -/
def ghostStaysWrong : ChangeSpec := { name := "ghostStays", fn := fun _ => fun
  | [d1, d2, d3, d4] => { results := [.lit (.bool false)], args := [d1, d2, d3, d4] }
  | _ => none }
def GhostStaysWrongFalsely : Prop := ghostStaysRow.holds Try.pinned (OpenSpec.ofChange ghostStaysWrong)

/-- 'garrisonlaw14.GhostOrder': WHATEVER THE INPUT: true; the input reads as it did. -/
def ghostOrderSpec : ChangeSpec := { name := "ghostOrder", fn := fun _ => fun
  | [d1, d2, d3, d4] => { results := [.lit (.bool true)], args := [d1, d2, d3, d4] }
  | _ => none }
def ghostOrderRow : OpenClaim := { program := "ytcldnacpddebcaa", sum := "58b4ae93d5661092ac3e884386042fa48a3d0bbe1264753dd236cae1f3b3ff58", func := "garrison/garrisonlaw14.GhostOrder", spec := "ghostOrder", apart := false }
def GhostOrderSaid : Prop := ghostOrderRow.holds Try.pinned (OpenSpec.ofChange ghostOrderSpec)

/-- ITS FALSE NEIGHBOUR: 'it returns false'. Refute it at one input. -/
def ghostOrderWrong : ChangeSpec := { name := "ghostOrder", fn := fun _ => fun
  | [d1, d2, d3, d4] => { results := [.lit (.bool false)], args := [d1, d2, d3, d4] }
  | _ => none }
def GhostOrderWrongFalsely : Prop := ghostOrderRow.holds Try.pinned (OpenSpec.ofChange ghostOrderWrong)

/- THE SECOND FORM. 'bulk': how many values and letters a reading holds, each counted each time it is reached (what is shared counts as often as it is met; a slice's spare places count too). A statement '..UptoSaid' is the law's where the arguments, and the package variables that the reading takes, are together of bulk at most 1048576: NARROWER than '..Said'. Prove '..Said' where nothing that the law and all that it calls make is longer than what came in: it says more and counts as full. Else prove '..UptoSaid'. A law counts once. -/
mutual
def uptoBulk {H : Type} : DataW H → Nat
  | .lit (.string bytes) => bytes.length + 1
  | .lit _ => 1
  | .nil => 1
  | .ptr d => uptoBulk d + 1
  | .slice elems spare => uptoBulkAll elems + uptoBulkAll spare + 1
  | .agg parts => uptoBulkAll parts + 1
  | .iface _ d => uptoBulk d + 1
  | .map entries => uptoBulkEntries entries + 1
  | .held _ => 1
def uptoBulkAll {H : Type} : List (DataW H) → Nat
  | [] => 0
  | d :: r => uptoBulk d + uptoBulkAll r
def uptoBulkEntries {H : Type} : List (Lit × DataW H) → Nat
  | [] => 0
  | x :: r => uptoBulkEntry x + uptoBulkEntries r
def uptoBulkEntry {H : Type} : Lit × DataW H → Nat
  | (.string bytes, d) => bytes.length + uptoBulk d + 1
  | (_, d) => uptoBulk d + 1
 end
def uptoSmall : (H : Type) → List (DataW H) → Bool := fun _ ds => decide (uptoBulkAll ds ≤ 1048576)
def OpenSpec.upto (s : _root_.Go.ChangeSpec) : _root_.Go.OpenSpec := { _root_.Go.OpenSpec.ofChange s with cond := some uptoSmall }

/-- 'garrisonlaw14.GhostSteps', WHERE WHAT IT READS IS OF BULK AT MOST 1048576: true; the input reads as it did. -/
def ghostStepsUptoRow : OpenClaim := { program := "ytcldnacpddebcaa", sum := "58b4ae93d5661092ac3e884386042fa48a3d0bbe1264753dd236cae1f3b3ff58", func := "garrison/garrisonlaw14.GhostSteps", spec := "ghostSteps", apart := false, narrowed := true }
def GhostStepsUptoSaid : Prop := ghostStepsUptoRow.holds Try.pinned (OpenSpec.upto ghostStepsSpec)

/-- 'garrisonlaw14.GhostTells', WHERE WHAT IT READS IS OF BULK AT MOST 1048576: true; the input reads as it did. -/
def ghostTellsUptoRow : OpenClaim := { program := "ytcldnacpddebcaa", sum := "58b4ae93d5661092ac3e884386042fa48a3d0bbe1264753dd236cae1f3b3ff58", func := "garrison/garrisonlaw14.GhostTells", spec := "ghostTells", apart := false, narrowed := true }
def GhostTellsUptoSaid : Prop := ghostTellsUptoRow.holds Try.pinned (OpenSpec.upto ghostTellsSpec)

/-- 'garrisonlaw14.GhostRuns', WHERE WHAT IT READS IS OF BULK AT MOST 1048576: true; the input reads as it did. -/
def ghostRunsUptoRow : OpenClaim := { program := "ytcldnacpddebcaa", sum := "58b4ae93d5661092ac3e884386042fa48a3d0bbe1264753dd236cae1f3b3ff58", func := "garrison/garrisonlaw14.GhostRuns", spec := "ghostRuns", apart := false, narrowed := true }
def GhostRunsUptoSaid : Prop := ghostRunsUptoRow.holds Try.pinned (OpenSpec.upto ghostRunsSpec)

/-- 'garrisonlaw14.GhostTree', WHERE WHAT IT READS IS OF BULK AT MOST 1048576: true; the input reads as it did. -/
def ghostTreeUptoRow : OpenClaim := { program := "ytcldnacpddebcaa", sum := "58b4ae93d5661092ac3e884386042fa48a3d0bbe1264753dd236cae1f3b3ff58", func := "garrison/garrisonlaw14.GhostTree", spec := "ghostTree", unfollowed := true, recurses := true, apart := false, narrowed := true }
def GhostTreeUptoSaid : Prop := ghostTreeUptoRow.holds Try.pinned (OpenSpec.upto ghostTreeSpec)

/-- 'garrisonlaw14.GhostStays', WHERE WHAT IT READS IS OF BULK AT MOST 1048576: true; the input reads as it did. -/
def ghostStaysUptoRow : OpenClaim := { program := "ytcldnacpddebcaa", sum := "58b4ae93d5661092ac3e884386042fa48a3d0bbe1264753dd236cae1f3b3ff58", func := "garrison/garrisonlaw14.GhostStays", spec := "ghostStays", apart := false, narrowed := true }
def GhostStaysUptoSaid : Prop := ghostStaysUptoRow.holds Try.pinned (OpenSpec.upto ghostStaysSpec)

/-- 'garrisonlaw14.GhostOrder', WHERE WHAT IT READS IS OF BULK AT MOST 1048576: true; the input reads as it did. -/
def ghostOrderUptoRow : OpenClaim := { program := "ytcldnacpddebcaa", sum := "58b4ae93d5661092ac3e884386042fa48a3d0bbe1264753dd236cae1f3b3ff58", func := "garrison/garrisonlaw14.GhostOrder", spec := "ghostOrder", apart := false, narrowed := true }
def GhostOrderUptoSaid : Prop := ghostOrderUptoRow.holds Try.pinned (OpenSpec.upto ghostOrderSpec)

end Rows
end Go.Proofs.Ytcldnacpddebcaa
