/-
  No cell of these rows narrows 'for every input' (looked for: loops, veiled, ifaces, maps, wideKeys, modest, calm, conditions, laid).
  DERIVED. THE GIVEN ROWS OF THIS SEAT. 6 by the template 'for every input the law returns true; each argument reads behind the call as it read before'; 0 by the template 'total and deterministic' (their statements: YthhbifcgilkddaaTotals.lean).
  GIVEN WITH THE SEED: the statements are not yours to turn. If you find one false, say at which input.
  Laid BY PROGRAM, IN A SANDBOX (cutbox-rows.mjs): the forced cells as the released guide's own fill.sh prints them over the translation a9da870c8f01c0b8… (all of the seat's roots in one cut). By AI agents, Wed Nov 11 2026. No macro, syntax, notation, axiom, sorry.
-/
import Derived.Test.YthhbifcgilkddaaChecked
import GoSem.Claim
import GoSem.ClaimJoined
import GoSem.ClaimMapViews
import Derived.JoinedTies
import Derived.KernelRfl
namespace Go.Proofs.Ythhbifcgilkddaa
/- THE CELL 'sum', in the pinned program and in every row, IS THE sha256 OF THE DUMP (.gsa) THAT YthhbifcgilkddaaProg.lean LOADS. Nothing in Lean hashes anything: it is a label: what it is worth is what the hold of that sum in a sandbox is worth. -/
noncomputable def Try.pinned : Pinned := { name := "ythhbifcgilkddaa", sum := "a9da870c8f01c0b8254c0c17131f7a72f56cce37c01eb2a61cdfe5ed9fce1369", checked := Try.checked }
namespace Rows
def none {H : Type} : Left H := { results := [], args := [] }

/-- 'garrisonlaw08.HandleWords': WHATEVER THE INPUT: true; the input reads as it did. -/
def handleWordsSpec : ChangeSpec := { name := "handleWords", fn := fun _ => fun
  | [d1, d2, d3] => { results := [.lit (.bool true)], args := [d1, d2, d3] }
  | _ => none }
def handleWordsRow : OpenClaim := { program := "ythhbifcgilkddaa", sum := "a9da870c8f01c0b8254c0c17131f7a72f56cce37c01eb2a61cdfe5ed9fce1369", func := "garrison/garrisonlaw08.HandleWords", spec := "handleWords", apart := false }
def HandleWordsSaid : Prop := handleWordsRow.holds Try.pinned (OpenSpec.ofChange handleWordsSpec)

/-- ITS FALSE NEIGHBOUR: 'it returns false'. Refute it at one input. -/
def handleWordsWrong : ChangeSpec := { name := "handleWords", fn := fun _ => fun
  | [d1, d2, d3] => { results := [.lit (.bool false)], args := [d1, d2, d3] }
  | _ => none }
def HandleWordsWrongFalsely : Prop := handleWordsRow.holds Try.pinned (OpenSpec.ofChange handleWordsWrong)

/-- 'garrisonlaw08.HandleTells': WHATEVER THE INPUT: true; the input reads as it did. -/
def handleTellsSpec : ChangeSpec := { name := "handleTells", fn := fun _ => fun
  | [d1, d2, d3] => { results := [.lit (.bool true)], args := [d1, d2, d3] }
  | _ => none }
def handleTellsRow : OpenClaim := { program := "ythhbifcgilkddaa", sum := "a9da870c8f01c0b8254c0c17131f7a72f56cce37c01eb2a61cdfe5ed9fce1369", func := "garrison/garrisonlaw08.HandleTells", spec := "handleTells", apart := false }
def HandleTellsSaid : Prop := handleTellsRow.holds Try.pinned (OpenSpec.ofChange handleTellsSpec)

/-- ITS FALSE NEIGHBOUR: 'it returns false'. Refute it at one input. -/
def handleTellsWrong : ChangeSpec := { name := "handleTells", fn := fun _ => fun
  | [d1, d2, d3] => { results := [.lit (.bool false)], args := [d1, d2, d3] }
  | _ => none }
def HandleTellsWrongFalsely : Prop := handleTellsRow.holds Try.pinned (OpenSpec.ofChange handleTellsWrong)

/-- 'garrisonlaw08.HandleBack': WHATEVER THE INPUT: true; the input reads as it did. -/
def handleBackSpec : ChangeSpec := { name := "handleBack", fn := fun _ => fun
  | [d1, d2, d3, d4, d5] => { results := [.lit (.bool true)], args := [d1, d2, d3, d4, d5] }
  | _ => none }
def handleBackRow : OpenClaim := { program := "ythhbifcgilkddaa", sum := "a9da870c8f01c0b8254c0c17131f7a72f56cce37c01eb2a61cdfe5ed9fce1369", func := "garrison/garrisonlaw08.HandleBack", spec := "handleBack", apart := false }
def HandleBackSaid : Prop := handleBackRow.holds Try.pinned (OpenSpec.ofChange handleBackSpec)

/-- ITS FALSE NEIGHBOUR: 'it returns false'. Refute it at one input. -/
def handleBackWrong : ChangeSpec := { name := "handleBack", fn := fun _ => fun
  | [d1, d2, d3, d4, d5] => { results := [.lit (.bool false)], args := [d1, d2, d3, d4, d5] }
  | _ => none }
def HandleBackWrongFalsely : Prop := handleBackRow.holds Try.pinned (OpenSpec.ofChange handleBackWrong)

/-- 'garrisonlaw08.HandleNever': WHATEVER THE INPUT: true; the input reads as it did. -/
def handleNeverSpec : ChangeSpec := { name := "handleNever", fn := fun _ => fun
  | [d1, d2, d3] => { results := [.lit (.bool true)], args := [d1, d2, d3] }
  | _ => none }
def handleNeverRow : OpenClaim := { program := "ythhbifcgilkddaa", sum := "a9da870c8f01c0b8254c0c17131f7a72f56cce37c01eb2a61cdfe5ed9fce1369", func := "garrison/garrisonlaw08.HandleNever", spec := "handleNever", apart := false }
def HandleNeverSaid : Prop := handleNeverRow.holds Try.pinned (OpenSpec.ofChange handleNeverSpec)

/-- ITS FALSE NEIGHBOUR: 'it returns false'. Refute it at one input. -/
def handleNeverWrong : ChangeSpec := { name := "handleNever", fn := fun _ => fun
  | [d1, d2, d3] => { results := [.lit (.bool false)], args := [d1, d2, d3] }
  | _ => none }
def HandleNeverWrongFalsely : Prop := handleNeverRow.holds Try.pinned (OpenSpec.ofChange handleNeverWrong)

/-- 'garrisonlaw08.HandleRetires': WHATEVER THE INPUT: true; the input reads as it did. -/
def handleRetiresSpec : ChangeSpec := { name := "handleRetires", fn := fun _ => fun
  | [d] => { results := [.lit (.bool true)], args := [d] }
  | _ => none }
def handleRetiresRow : OpenClaim := { program := "ythhbifcgilkddaa", sum := "a9da870c8f01c0b8254c0c17131f7a72f56cce37c01eb2a61cdfe5ed9fce1369", func := "garrison/garrisonlaw08.HandleRetires", spec := "handleRetires", apart := false }
def HandleRetiresSaid : Prop := handleRetiresRow.holds Try.pinned (OpenSpec.ofChange handleRetiresSpec)

/-- ITS FALSE NEIGHBOUR: 'it returns false'. Refute it at one input. -/
def handleRetiresWrong : ChangeSpec := { name := "handleRetires", fn := fun _ => fun
  | [d] => { results := [.lit (.bool false)], args := [d] }
  | _ => none }
def HandleRetiresWrongFalsely : Prop := handleRetiresRow.holds Try.pinned (OpenSpec.ofChange handleRetiresWrong)

/-- 'garrisonlaw08.HandleOnly': WHATEVER THE INPUT: true; the input reads as it did. -/
def handleOnlySpec : ChangeSpec := { name := "handleOnly", fn := fun _ => fun
  | [d1, d2] => { results := [.lit (.bool true)], args := [d1, d2] }
  | _ => none }
def handleOnlyRow : OpenClaim := { program := "ythhbifcgilkddaa", sum := "a9da870c8f01c0b8254c0c17131f7a72f56cce37c01eb2a61cdfe5ed9fce1369", func := "garrison/garrisonlaw08.HandleOnly", spec := "handleOnly", apart := false }
def HandleOnlySaid : Prop := handleOnlyRow.holds Try.pinned (OpenSpec.ofChange handleOnlySpec)

/-- ITS FALSE NEIGHBOUR: 'it returns false'. Refute it at one input. -/
def handleOnlyWrong : ChangeSpec := { name := "handleOnly", fn := fun _ => fun
  | [d1, d2] => { results := [.lit (.bool false)], args := [d1, d2] }
  | _ => none }
def HandleOnlyWrongFalsely : Prop := handleOnlyRow.holds Try.pinned (OpenSpec.ofChange handleOnlyWrong)

/- THE SECOND FORM. 'bulk': how many values and letters a reading holds, each counted each time it is reached (what is shared counts as often as it is met; a slice's spare places count too). A statement '..UptoSaid' is the law's where the arguments, and the package variables that the reading takes, are together of bulk at most 1048576: NARROWER than '..Said'. Prove '..Said' where nothing that the law and all that it calls make is longer than what came in: it says more and counts as full. Else prove '..UptoSaid'. A law counts once. -/
mutual
def uptoBulk {H : Type} : DataW H → Nat
  | .lit (.string bytes) => bytes.length + 1
  | .lit _ => 1
  | .nil => 1
  | .ptr d => uptoBulk d + 1
  | .slice elems spare => uptoBulkAll elems + uptoBulkAll spare + 1
  | .agg parts => uptoBulkAll parts + 1
  | .iface _ d => uptoBulk d + 1
  | .map entries => uptoBulkEntries entries + 1
  | .held _ => 1
def uptoBulkAll {H : Type} : List (DataW H) → Nat
  | [] => 0
  | d :: r => uptoBulk d + uptoBulkAll r
def uptoBulkEntries {H : Type} : List (Lit × DataW H) → Nat
  | [] => 0
  | x :: r => uptoBulkEntry x + uptoBulkEntries r
def uptoBulkEntry {H : Type} : Lit × DataW H → Nat
  | (.string bytes, d) => bytes.length + uptoBulk d + 1
  | (_, d) => uptoBulk d + 1
 end
def uptoSmall : (H : Type) → List (DataW H) → Bool := fun _ ds => decide (uptoBulkAll ds ≤ 1048576)
def OpenSpec.upto (s : _root_.Go.ChangeSpec) : _root_.Go.OpenSpec := { _root_.Go.OpenSpec.ofChange s with cond := some uptoSmall }

/-- 'garrisonlaw08.HandleWords', WHERE WHAT IT READS IS OF BULK AT MOST 1048576: true; the input reads as it did. -/
def handleWordsUptoRow : OpenClaim := { program := "ythhbifcgilkddaa", sum := "a9da870c8f01c0b8254c0c17131f7a72f56cce37c01eb2a61cdfe5ed9fce1369", func := "garrison/garrisonlaw08.HandleWords", spec := "handleWords", apart := false, narrowed := true }
def HandleWordsUptoSaid : Prop := handleWordsUptoRow.holds Try.pinned (OpenSpec.upto handleWordsSpec)

/-- 'garrisonlaw08.HandleTells', WHERE WHAT IT READS IS OF BULK AT MOST 1048576: true; the input reads as it did. -/
def handleTellsUptoRow : OpenClaim := { program := "ythhbifcgilkddaa", sum := "a9da870c8f01c0b8254c0c17131f7a72f56cce37c01eb2a61cdfe5ed9fce1369", func := "garrison/garrisonlaw08.HandleTells", spec := "handleTells", apart := false, narrowed := true }
def HandleTellsUptoSaid : Prop := handleTellsUptoRow.holds Try.pinned (OpenSpec.upto handleTellsSpec)

/-- 'garrisonlaw08.HandleBack', WHERE WHAT IT READS IS OF BULK AT MOST 1048576: true; the input reads as it did. -/
def handleBackUptoRow : OpenClaim := { program := "ythhbifcgilkddaa", sum := "a9da870c8f01c0b8254c0c17131f7a72f56cce37c01eb2a61cdfe5ed9fce1369", func := "garrison/garrisonlaw08.HandleBack", spec := "handleBack", apart := false, narrowed := true }
def HandleBackUptoSaid : Prop := handleBackUptoRow.holds Try.pinned (OpenSpec.upto handleBackSpec)

/-- 'garrisonlaw08.HandleNever', WHERE WHAT IT READS IS OF BULK AT MOST 1048576: true; the input reads as it did. -/
def handleNeverUptoRow : OpenClaim := { program := "ythhbifcgilkddaa", sum := "a9da870c8f01c0b8254c0c17131f7a72f56cce37c01eb2a61cdfe5ed9fce1369", func := "garrison/garrisonlaw08.HandleNever", spec := "handleNever", apart := false, narrowed := true }
def HandleNeverUptoSaid : Prop := handleNeverUptoRow.holds Try.pinned (OpenSpec.upto handleNeverSpec)

/-- 'garrisonlaw08.HandleRetires', WHERE WHAT IT READS IS OF BULK AT MOST 1048576: true; the input reads as it did. -/
def handleRetiresUptoRow : OpenClaim := { program := "ythhbifcgilkddaa", sum := "a9da870c8f01c0b8254c0c17131f7a72f56cce37c01eb2a61cdfe5ed9fce1369", func := "garrison/garrisonlaw08.HandleRetires", spec := "handleRetires", apart := false, narrowed := true }
def HandleRetiresUptoSaid : Prop := handleRetiresUptoRow.holds Try.pinned (OpenSpec.upto handleRetiresSpec)

/-- 'garrisonlaw08.HandleOnly', WHERE WHAT IT READS IS OF BULK AT MOST 1048576: true; the input reads as it did. -/
def handleOnlyUptoRow : OpenClaim := { program := "ythhbifcgilkddaa", sum := "a9da870c8f01c0b8254c0c17131f7a72f56cce37c01eb2a61cdfe5ed9fce1369", func := "garrison/garrisonlaw08.HandleOnly", spec := "handleOnly", apart := false, narrowed := true }
def HandleOnlyUptoSaid : Prop := handleOnlyUptoRow.holds Try.pinned (OpenSpec.upto handleOnlySpec)

end Rows
end Go.Proofs.Ythhbifcgilkddaa
