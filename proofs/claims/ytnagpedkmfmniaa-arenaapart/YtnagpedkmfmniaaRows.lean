/-
  No cell of these rows narrows 'for every input' (looked for: loops, veiled, ifaces, maps, wideKeys, modest, calm, conditions, laid).
  DERIVED. THE GIVEN ROWS OF THIS SEAT. 6 by the template 'for every input the law returns true; each argument reads behind the call as it read before'; 0 by the template 'total and deterministic' (their statements: YtnagpedkmfmniaaTotals.lean).
  GIVEN WITH THE SEED: the statements are not yours to turn. If you find one false, say at which input.
  Laid BY PROGRAM, IN A SANDBOX (cutbox-rows.mjs): the forced cells as the released guide's own fill.sh prints them over the translation ef9fe60012835de5… (all of the seat's roots in one cut). By AI agents, Wed Nov 11 2026. No macro, syntax, notation, axiom, sorry.
-/
import Derived.Test.YtnagpedkmfmniaaChecked
import GoSem.Claim
import GoSem.ClaimJoined
import GoSem.ClaimMapViews
import Derived.JoinedTies
import Derived.KernelRfl
namespace Go.Proofs.Ytnagpedkmfmniaa
/- THE CELL 'sum', in the pinned program and in every row, IS THE sha256 OF THE DUMP (.gsa) THAT YtnagpedkmfmniaaProg.lean LOADS. Nothing in Lean hashes anything: it is a label: what it is worth is what the hold of that sum in a sandbox is worth. -/
noncomputable def Try.pinned : Pinned := { name := "ytnagpedkmfmniaa", sum := "ef9fe60012835de57870f697e0d19f147545f004c1fb97cee59c9cff63dd342e", checked := Try.checked }
namespace Rows
def none {H : Type} : Left H := { results := [], args := [] }

/-- 'garrisonlaw09.ArenaStarts': WHATEVER THE INPUT: true; the input reads as it did. -/
def arenaStartsSpec : ChangeSpec := { name := "arenaStarts", fn := fun _ => fun
  | [d1, d2, d3, d4, d5] => { results := [.lit (.bool true)], args := [d1, d2, d3, d4, d5] }
  | _ => none }
def arenaStartsRow : OpenClaim := { program := "ytnagpedkmfmniaa", sum := "ef9fe60012835de57870f697e0d19f147545f004c1fb97cee59c9cff63dd342e", func := "garrison/garrisonlaw09.ArenaStarts", spec := "arenaStarts", unfollowed := true, recurses := true, apart := false }
def ArenaStartsSaid : Prop := arenaStartsRow.holds Try.pinned (OpenSpec.ofChange arenaStartsSpec)

/-- ITS FALSE NEIGHBOUR: 'it returns false'. Refute it at one input. -/
def arenaStartsWrong : ChangeSpec := { name := "arenaStarts", fn := fun _ => fun
  | [d1, d2, d3, d4, d5] => { results := [.lit (.bool false)], args := [d1, d2, d3, d4, d5] }
  | _ => none }
def ArenaStartsWrongFalsely : Prop := arenaStartsRow.holds Try.pinned (OpenSpec.ofChange arenaStartsWrong)

/-- 'garrisonlaw09.ArenaSteps': WHATEVER THE INPUT: true; the input reads as it did. -/
def arenaStepsSpec : ChangeSpec := { name := "arenaSteps", fn := fun _ => fun
  | [d1, d2] => { results := [.lit (.bool true)], args := [d1, d2] }
  | _ => none }
def arenaStepsRow : OpenClaim := { program := "ytnagpedkmfmniaa", sum := "ef9fe60012835de57870f697e0d19f147545f004c1fb97cee59c9cff63dd342e", func := "garrison/garrisonlaw09.ArenaSteps", spec := "arenaSteps", unfollowed := true, recurses := true, apart := false }
def ArenaStepsSaid : Prop := arenaStepsRow.holds Try.pinned (OpenSpec.ofChange arenaStepsSpec)

/-- ITS FALSE NEIGHBOUR: 'it returns false'. Refute it at one input. -/
def arenaStepsWrong : ChangeSpec := { name := "arenaSteps", fn := fun _ => fun
  | [d1, d2] => { results := [.lit (.bool false)], args := [d1, d2] }
  | _ => none }
def ArenaStepsWrongFalsely : Prop := arenaStepsRow.holds Try.pinned (OpenSpec.ofChange arenaStepsWrong)

/-- 'garrisonlaw09.ArenaRuns': WHATEVER THE INPUT: true; the input reads as it did. -/
def arenaRunsSpec : ChangeSpec := { name := "arenaRuns", fn := fun _ => fun
  | [d1, d2, d3] => { results := [.lit (.bool true)], args := [d1, d2, d3] }
  | _ => none }
def arenaRunsRow : OpenClaim := { program := "ytnagpedkmfmniaa", sum := "ef9fe60012835de57870f697e0d19f147545f004c1fb97cee59c9cff63dd342e", func := "garrison/garrisonlaw09.ArenaRuns", spec := "arenaRuns", unfollowed := true, recurses := true, apart := false }
def ArenaRunsSaid : Prop := arenaRunsRow.holds Try.pinned (OpenSpec.ofChange arenaRunsSpec)

/-- ITS FALSE NEIGHBOUR: 'it returns false'. Refute it at one input. -/
def arenaRunsWrong : ChangeSpec := { name := "arenaRuns", fn := fun _ => fun
  | [d1, d2, d3] => { results := [.lit (.bool false)], args := [d1, d2, d3] }
  | _ => none }
def ArenaRunsWrongFalsely : Prop := arenaRunsRow.holds Try.pinned (OpenSpec.ofChange arenaRunsWrong)

/-- 'garrisonlaw09.ArenaStates': WHATEVER THE INPUT: true; the input reads as it did. -/
def arenaStatesSpec : ChangeSpec := { name := "arenaStates", fn := fun _ => fun
  | [d1, d2] => { results := [.lit (.bool true)], args := [d1, d2] }
  | _ => none }
def arenaStatesRow : OpenClaim := { program := "ytnagpedkmfmniaa", sum := "ef9fe60012835de57870f697e0d19f147545f004c1fb97cee59c9cff63dd342e", func := "garrison/garrisonlaw09.ArenaStates", spec := "arenaStates", unfollowed := true, recurses := true, apart := false }
def ArenaStatesSaid : Prop := arenaStatesRow.holds Try.pinned (OpenSpec.ofChange arenaStatesSpec)

/-- ITS FALSE NEIGHBOUR: 'it returns false'. Refute it at one input. -/
def arenaStatesWrong : ChangeSpec := { name := "arenaStates", fn := fun _ => fun
  | [d1, d2] => { results := [.lit (.bool false)], args := [d1, d2] }
  | _ => none }
def ArenaStatesWrongFalsely : Prop := arenaStatesRow.holds Try.pinned (OpenSpec.ofChange arenaStatesWrong)

/-- 'garrisonlaw09.ArenaApart': WHATEVER THE INPUT: true; the input reads as it did. -/
def arenaApartSpec : ChangeSpec := { name := "arenaApart", fn := fun _ => fun
  | [d1, d2, d3] => { results := [.lit (.bool true)], args := [d1, d2, d3] }
  | _ => none }
def arenaApartRow : OpenClaim := { program := "ytnagpedkmfmniaa", sum := "ef9fe60012835de57870f697e0d19f147545f004c1fb97cee59c9cff63dd342e", func := "garrison/garrisonlaw09.ArenaApart", spec := "arenaApart", unfollowed := true, recurses := true, apart := false }
def ArenaApartSaid : Prop := arenaApartRow.holds Try.pinned (OpenSpec.ofChange arenaApartSpec)

/-- ITS FALSE NEIGHBOUR: 'it returns false'. Refute it at one input. -/
def arenaApartWrong : ChangeSpec := { name := "arenaApart", fn := fun _ => fun
  | [d1, d2, d3] => { results := [.lit (.bool false)], args := [d1, d2, d3] }
  | _ => none }
def ArenaApartWrongFalsely : Prop := arenaApartRow.holds Try.pinned (OpenSpec.ofChange arenaApartWrong)

/-- 'garrisonlaw09.ArenaAll': WHATEVER THE INPUT: true; the input reads as it did. -/
def arenaAllSpec : ChangeSpec := { name := "arenaAll", fn := fun _ => fun
  | [d1, d2, d3] => { results := [.lit (.bool true)], args := [d1, d2, d3] }
  | _ => none }
def arenaAllRow : OpenClaim := { program := "ytnagpedkmfmniaa", sum := "ef9fe60012835de57870f697e0d19f147545f004c1fb97cee59c9cff63dd342e", func := "garrison/garrisonlaw09.ArenaAll", spec := "arenaAll", unfollowed := true, recurses := true, apart := false }
def ArenaAllSaid : Prop := arenaAllRow.holds Try.pinned (OpenSpec.ofChange arenaAllSpec)

/-- ITS FALSE NEIGHBOUR: 'it returns false'. Refute it at one input. -/
def arenaAllWrong : ChangeSpec := { name := "arenaAll", fn := fun _ => fun
  | [d1, d2, d3] => { results := [.lit (.bool false)], args := [d1, d2, d3] }
  | _ => none }
def ArenaAllWrongFalsely : Prop := arenaAllRow.holds Try.pinned (OpenSpec.ofChange arenaAllWrong)

/- THE SECOND FORM. 'bulk': how many values and letters a reading holds, each counted each time it is reached (what is shared counts as often as it is met; a slice's spare places count too). A statement '..UptoSaid' is the law's where the arguments, and the package variables that the reading takes, are together of bulk at most 1048576: NARROWER than '..Said'. Prove '..Said' where nothing that the law and all that it calls make is longer than what came in: it says more and counts as full. Else prove '..UptoSaid'. A law counts once. -/
mutual
def uptoBulk {H : Type} : DataW H → Nat
  | .lit (.string bytes) => bytes.length + 1
  | .lit _ => 1
  | .nil => 1
  | .ptr d => uptoBulk d + 1
  | .slice elems spare => uptoBulkAll elems + uptoBulkAll spare + 1
  | .agg parts => uptoBulkAll parts + 1
  | .iface _ d => uptoBulk d + 1
  | .map entries => uptoBulkEntries entries + 1
  | .held _ => 1
def uptoBulkAll {H : Type} : List (DataW H) → Nat
  | [] => 0
  | d :: r => uptoBulk d + uptoBulkAll r
def uptoBulkEntries {H : Type} : List (Lit × DataW H) → Nat
  | [] => 0
  | x :: r => uptoBulkEntry x + uptoBulkEntries r
def uptoBulkEntry {H : Type} : Lit × DataW H → Nat
  | (.string bytes, d) => bytes.length + uptoBulk d + 1
  | (_, d) => uptoBulk d + 1
 end
def uptoSmall : (H : Type) → List (DataW H) → Bool := fun _ ds => decide (uptoBulkAll ds ≤ 1048576)
def OpenSpec.upto (s : _root_.Go.ChangeSpec) : _root_.Go.OpenSpec := { _root_.Go.OpenSpec.ofChange s with cond := some uptoSmall }

/-- 'garrisonlaw09.ArenaStarts', WHERE WHAT IT READS IS OF BULK AT MOST 1048576: true; the input reads as it did. -/
def arenaStartsUptoRow : OpenClaim := { program := "ytnagpedkmfmniaa", sum := "ef9fe60012835de57870f697e0d19f147545f004c1fb97cee59c9cff63dd342e", func := "garrison/garrisonlaw09.ArenaStarts", spec := "arenaStarts", unfollowed := true, recurses := true, apart := false, narrowed := true }
def ArenaStartsUptoSaid : Prop := arenaStartsUptoRow.holds Try.pinned (OpenSpec.upto arenaStartsSpec)

/-- 'garrisonlaw09.ArenaSteps', WHERE WHAT IT READS IS OF BULK AT MOST 1048576: true; the input reads as it did. -/
def arenaStepsUptoRow : OpenClaim := { program := "ytnagpedkmfmniaa", sum := "ef9fe60012835de57870f697e0d19f147545f004c1fb97cee59c9cff63dd342e", func := "garrison/garrisonlaw09.ArenaSteps", spec := "arenaSteps", unfollowed := true, recurses := true, apart := false, narrowed := true }
def ArenaStepsUptoSaid : Prop := arenaStepsUptoRow.holds Try.pinned (OpenSpec.upto arenaStepsSpec)

/-- 'garrisonlaw09.ArenaRuns', WHERE WHAT IT READS IS OF BULK AT MOST 1048576: true; the input reads as it did. -/
def arenaRunsUptoRow : OpenClaim := { program := "ytnagpedkmfmniaa", sum := "ef9fe60012835de57870f697e0d19f147545f004c1fb97cee59c9cff63dd342e", func := "garrison/garrisonlaw09.ArenaRuns", spec := "arenaRuns", unfollowed := true, recurses := true, apart := false, narrowed := true }
def ArenaRunsUptoSaid : Prop := arenaRunsUptoRow.holds Try.pinned (OpenSpec.upto arenaRunsSpec)

/-- 'garrisonlaw09.ArenaStates', WHERE WHAT IT READS IS OF BULK AT MOST 1048576: true; the input reads as it did. -/
def arenaStatesUptoRow : OpenClaim := { program := "ytnagpedkmfmniaa", sum := "ef9fe60012835de57870f697e0d19f147545f004c1fb97cee59c9cff63dd342e", func := "garrison/garrisonlaw09.ArenaStates", spec := "arenaStates", unfollowed := true, recurses := true, apart := false, narrowed := true }
def ArenaStatesUptoSaid : Prop := arenaStatesUptoRow.holds Try.pinned (OpenSpec.upto arenaStatesSpec)

/-- 'garrisonlaw09.ArenaApart', WHERE WHAT IT READS IS OF BULK AT MOST 1048576: true; the input reads as it did. -/
def arenaApartUptoRow : OpenClaim := { program := "ytnagpedkmfmniaa", sum := "ef9fe60012835de57870f697e0d19f147545f004c1fb97cee59c9cff63dd342e", func := "garrison/garrisonlaw09.ArenaApart", spec := "arenaApart", unfollowed := true, recurses := true, apart := false, narrowed := true }
def ArenaApartUptoSaid : Prop := arenaApartUptoRow.holds Try.pinned (OpenSpec.upto arenaApartSpec)

/-- 'garrisonlaw09.ArenaAll', WHERE WHAT IT READS IS OF BULK AT MOST 1048576: true; the input reads as it did. -/
def arenaAllUptoRow : OpenClaim := { program := "ytnagpedkmfmniaa", sum := "ef9fe60012835de57870f697e0d19f147545f004c1fb97cee59c9cff63dd342e", func := "garrison/garrisonlaw09.ArenaAll", spec := "arenaAll", unfollowed := true, recurses := true, apart := false, narrowed := true }
def ArenaAllUptoSaid : Prop := arenaAllUptoRow.holds Try.pinned (OpenSpec.upto arenaAllSpec)

end Rows
end Go.Proofs.Ytnagpedkmfmniaa
