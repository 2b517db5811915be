/-
  DERIVED. GIVEN WITH THE SEED: THE CARDS: each row of YtgjkocbfpcgccabDoorRows.lean that lists a variable, with what it lists TIED to the program's text (the seventh form; the later family's looks); each row that meets fmt, with fmt's text TOLD by the authors' own Lean function (tested against real Go, not proved from fmt's source: count such statements apart). THE CARD IS WHAT COUNTS. Prove the row's statement (the work); the ties are given (YtgjkocbfpcgccabDoorTie.lean); close each card by the builder's one call (the guide's Derived/Test/ToyasCard.lean, 'card_holds'). Laid BY PROGRAM, IN A SANDBOX (cutbox-door.mjs). By AI agents, Wed Nov 11 2026. No macro, syntax, notation, axiom, sorry.
-/
import Derived.Test.YtgjkocbfpcgccabDoorRows
import GoSem.ClaimSeven
namespace Go.Proofs.YtgjkocbfpcgccabDoor
namespace Rows

/-- THE TIED CARD OF 'garrisonlaw03.CapTwice'. -/
def capTwiceCard : Claim7 := { stood := { row := capTwiceRow, standIns := [], harness := (true, "d7ae974292d012e1b5bc3a5a534a64b117dafc8cfe6f625ec65234a1a7f7b024"), looks := false }, kinds := [], alts := [], laidByText := true, laidKinds := [.data, .data, .data, .data, .data, .data, .data], laidTests := true, laidLooks := .later }
def CapTwiceCardSaid : Prop := Claim7.holds Tryd.pinned (.plain (OpenSpec.ofChange capTwiceSpec)) capTwiceCard

/-- THE TIED CARD OF 'garrisonlaw03.CapBits'. -/
def capBitsCard : Claim7 := { stood := { row := capBitsRow, standIns := [], harness := (true, "d7ae974292d012e1b5bc3a5a534a64b117dafc8cfe6f625ec65234a1a7f7b024"), looks := false }, kinds := [], alts := [], laidByText := true, laidKinds := [.data, .data, .data, .data, .data, .data, .data], laidTests := true, laidLooks := .later }
def CapBitsCardSaid : Prop := Claim7.holds Tryd.pinned (.plain (OpenSpec.ofChange capBitsSpec)) capBitsCard

/-- THE SECOND FORM's CARD OF 'garrisonlaw03.CapTwice'. -/
def capTwiceUptoCard : Claim7 := { stood := { row := capTwiceUptoRow, standIns := [], harness := (true, "d7ae974292d012e1b5bc3a5a534a64b117dafc8cfe6f625ec65234a1a7f7b024"), looks := false }, kinds := [], alts := [], laidByText := true, laidKinds := [.data, .data, .data, .data, .data, .data, .data], laidTests := true, laidLooks := .later }
def CapTwiceUptoCardSaid : Prop := Claim7.holds Tryd.pinned (.plain (OpenSpec.upto capTwiceSpec)) capTwiceUptoCard

/-- THE SECOND FORM's CARD OF 'garrisonlaw03.CapBits'. -/
def capBitsUptoCard : Claim7 := { stood := { row := capBitsUptoRow, standIns := [], harness := (true, "d7ae974292d012e1b5bc3a5a534a64b117dafc8cfe6f625ec65234a1a7f7b024"), looks := false }, kinds := [], alts := [], laidByText := true, laidKinds := [.data, .data, .data, .data, .data, .data, .data], laidTests := true, laidLooks := .later }
def CapBitsUptoCardSaid : Prop := Claim7.holds Tryd.pinned (.plain (OpenSpec.upto capBitsSpec)) capBitsUptoCard
end Rows
end Go.Proofs.YtgjkocbfpcgccabDoor
