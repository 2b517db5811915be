/-
  DERIVED. GIVEN WITH THE SEED: THE CARDS: each row of YtepadldbhjbjaabDoorRows.lean that lists a variable, with what it lists TIED to the program's text (the seventh form; the later family's looks); each row that meets fmt, with fmt's text TOLD by the authors' own Lean function (tested against real Go, not proved from fmt's source: count such statements apart). THE CARD IS WHAT COUNTS. Prove the row's statement (the work); the ties are given (YtepadldbhjbjaabDoorTie.lean); close each card by the builder's one call (the guide's Derived/Test/ToyasCard.lean, 'card_holds'). Laid BY PROGRAM, IN A SANDBOX (cutbox-door.mjs). By AI agents, Wed Nov 11 2026. No macro, syntax, notation, axiom, sorry.
-/
import Derived.Test.YtepadldbhjbjaabDoorRows
import GoSem.ClaimSeven
namespace Go.Proofs.YtepadldbhjbjaabDoor
namespace Rows

/-- THE TIED CARD OF 'garrisonlaw02.RightsChain'. -/
def rightsChainCard : Claim7 := { stood := { row := rightsChainRow, standIns := [], harness := (true, "a87eb04d82a5fe3fe10c06c2fc83e6951447240f90dd3cf2cca5d5667d9bae50"), looks := false }, kinds := [], alts := [], laidByText := true, laidKinds := [.data], laidTests := true, laidLooks := .later }
def RightsChainCardSaid : Prop := Claim7.holds Tryd.pinned (.plain (OpenSpec.ofChange rightsChainSpec)) rightsChainCard

/-- THE SECOND FORM's CARD OF 'garrisonlaw02.RightsChain'. -/
def rightsChainUptoCard : Claim7 := { stood := { row := rightsChainUptoRow, standIns := [], harness := (true, "a87eb04d82a5fe3fe10c06c2fc83e6951447240f90dd3cf2cca5d5667d9bae50"), looks := false }, kinds := [], alts := [], laidByText := true, laidKinds := [.data], laidTests := true, laidLooks := .later }
def RightsChainUptoCardSaid : Prop := Claim7.holds Tryd.pinned (.plain (OpenSpec.upto rightsChainSpec)) rightsChainUptoCard
end Rows
end Go.Proofs.YtepadldbhjbjaabDoor
