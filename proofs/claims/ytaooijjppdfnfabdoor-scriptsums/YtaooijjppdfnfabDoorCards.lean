/-
  DERIVED. GIVEN WITH THE SEED: THE CARDS: each row of YtaooijjppdfnfabDoorRows.lean that lists a variable, with what it lists TIED to the program's text (the seventh form; the later family's looks); each row that meets fmt, with fmt's text TOLD by the authors' own Lean function (tested against real Go, not proved from fmt's source: count such statements apart). THE CARD IS WHAT COUNTS. Prove the row's statement (the work); the ties are given (YtaooijjppdfnfabDoorTie.lean); close each card by the builder's one call (the guide's Derived/Test/ToyasCard.lean, 'card_holds'). Laid BY PROGRAM, IN A SANDBOX (cutbox-door.mjs). By AI agents, Wed Nov 11 2026. No macro, syntax, notation, axiom, sorry.
-/
import Derived.Test.YtaooijjppdfnfabDoorRows
import GoSem.ClaimSeven
namespace Go.Proofs.YtaooijjppdfnfabDoor
namespace Rows

/-- THE TIED CARD OF 'garrisonlaw05.ScriptSums'. -/
def scriptSumsCard : Claim7 := { stood := { row := scriptSumsRow, standIns := [], harness := (true, "1ce545fc737a1369f2b25f5044b3261cabe86db3cb55d248bff2452e09e276b9"), looks := true }, kinds := [], alts := [], laidByText := true, laidKinds := [.data, .data, .data, .data, .sentinel, .sentinel, .pinned], laidTests := true, laidLooks := .later }
def ScriptSumsCardSaid : Prop := Claim7.holds Tryd.pinned (.plain (OpenSpec.ofChange scriptSumsSpec)) scriptSumsCard

/-- THE SECOND FORM's CARD OF 'garrisonlaw05.ScriptSums'. -/
def scriptSumsUptoCard : Claim7 := { stood := { row := scriptSumsUptoRow, standIns := [], harness := (true, "1ce545fc737a1369f2b25f5044b3261cabe86db3cb55d248bff2452e09e276b9"), looks := true }, kinds := [], alts := [], laidByText := true, laidKinds := [.data, .data, .data, .data, .sentinel, .sentinel, .pinned], laidTests := true, laidLooks := .later }
def ScriptSumsUptoCardSaid : Prop := Claim7.holds Tryd.pinned (.plain (OpenSpec.upto scriptSumsSpec)) scriptSumsUptoCard
end Rows
end Go.Proofs.YtaooijjppdfnfabDoor
