/-
  DERIVED. GIVEN WITH THE SEED: THE CARDS: each row of YthnfekdoibhnpaaDoorRows.lean that lists a variable, with what it lists TIED to the program's text (the seventh form; the later family's looks); each row that meets fmt, with fmt's text TOLD by the authors' own Lean function (tested against real Go, not proved from fmt's source: count such statements apart). THE CARD IS WHAT COUNTS. Prove the row's statement (the work); the ties are given (YthnfekdoibhnpaaDoorTie.lean); close each card by the builder's one call (the guide's Derived/Test/ToyasCard.lean, 'card_holds'). Laid BY PROGRAM, IN A SANDBOX (cutbox-door.mjs). By AI agents, Wed Nov 11 2026. No macro, syntax, notation, axiom, sorry.
-/
import Derived.Test.YthnfekdoibhnpaaDoorRows
import GoSem.ClaimSeven
namespace Go.Proofs.YthnfekdoibhnpaaDoor
namespace Rows

/-- THE TIED CARD OF 'garrisonlaw12.AddrWords'. -/
def addrWordsCard : Claim7 := { stood := { row := addrWordsRow, standIns := [], harness := (true, "c781beb63555ff092c174b43a94240028b004ab2fc269dafa6c30c7fe8d6618e"), looks := false }, kinds := [], alts := [], laidByText := true, laidKinds := [.data], laidTests := true, laidLooks := .later }
def AddrWordsCardSaid : Prop := Claim7.holds Tryd.pinned (.plain (OpenSpec.ofChange addrWordsSpec)) addrWordsCard

/-- THE TIED CARD OF 'garrisonlaw12.AddrFinds'. -/
def addrFindsCard : Claim7 := { stood := { row := addrFindsRow, standIns := [], harness := (true, "c781beb63555ff092c174b43a94240028b004ab2fc269dafa6c30c7fe8d6618e"), looks := false }, kinds := [], alts := [], laidByText := true, laidKinds := [.data], laidTests := true, laidLooks := .later }
def AddrFindsCardSaid : Prop := Claim7.holds Tryd.pinned (.plain (OpenSpec.ofChange addrFindsSpec)) addrFindsCard

/-- THE TIED CARD OF 'garrisonlaw12.AddrBack'. -/
def addrBackCard : Claim7 := { stood := { row := addrBackRow, standIns := [], harness := (true, "c781beb63555ff092c174b43a94240028b004ab2fc269dafa6c30c7fe8d6618e"), looks := false }, kinds := [], alts := [], laidByText := true, laidKinds := [.data], laidTests := true, laidLooks := .later }
def AddrBackCardSaid : Prop := Claim7.holds Tryd.pinned (.plain (OpenSpec.ofChange addrBackSpec)) addrBackCard

/-- THE TIED CARD OF 'garrisonlaw12.AddrFronts'. -/
def addrFrontsCard : Claim7 := { stood := { row := addrFrontsRow, standIns := [], harness := (true, "c781beb63555ff092c174b43a94240028b004ab2fc269dafa6c30c7fe8d6618e"), looks := false }, kinds := [], alts := [], laidByText := true, laidKinds := [.data], laidTests := true, laidLooks := .later }
def AddrFrontsCardSaid : Prop := Claim7.holds Tryd.pinned (.plain (OpenSpec.ofChange addrFrontsSpec)) addrFrontsCard

/-- THE TIED CARD OF 'garrisonlaw12.AddrOthers'. -/
def addrOthersCard : Claim7 := { stood := { row := addrOthersRow, standIns := [], harness := (true, "c781beb63555ff092c174b43a94240028b004ab2fc269dafa6c30c7fe8d6618e"), looks := false }, kinds := [], alts := [], laidByText := true, laidKinds := [.data], laidTests := true, laidLooks := .later }
def AddrOthersCardSaid : Prop := Claim7.holds Tryd.pinned (.plain (OpenSpec.ofChange addrOthersSpec)) addrOthersCard

/-- THE TIED CARD OF 'garrisonlaw12.AddrGuards'. -/
def addrGuardsCard : Claim7 := { stood := { row := addrGuardsRow, standIns := [], harness := (true, "c781beb63555ff092c174b43a94240028b004ab2fc269dafa6c30c7fe8d6618e"), looks := false }, kinds := [], alts := [], laidByText := true, laidKinds := [.data], laidTests := true, laidLooks := .later }
def AddrGuardsCardSaid : Prop := Claim7.holds Tryd.pinned (.plain (OpenSpec.ofChange addrGuardsSpec)) addrGuardsCard

/-- THE SECOND FORM's CARD OF 'garrisonlaw12.AddrWords'. -/
def addrWordsUptoCard : Claim7 := { stood := { row := addrWordsUptoRow, standIns := [], harness := (true, "c781beb63555ff092c174b43a94240028b004ab2fc269dafa6c30c7fe8d6618e"), looks := false }, kinds := [], alts := [], laidByText := true, laidKinds := [.data], laidTests := true, laidLooks := .later }
def AddrWordsUptoCardSaid : Prop := Claim7.holds Tryd.pinned (.plain (OpenSpec.upto addrWordsSpec)) addrWordsUptoCard

/-- THE SECOND FORM's CARD OF 'garrisonlaw12.AddrFinds'. -/
def addrFindsUptoCard : Claim7 := { stood := { row := addrFindsUptoRow, standIns := [], harness := (true, "c781beb63555ff092c174b43a94240028b004ab2fc269dafa6c30c7fe8d6618e"), looks := false }, kinds := [], alts := [], laidByText := true, laidKinds := [.data], laidTests := true, laidLooks := .later }
def AddrFindsUptoCardSaid : Prop := Claim7.holds Tryd.pinned (.plain (OpenSpec.upto addrFindsSpec)) addrFindsUptoCard

/-- THE SECOND FORM's CARD OF 'garrisonlaw12.AddrBack'. -/
def addrBackUptoCard : Claim7 := { stood := { row := addrBackUptoRow, standIns := [], harness := (true, "c781beb63555ff092c174b43a94240028b004ab2fc269dafa6c30c7fe8d6618e"), looks := false }, kinds := [], alts := [], laidByText := true, laidKinds := [.data], laidTests := true, laidLooks := .later }
def AddrBackUptoCardSaid : Prop := Claim7.holds Tryd.pinned (.plain (OpenSpec.upto addrBackSpec)) addrBackUptoCard

/-- THE SECOND FORM's CARD OF 'garrisonlaw12.AddrFronts'. -/
def addrFrontsUptoCard : Claim7 := { stood := { row := addrFrontsUptoRow, standIns := [], harness := (true, "c781beb63555ff092c174b43a94240028b004ab2fc269dafa6c30c7fe8d6618e"), looks := false }, kinds := [], alts := [], laidByText := true, laidKinds := [.data], laidTests := true, laidLooks := .later }
def AddrFrontsUptoCardSaid : Prop := Claim7.holds Tryd.pinned (.plain (OpenSpec.upto addrFrontsSpec)) addrFrontsUptoCard

/-- THE SECOND FORM's CARD OF 'garrisonlaw12.AddrOthers'. -/
def addrOthersUptoCard : Claim7 := { stood := { row := addrOthersUptoRow, standIns := [], harness := (true, "c781beb63555ff092c174b43a94240028b004ab2fc269dafa6c30c7fe8d6618e"), looks := false }, kinds := [], alts := [], laidByText := true, laidKinds := [.data], laidTests := true, laidLooks := .later }
def AddrOthersUptoCardSaid : Prop := Claim7.holds Tryd.pinned (.plain (OpenSpec.upto addrOthersSpec)) addrOthersUptoCard

/-- THE SECOND FORM's CARD OF 'garrisonlaw12.AddrGuards'. -/
def addrGuardsUptoCard : Claim7 := { stood := { row := addrGuardsUptoRow, standIns := [], harness := (true, "c781beb63555ff092c174b43a94240028b004ab2fc269dafa6c30c7fe8d6618e"), looks := false }, kinds := [], alts := [], laidByText := true, laidKinds := [.data], laidTests := true, laidLooks := .later }
def AddrGuardsUptoCardSaid : Prop := Claim7.holds Tryd.pinned (.plain (OpenSpec.upto addrGuardsSpec)) addrGuardsUptoCard
end Rows
end Go.Proofs.YthnfekdoibhnpaaDoor
