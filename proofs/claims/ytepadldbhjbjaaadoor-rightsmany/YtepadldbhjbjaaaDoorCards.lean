/-
  DERIVED. GIVEN WITH THE SEED: THE CARDS: each row of YtepadldbhjbjaaaDoorRows.lean that lists a variable, with what it lists TIED to the program's text (the seventh form; the later family's looks); each row that meets fmt, with fmt's text TOLD by the authors' own Lean function (tested against real Go, not proved from fmt's source: count such statements apart). THE CARD IS WHAT COUNTS. Prove the row's statement (the work); the ties are given (YtepadldbhjbjaaaDoorTie.lean); close each card by the builder's one call (the guide's Derived/Test/ToyasCard.lean, 'card_holds'). Laid BY PROGRAM, IN A SANDBOX (cutbox-door.mjs). By AI agents, Wed Nov 11 2026. No macro, syntax, notation, axiom, sorry.
-/
import Derived.Test.YtepadldbhjbjaaaDoorRows
import GoSem.ClaimSeven
namespace Go.Proofs.YtepadldbhjbjaaaDoor
namespace Rows

/-- THE TIED CARD OF 'garrisonlaw02.RightsTells'. -/
def rightsTellsCard : Claim7 := { stood := { row := rightsTellsRow, standIns := [], harness := (true, "4165a072cf351398b38864021946a7b15f7dd10547d469f8f332fe7ae3a32592"), looks := false }, kinds := [], alts := [], laidByText := true, laidKinds := [.data], laidTests := true, laidLooks := .later }
def RightsTellsCardSaid : Prop := Claim7.holds Tryd.pinned (.plain (OpenSpec.ofChange rightsTellsSpec)) rightsTellsCard

/-- THE TIED CARD OF 'garrisonlaw02.RightsMeets'. -/
def rightsMeetsCard : Claim7 := { stood := { row := rightsMeetsRow, standIns := [], harness := (true, "4165a072cf351398b38864021946a7b15f7dd10547d469f8f332fe7ae3a32592"), looks := false }, kinds := [], alts := [], laidByText := true, laidKinds := [.data], laidTests := true, laidLooks := .later }
def RightsMeetsCardSaid : Prop := Claim7.holds Tryd.pinned (.plain (OpenSpec.ofChange rightsMeetsSpec)) rightsMeetsCard

/-- THE TIED CARD OF 'garrisonlaw02.RightsOrder'. -/
def rightsOrderCard : Claim7 := { stood := { row := rightsOrderRow, standIns := [], harness := (true, "4165a072cf351398b38864021946a7b15f7dd10547d469f8f332fe7ae3a32592"), looks := false }, kinds := [], alts := [], laidByText := true, laidKinds := [.data], laidTests := true, laidLooks := .later }
def RightsOrderCardSaid : Prop := Claim7.holds Tryd.pinned (.plain (OpenSpec.ofChange rightsOrderSpec)) rightsOrderCard

/-- THE TIED CARD OF 'garrisonlaw02.RightsLess'. -/
def rightsLessCard : Claim7 := { stood := { row := rightsLessRow, standIns := [], harness := (true, "4165a072cf351398b38864021946a7b15f7dd10547d469f8f332fe7ae3a32592"), looks := false }, kinds := [], alts := [], laidByText := true, laidKinds := [.data], laidTests := true, laidLooks := .later }
def RightsLessCardSaid : Prop := Claim7.holds Tryd.pinned (.plain (OpenSpec.ofChange rightsLessSpec)) rightsLessCard

/-- THE TIED CARD OF 'garrisonlaw02.RightsBack'. -/
def rightsBackCard : Claim7 := { stood := { row := rightsBackRow, standIns := [], harness := (true, "4165a072cf351398b38864021946a7b15f7dd10547d469f8f332fe7ae3a32592"), looks := false }, kinds := [], alts := [], laidByText := true, laidKinds := [.data], laidTests := true, laidLooks := .later }
def RightsBackCardSaid : Prop := Claim7.holds Tryd.pinned (.plain (OpenSpec.ofChange rightsBackSpec)) rightsBackCard

/-- THE TIED CARD OF 'garrisonlaw02.RightsMany'. -/
def rightsManyCard : Claim7 := { stood := { row := rightsManyRow, standIns := [], harness := (true, "4165a072cf351398b38864021946a7b15f7dd10547d469f8f332fe7ae3a32592"), looks := false }, kinds := [], alts := [], laidByText := true, laidKinds := [.data], laidTests := true, laidLooks := .later }
def RightsManyCardSaid : Prop := Claim7.holds Tryd.pinned (.plain (OpenSpec.ofChange rightsManySpec)) rightsManyCard

/-- THE SECOND FORM's CARD OF 'garrisonlaw02.RightsTells'. -/
def rightsTellsUptoCard : Claim7 := { stood := { row := rightsTellsUptoRow, standIns := [], harness := (true, "4165a072cf351398b38864021946a7b15f7dd10547d469f8f332fe7ae3a32592"), looks := false }, kinds := [], alts := [], laidByText := true, laidKinds := [.data], laidTests := true, laidLooks := .later }
def RightsTellsUptoCardSaid : Prop := Claim7.holds Tryd.pinned (.plain (OpenSpec.upto rightsTellsSpec)) rightsTellsUptoCard

/-- THE SECOND FORM's CARD OF 'garrisonlaw02.RightsMeets'. -/
def rightsMeetsUptoCard : Claim7 := { stood := { row := rightsMeetsUptoRow, standIns := [], harness := (true, "4165a072cf351398b38864021946a7b15f7dd10547d469f8f332fe7ae3a32592"), looks := false }, kinds := [], alts := [], laidByText := true, laidKinds := [.data], laidTests := true, laidLooks := .later }
def RightsMeetsUptoCardSaid : Prop := Claim7.holds Tryd.pinned (.plain (OpenSpec.upto rightsMeetsSpec)) rightsMeetsUptoCard

/-- THE SECOND FORM's CARD OF 'garrisonlaw02.RightsOrder'. -/
def rightsOrderUptoCard : Claim7 := { stood := { row := rightsOrderUptoRow, standIns := [], harness := (true, "4165a072cf351398b38864021946a7b15f7dd10547d469f8f332fe7ae3a32592"), looks := false }, kinds := [], alts := [], laidByText := true, laidKinds := [.data], laidTests := true, laidLooks := .later }
def RightsOrderUptoCardSaid : Prop := Claim7.holds Tryd.pinned (.plain (OpenSpec.upto rightsOrderSpec)) rightsOrderUptoCard

/-- THE SECOND FORM's CARD OF 'garrisonlaw02.RightsLess'. -/
def rightsLessUptoCard : Claim7 := { stood := { row := rightsLessUptoRow, standIns := [], harness := (true, "4165a072cf351398b38864021946a7b15f7dd10547d469f8f332fe7ae3a32592"), looks := false }, kinds := [], alts := [], laidByText := true, laidKinds := [.data], laidTests := true, laidLooks := .later }
def RightsLessUptoCardSaid : Prop := Claim7.holds Tryd.pinned (.plain (OpenSpec.upto rightsLessSpec)) rightsLessUptoCard

/-- THE SECOND FORM's CARD OF 'garrisonlaw02.RightsBack'. -/
def rightsBackUptoCard : Claim7 := { stood := { row := rightsBackUptoRow, standIns := [], harness := (true, "4165a072cf351398b38864021946a7b15f7dd10547d469f8f332fe7ae3a32592"), looks := false }, kinds := [], alts := [], laidByText := true, laidKinds := [.data], laidTests := true, laidLooks := .later }
def RightsBackUptoCardSaid : Prop := Claim7.holds Tryd.pinned (.plain (OpenSpec.upto rightsBackSpec)) rightsBackUptoCard

/-- THE SECOND FORM's CARD OF 'garrisonlaw02.RightsMany'. -/
def rightsManyUptoCard : Claim7 := { stood := { row := rightsManyUptoRow, standIns := [], harness := (true, "4165a072cf351398b38864021946a7b15f7dd10547d469f8f332fe7ae3a32592"), looks := false }, kinds := [], alts := [], laidByText := true, laidKinds := [.data], laidTests := true, laidLooks := .later }
def RightsManyUptoCardSaid : Prop := Claim7.holds Tryd.pinned (.plain (OpenSpec.upto rightsManySpec)) rightsManyUptoCard
end Rows
end Go.Proofs.YtepadldbhjbjaaaDoor
