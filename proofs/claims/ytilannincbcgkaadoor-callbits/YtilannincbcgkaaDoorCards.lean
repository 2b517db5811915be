/-
  DERIVED. GIVEN WITH THE SEED: THE CARDS: each row of YtilannincbcgkaaDoorRows.lean that lists a variable, with what it lists TIED to the program's text (the seventh form; the later family's looks); each row that meets fmt, with fmt's text TOLD by the authors' own Lean function (tested against real Go, not proved from fmt's source: count such statements apart). THE CARD IS WHAT COUNTS. Prove the row's statement (the work); the ties are given (YtilannincbcgkaaDoorTie.lean); close each card by the builder's one call (the guide's Derived/Test/ToyasCard.lean, 'card_holds'). Laid BY PROGRAM, IN A SANDBOX (cutbox-door.mjs). By AI agents, Wed Nov 11 2026. No macro, syntax, notation, axiom, sorry.
-/
import Derived.Test.YtilannincbcgkaaDoorRows
import GoSem.ClaimSeven
namespace Go.Proofs.YtilannincbcgkaaDoor
namespace Rows

/-- THE TIED CARD OF 'garrisonlaw15.CallWords'. -/
def callWordsCard : Claim7 := { stood := { row := callWordsRow, standIns := [], harness := (true, "426ec5fe15f782bae454d22851448eae080832a092ccc1d8d2b8c5c8ff805e13"), looks := false }, kinds := [], alts := [], laidByText := true, laidKinds := [.data, .data], laidTests := true, laidLooks := .later }
def CallWordsCardSaid : Prop := Claim7.holds Tryd.pinned (.plain (OpenSpec.ofChange callWordsSpec)) callWordsCard

/-- THE TIED CARD OF 'garrisonlaw15.CallBack'. -/
def callBackCard : Claim7 := { stood := { row := callBackRow, standIns := [], harness := (true, "426ec5fe15f782bae454d22851448eae080832a092ccc1d8d2b8c5c8ff805e13"), looks := false }, kinds := [], alts := [], laidByText := true, laidKinds := [.data, .data], laidTests := true, laidLooks := .later }
def CallBackCardSaid : Prop := Claim7.holds Tryd.pinned (.plain (OpenSpec.ofChange callBackSpec)) callBackCard

/-- THE TIED CARD OF 'garrisonlaw15.CallOnly'. -/
def callOnlyCard : Claim7 := { stood := { row := callOnlyRow, standIns := [], harness := (true, "426ec5fe15f782bae454d22851448eae080832a092ccc1d8d2b8c5c8ff805e13"), looks := false }, kinds := [], alts := [], laidByText := true, laidKinds := [.data, .data], laidTests := true, laidLooks := .later }
def CallOnlyCardSaid : Prop := Claim7.holds Tryd.pinned (.plain (OpenSpec.ofChange callOnlySpec)) callOnlyCard

/-- THE TIED CARD OF 'garrisonlaw15.CallNames'. -/
def callNamesCard : Claim7 := { stood := { row := callNamesRow, standIns := [], harness := (true, "426ec5fe15f782bae454d22851448eae080832a092ccc1d8d2b8c5c8ff805e13"), looks := false }, kinds := [], alts := [], laidByText := true, laidKinds := [.data, .data], laidTests := true, laidLooks := .later }
def CallNamesCardSaid : Prop := Claim7.holds Tryd.pinned (.plain (OpenSpec.ofChange callNamesSpec)) callNamesCard

/-- THE TIED CARD OF 'garrisonlaw15.CallBits'. -/
def callBitsCard : Claim7 := { stood := { row := callBitsRow, standIns := [], harness := (true, "426ec5fe15f782bae454d22851448eae080832a092ccc1d8d2b8c5c8ff805e13"), looks := false }, kinds := [], alts := [], laidByText := true, laidKinds := [.data, .data], laidTests := true, laidLooks := .later }
def CallBitsCardSaid : Prop := Claim7.holds Tryd.pinned (.plain (OpenSpec.ofChange callBitsSpec)) callBitsCard

/-- THE SECOND FORM's CARD OF 'garrisonlaw15.CallWords'. -/
def callWordsUptoCard : Claim7 := { stood := { row := callWordsUptoRow, standIns := [], harness := (true, "426ec5fe15f782bae454d22851448eae080832a092ccc1d8d2b8c5c8ff805e13"), looks := false }, kinds := [], alts := [], laidByText := true, laidKinds := [.data, .data], laidTests := true, laidLooks := .later }
def CallWordsUptoCardSaid : Prop := Claim7.holds Tryd.pinned (.plain (OpenSpec.upto callWordsSpec)) callWordsUptoCard

/-- THE SECOND FORM's CARD OF 'garrisonlaw15.CallBack'. -/
def callBackUptoCard : Claim7 := { stood := { row := callBackUptoRow, standIns := [], harness := (true, "426ec5fe15f782bae454d22851448eae080832a092ccc1d8d2b8c5c8ff805e13"), looks := false }, kinds := [], alts := [], laidByText := true, laidKinds := [.data, .data], laidTests := true, laidLooks := .later }
def CallBackUptoCardSaid : Prop := Claim7.holds Tryd.pinned (.plain (OpenSpec.upto callBackSpec)) callBackUptoCard

/-- THE SECOND FORM's CARD OF 'garrisonlaw15.CallOnly'. -/
def callOnlyUptoCard : Claim7 := { stood := { row := callOnlyUptoRow, standIns := [], harness := (true, "426ec5fe15f782bae454d22851448eae080832a092ccc1d8d2b8c5c8ff805e13"), looks := false }, kinds := [], alts := [], laidByText := true, laidKinds := [.data, .data], laidTests := true, laidLooks := .later }
def CallOnlyUptoCardSaid : Prop := Claim7.holds Tryd.pinned (.plain (OpenSpec.upto callOnlySpec)) callOnlyUptoCard

/-- THE SECOND FORM's CARD OF 'garrisonlaw15.CallNames'. -/
def callNamesUptoCard : Claim7 := { stood := { row := callNamesUptoRow, standIns := [], harness := (true, "426ec5fe15f782bae454d22851448eae080832a092ccc1d8d2b8c5c8ff805e13"), looks := false }, kinds := [], alts := [], laidByText := true, laidKinds := [.data, .data], laidTests := true, laidLooks := .later }
def CallNamesUptoCardSaid : Prop := Claim7.holds Tryd.pinned (.plain (OpenSpec.upto callNamesSpec)) callNamesUptoCard

/-- THE SECOND FORM's CARD OF 'garrisonlaw15.CallBits'. -/
def callBitsUptoCard : Claim7 := { stood := { row := callBitsUptoRow, standIns := [], harness := (true, "426ec5fe15f782bae454d22851448eae080832a092ccc1d8d2b8c5c8ff805e13"), looks := false }, kinds := [], alts := [], laidByText := true, laidKinds := [.data, .data], laidTests := true, laidLooks := .later }
def CallBitsUptoCardSaid : Prop := Claim7.holds Tryd.pinned (.plain (OpenSpec.upto callBitsSpec)) callBitsUptoCard
end Rows
end Go.Proofs.YtilannincbcgkaaDoor
