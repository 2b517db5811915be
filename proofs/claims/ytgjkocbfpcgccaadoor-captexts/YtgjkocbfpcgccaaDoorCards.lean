/-
  DERIVED. GIVEN WITH THE SEED: THE CARDS: each row of YtgjkocbfpcgccaaDoorRows.lean that lists a variable, with what it lists TIED to the program's text (the seventh form; the later family's looks); each row that meets fmt, with fmt's text TOLD by the authors' own Lean function (tested against real Go, not proved from fmt's source: count such statements apart). THE CARD IS WHAT COUNTS. Prove the row's statement (the work); the ties are given (YtgjkocbfpcgccaaDoorTie.lean); close each card by the builder's one call (the guide's Derived/Test/ToyasCard.lean, 'card_holds'). Laid BY PROGRAM, IN A SANDBOX (cutbox-door.mjs). By AI agents, Wed Nov 11 2026. No macro, syntax, notation, axiom, sorry.
-/
import Derived.Test.YtgjkocbfpcgccaaDoorRows
import GoSem.ClaimSeven
namespace Go.Proofs.YtgjkocbfpcgccaaDoor
namespace Rows

/-- THE TIED CARD OF 'garrisonlaw03.CapWords'. -/
def capWordsCard : Claim7 := { stood := { row := capWordsRow, standIns := [], harness := (true, "486244c7bc4bc07dfea74278dd9a9caffe28d5393509fce59a1686c78dac0477"), looks := false }, kinds := [], alts := [], laidByText := true, laidKinds := [.data, .data, .data, .data, .data, .data, .data], laidTests := true, laidLooks := .later }
def CapWordsCardSaid : Prop := Claim7.holds Tryd.pinned (.plain (OpenSpec.ofChange capWordsSpec)) capWordsCard

/-- THE TIED CARD OF 'garrisonlaw03.CapDerives'. -/
def capDerivesCard : Claim7 := { stood := { row := capDerivesRow, standIns := [], harness := (true, "486244c7bc4bc07dfea74278dd9a9caffe28d5393509fce59a1686c78dac0477"), looks := false }, kinds := [], alts := [], laidByText := true, laidKinds := [.data, .data, .data, .data, .data, .data, .data], laidTests := true, laidLooks := .later }
def CapDerivesCardSaid : Prop := Claim7.holds Tryd.pinned (.plain (OpenSpec.ofChange capDerivesSpec)) capDerivesCard

/-- THE TIED CARD OF 'garrisonlaw03.CapBack'. -/
def capBackCard : Claim7 := { stood := { row := capBackRow, standIns := [], harness := (true, "486244c7bc4bc07dfea74278dd9a9caffe28d5393509fce59a1686c78dac0477"), looks := false }, kinds := [], alts := [], laidByText := true, laidKinds := [.data, .data, .data, .data, .data, .data, .data], laidTests := true, laidLooks := .later }
def CapBackCardSaid : Prop := Claim7.holds Tryd.pinned (.plain (OpenSpec.ofChange capBackSpec)) capBackCard

/-- THE TIED CARD OF 'garrisonlaw03.CapNever'. -/
def capNeverCard : Claim7 := { stood := { row := capNeverRow, standIns := [], harness := (true, "486244c7bc4bc07dfea74278dd9a9caffe28d5393509fce59a1686c78dac0477"), looks := false }, kinds := [], alts := [], laidByText := true, laidKinds := [.data, .data, .data, .data, .data, .data, .data], laidTests := true, laidLooks := .later }
def CapNeverCardSaid : Prop := Claim7.holds Tryd.pinned (.plain (OpenSpec.ofChange capNeverSpec)) capNeverCard

/-- THE TIED CARD OF 'garrisonlaw03.CapNames'. -/
def capNamesCard : Claim7 := { stood := { row := capNamesRow, standIns := [], harness := (true, "486244c7bc4bc07dfea74278dd9a9caffe28d5393509fce59a1686c78dac0477"), looks := false }, kinds := [], alts := [], laidByText := true, laidKinds := [.data, .data, .data, .data, .data, .data, .data], laidTests := true, laidLooks := .later }
def CapNamesCardSaid : Prop := Claim7.holds Tryd.pinned (.plain (OpenSpec.ofChange capNamesSpec)) capNamesCard

/-- THE TIED CARD OF 'garrisonlaw03.CapTexts'. -/
def capTextsCard : Claim7 := { stood := { row := capTextsRow, standIns := [], harness := (true, "486244c7bc4bc07dfea74278dd9a9caffe28d5393509fce59a1686c78dac0477"), looks := false }, kinds := [], alts := [], laidByText := true, laidKinds := [.data, .data, .data, .data, .data, .data, .data], laidTests := true, laidLooks := .later }
def CapTextsCardSaid : Prop := Claim7.holds Tryd.pinned (.plain (OpenSpec.ofChange capTextsSpec)) capTextsCard

/-- THE SECOND FORM's CARD OF 'garrisonlaw03.CapWords'. -/
def capWordsUptoCard : Claim7 := { stood := { row := capWordsUptoRow, standIns := [], harness := (true, "486244c7bc4bc07dfea74278dd9a9caffe28d5393509fce59a1686c78dac0477"), looks := false }, kinds := [], alts := [], laidByText := true, laidKinds := [.data, .data, .data, .data, .data, .data, .data], laidTests := true, laidLooks := .later }
def CapWordsUptoCardSaid : Prop := Claim7.holds Tryd.pinned (.plain (OpenSpec.upto capWordsSpec)) capWordsUptoCard

/-- THE SECOND FORM's CARD OF 'garrisonlaw03.CapDerives'. -/
def capDerivesUptoCard : Claim7 := { stood := { row := capDerivesUptoRow, standIns := [], harness := (true, "486244c7bc4bc07dfea74278dd9a9caffe28d5393509fce59a1686c78dac0477"), looks := false }, kinds := [], alts := [], laidByText := true, laidKinds := [.data, .data, .data, .data, .data, .data, .data], laidTests := true, laidLooks := .later }
def CapDerivesUptoCardSaid : Prop := Claim7.holds Tryd.pinned (.plain (OpenSpec.upto capDerivesSpec)) capDerivesUptoCard

/-- THE SECOND FORM's CARD OF 'garrisonlaw03.CapBack'. -/
def capBackUptoCard : Claim7 := { stood := { row := capBackUptoRow, standIns := [], harness := (true, "486244c7bc4bc07dfea74278dd9a9caffe28d5393509fce59a1686c78dac0477"), looks := false }, kinds := [], alts := [], laidByText := true, laidKinds := [.data, .data, .data, .data, .data, .data, .data], laidTests := true, laidLooks := .later }
def CapBackUptoCardSaid : Prop := Claim7.holds Tryd.pinned (.plain (OpenSpec.upto capBackSpec)) capBackUptoCard

/-- THE SECOND FORM's CARD OF 'garrisonlaw03.CapNever'. -/
def capNeverUptoCard : Claim7 := { stood := { row := capNeverUptoRow, standIns := [], harness := (true, "486244c7bc4bc07dfea74278dd9a9caffe28d5393509fce59a1686c78dac0477"), looks := false }, kinds := [], alts := [], laidByText := true, laidKinds := [.data, .data, .data, .data, .data, .data, .data], laidTests := true, laidLooks := .later }
def CapNeverUptoCardSaid : Prop := Claim7.holds Tryd.pinned (.plain (OpenSpec.upto capNeverSpec)) capNeverUptoCard

/-- THE SECOND FORM's CARD OF 'garrisonlaw03.CapNames'. -/
def capNamesUptoCard : Claim7 := { stood := { row := capNamesUptoRow, standIns := [], harness := (true, "486244c7bc4bc07dfea74278dd9a9caffe28d5393509fce59a1686c78dac0477"), looks := false }, kinds := [], alts := [], laidByText := true, laidKinds := [.data, .data, .data, .data, .data, .data, .data], laidTests := true, laidLooks := .later }
def CapNamesUptoCardSaid : Prop := Claim7.holds Tryd.pinned (.plain (OpenSpec.upto capNamesSpec)) capNamesUptoCard

/-- THE SECOND FORM's CARD OF 'garrisonlaw03.CapTexts'. -/
def capTextsUptoCard : Claim7 := { stood := { row := capTextsUptoRow, standIns := [], harness := (true, "486244c7bc4bc07dfea74278dd9a9caffe28d5393509fce59a1686c78dac0477"), looks := false }, kinds := [], alts := [], laidByText := true, laidKinds := [.data, .data, .data, .data, .data, .data, .data], laidTests := true, laidLooks := .later }
def CapTextsUptoCardSaid : Prop := Claim7.holds Tryd.pinned (.plain (OpenSpec.upto capTextsSpec)) capTextsUptoCard
end Rows
end Go.Proofs.YtgjkocbfpcgccaaDoor
