/-
  NARROWER THAN 'FOR EVERY INPUT', by the rows' own cells (each row's printed sentence says how): BitsFields: laid · BitsFinds: laid · BitsTexts: laid · BitsBack: laid · BitsApart: laid · BitsRises: laid.
  DERIVED. THE GIVEN ROWS OF THIS SEAT. 6 by the template 'for every input the law returns true; each argument reads behind the call as it read before'; 0 by the template 'total and deterministic' (their statements: YtdngpjgpomjncaaDoorTotals.lean).
  GIVEN WITH THE SEED: the statements are not yours to turn. If you find one false, say at which input.
  Laid BY PROGRAM, IN A SANDBOX (cutbox-rows.mjs): the forced cells as the released guide's own fill.sh prints them over the translation d68bb4ef4c2f3b5d… (all of the seat's roots in one cut). By AI agents, Wed Nov 11 2026. No macro, syntax, notation, axiom, sorry.
-/
import Derived.Test.YtdngpjgpomjncaaDoorChecked
import GoSem.Claim
import GoSem.ClaimJoined
import GoSem.ClaimMapViews
import Derived.JoinedTies
import Derived.KernelRfl
namespace Go.Proofs.YtdngpjgpomjncaaDoor
/- THE CELL 'sum', in the pinned program and in every row, IS THE sha256 OF THE DUMP (.gsa) THAT YtdngpjgpomjncaaDoorProg.lean LOADS. Nothing in Lean hashes anything: it is a label: what it is worth is what the hold of that sum in a sandbox is worth. -/
noncomputable def Tryd.pinned : Pinned := { name := "ytdngpjgpomjncaadoor", sum := "d68bb4ef4c2f3b5de6c528ad90b43c93c47e2b7e6df405b479b163cd6e38e84c", checked := Tryd.checked }
namespace Rows
def none {H : Type} : Left H := { results := [], args := [] }

/- WHAT THE LISTED PACKAGE-LEVEL VARIABLES READ AS WHEN THE CALL BEGINS. Each datum BY PROGRAM (the guide's laid-datum.mjs) off the statement by which the dump's own 'gosem.cut.vars' lays the variable. In a bare row this is a premise. The card (YtdngpjgpomjncaaDoorCards.lean) ties it to the program's text. -/
def laid_garrison_bits_digits {H : Type} : DataW H := .agg [.lit (.int .u8 48), .lit (.int .u8 49), .lit (.int .u8 50), .lit (.int .u8 51), .lit (.int .u8 52), .lit (.int .u8 53), .lit (.int .u8 54), .lit (.int .u8 55), .lit (.int .u8 56), .lit (.int .u8 57), .lit (.int .u8 97), .lit (.int .u8 98), .lit (.int .u8 99), .lit (.int .u8 100), .lit (.int .u8 101), .lit (.int .u8 102)]

/-- 'garrisonlaw01.BitsFields': WHATEVER THE INPUT: true; the input reads as it did. -/
def bitsFieldsSpec : ChangeSpec := { name := "bitsFields", fn := fun _ => fun
  | [d1, d2, d3, d4] => { results := [.lit (.bool true)], args := [d1, d2, d3, d4] }
  | _ => none }
def bitsFieldsRow : OpenClaim := { program := "ytdngpjgpomjncaadoor", sum := "d68bb4ef4c2f3b5de6c528ad90b43c93c47e2b7e6df405b479b163cd6e38e84c", func := "garrison/garrisonlaw01.BitsFields", spec := "bitsFields", unfollowed := true, recurses := true, named := ["garrison/bits.digits"], apart := false, laid := [("garrison/bits.digits", laid_garrison_bits_digits)] }
def BitsFieldsSaid : Prop := bitsFieldsRow.holds Tryd.pinned (OpenSpec.ofChange bitsFieldsSpec)

/-- ITS FALSE NEIGHBOUR: 'it returns false'. Refute it at one input. -/
def bitsFieldsWrong : ChangeSpec := { name := "bitsFields", fn := fun _ => fun
  | [d1, d2, d3, d4] => { results := [.lit (.bool false)], args := [d1, d2, d3, d4] }
  | _ => none }
def BitsFieldsWrongFalsely : Prop := bitsFieldsRow.holds Tryd.pinned (OpenSpec.ofChange bitsFieldsWrong)

/-- 'garrisonlaw01.BitsFinds': WHATEVER THE INPUT: true; the input reads as it did. -/
def bitsFindsSpec : ChangeSpec := { name := "bitsFinds", fn := fun _ => fun
  | [d1, d2] => { results := [.lit (.bool true)], args := [d1, d2] }
  | _ => none }
def bitsFindsRow : OpenClaim := { program := "ytdngpjgpomjncaadoor", sum := "d68bb4ef4c2f3b5de6c528ad90b43c93c47e2b7e6df405b479b163cd6e38e84c", func := "garrison/garrisonlaw01.BitsFinds", spec := "bitsFinds", unfollowed := true, recurses := true, named := ["garrison/bits.digits"], apart := false, laid := [("garrison/bits.digits", laid_garrison_bits_digits)] }
def BitsFindsSaid : Prop := bitsFindsRow.holds Tryd.pinned (OpenSpec.ofChange bitsFindsSpec)

/-- ITS FALSE NEIGHBOUR: 'it returns false'. Refute it at one input. -/
def bitsFindsWrong : ChangeSpec := { name := "bitsFinds", fn := fun _ => fun
  | [d1, d2] => { results := [.lit (.bool false)], args := [d1, d2] }
  | _ => none }
def BitsFindsWrongFalsely : Prop := bitsFindsRow.holds Tryd.pinned (OpenSpec.ofChange bitsFindsWrong)

/-- 'garrisonlaw01.BitsTexts': WHATEVER THE INPUT: true; the input reads as it did. -/
def bitsTextsSpec : ChangeSpec := { name := "bitsTexts", fn := fun _ => fun
  | [d1, d2] => { results := [.lit (.bool true)], args := [d1, d2] }
  | _ => none }
def bitsTextsRow : OpenClaim := { program := "ytdngpjgpomjncaadoor", sum := "d68bb4ef4c2f3b5de6c528ad90b43c93c47e2b7e6df405b479b163cd6e38e84c", func := "garrison/garrisonlaw01.BitsTexts", spec := "bitsTexts", unfollowed := true, recurses := true, named := ["garrison/bits.digits"], apart := false, laid := [("garrison/bits.digits", laid_garrison_bits_digits)] }
def BitsTextsSaid : Prop := bitsTextsRow.holds Tryd.pinned (OpenSpec.ofChange bitsTextsSpec)

/-- ITS FALSE NEIGHBOUR: 'it returns false'. Refute it at one input. -/
def bitsTextsWrong : ChangeSpec := { name := "bitsTexts", fn := fun _ => fun
  | [d1, d2] => { results := [.lit (.bool false)], args := [d1, d2] }
  | _ => none }
def BitsTextsWrongFalsely : Prop := bitsTextsRow.holds Tryd.pinned (OpenSpec.ofChange bitsTextsWrong)

/-- 'garrisonlaw01.BitsBack': WHATEVER THE INPUT: true; the input reads as it did. -/
def bitsBackSpec : ChangeSpec := { name := "bitsBack", fn := fun _ => fun
  | [d1, d2, d3, d4] => { results := [.lit (.bool true)], args := [d1, d2, d3, d4] }
  | _ => none }
def bitsBackRow : OpenClaim := { program := "ytdngpjgpomjncaadoor", sum := "d68bb4ef4c2f3b5de6c528ad90b43c93c47e2b7e6df405b479b163cd6e38e84c", func := "garrison/garrisonlaw01.BitsBack", spec := "bitsBack", unfollowed := true, recurses := true, named := ["garrison/bits.digits"], apart := false, laid := [("garrison/bits.digits", laid_garrison_bits_digits)] }
def BitsBackSaid : Prop := bitsBackRow.holds Tryd.pinned (OpenSpec.ofChange bitsBackSpec)

/-- ITS FALSE NEIGHBOUR: 'it returns false'. Refute it at one input. -/
def bitsBackWrong : ChangeSpec := { name := "bitsBack", fn := fun _ => fun
  | [d1, d2, d3, d4] => { results := [.lit (.bool false)], args := [d1, d2, d3, d4] }
  | _ => none }
def BitsBackWrongFalsely : Prop := bitsBackRow.holds Tryd.pinned (OpenSpec.ofChange bitsBackWrong)

/-- 'garrisonlaw01.BitsApart': WHATEVER THE INPUT: true; the input reads as it did. -/
def bitsApartSpec : ChangeSpec := { name := "bitsApart", fn := fun _ => fun
  | [d1, d2, d3, d4, d5, d6, d7] => { results := [.lit (.bool true)], args := [d1, d2, d3, d4, d5, d6, d7] }
  | _ => none }
def bitsApartRow : OpenClaim := { program := "ytdngpjgpomjncaadoor", sum := "d68bb4ef4c2f3b5de6c528ad90b43c93c47e2b7e6df405b479b163cd6e38e84c", func := "garrison/garrisonlaw01.BitsApart", spec := "bitsApart", unfollowed := true, recurses := true, named := ["garrison/bits.digits"], apart := false, laid := [("garrison/bits.digits", laid_garrison_bits_digits)] }
def BitsApartSaid : Prop := bitsApartRow.holds Tryd.pinned (OpenSpec.ofChange bitsApartSpec)

/-- ITS FALSE NEIGHBOUR: 'it returns false'. Refute it at one input. -/
def bitsApartWrong : ChangeSpec := { name := "bitsApart", fn := fun _ => fun
  | [d1, d2, d3, d4, d5, d6, d7] => { results := [.lit (.bool false)], args := [d1, d2, d3, d4, d5, d6, d7] }
  | _ => none }
def BitsApartWrongFalsely : Prop := bitsApartRow.holds Tryd.pinned (OpenSpec.ofChange bitsApartWrong)

/-- 'garrisonlaw01.BitsRises': WHATEVER THE INPUT: true; the input reads as it did. -/
def bitsRisesSpec : ChangeSpec := { name := "bitsRises", fn := fun _ => fun
  | [d1, d2] => { results := [.lit (.bool true)], args := [d1, d2] }
  | _ => none }
def bitsRisesRow : OpenClaim := { program := "ytdngpjgpomjncaadoor", sum := "d68bb4ef4c2f3b5de6c528ad90b43c93c47e2b7e6df405b479b163cd6e38e84c", func := "garrison/garrisonlaw01.BitsRises", spec := "bitsRises", unfollowed := true, recurses := true, named := ["garrison/bits.digits"], apart := false, laid := [("garrison/bits.digits", laid_garrison_bits_digits)] }
def BitsRisesSaid : Prop := bitsRisesRow.holds Tryd.pinned (OpenSpec.ofChange bitsRisesSpec)

/-- ITS FALSE NEIGHBOUR: 'it returns false'. Refute it at one input. -/
def bitsRisesWrong : ChangeSpec := { name := "bitsRises", fn := fun _ => fun
  | [d1, d2] => { results := [.lit (.bool false)], args := [d1, d2] }
  | _ => none }
def BitsRisesWrongFalsely : Prop := bitsRisesRow.holds Tryd.pinned (OpenSpec.ofChange bitsRisesWrong)

/- THE SECOND FORM. 'bulk': how many values and letters a reading holds, each counted each time it is reached (what is shared counts as often as it is met; a slice's spare places count too). A statement '..UptoSaid' is the law's where the arguments, and the package variables that the reading takes, are together of bulk at most 1048576: NARROWER than '..Said'. Prove '..Said' where nothing that the law and all that it calls make is longer than what came in: it says more and counts as full. Else prove '..UptoSaid'. A law counts once. -/
mutual
def uptoBulk {H : Type} : DataW H → Nat
  | .lit (.string bytes) => bytes.length + 1
  | .lit _ => 1
  | .nil => 1
  | .ptr d => uptoBulk d + 1
  | .slice elems spare => uptoBulkAll elems + uptoBulkAll spare + 1
  | .agg parts => uptoBulkAll parts + 1
  | .iface _ d => uptoBulk d + 1
  | .map entries => uptoBulkEntries entries + 1
  | .held _ => 1
def uptoBulkAll {H : Type} : List (DataW H) → Nat
  | [] => 0
  | d :: r => uptoBulk d + uptoBulkAll r
def uptoBulkEntries {H : Type} : List (Lit × DataW H) → Nat
  | [] => 0
  | x :: r => uptoBulkEntry x + uptoBulkEntries r
def uptoBulkEntry {H : Type} : Lit × DataW H → Nat
  | (.string bytes, d) => bytes.length + uptoBulk d + 1
  | (_, d) => uptoBulk d + 1
 end
def uptoSmall : (H : Type) → List (DataW H) → Bool := fun _ ds => decide (uptoBulkAll ds ≤ 1048576)
def OpenSpec.upto (s : _root_.Go.ChangeSpec) : _root_.Go.OpenSpec := { _root_.Go.OpenSpec.ofChange s with cond := some uptoSmall }

/-- 'garrisonlaw01.BitsFields', WHERE WHAT IT READS IS OF BULK AT MOST 1048576: true; the input reads as it did. -/
def bitsFieldsUptoRow : OpenClaim := { program := "ytdngpjgpomjncaadoor", sum := "d68bb4ef4c2f3b5de6c528ad90b43c93c47e2b7e6df405b479b163cd6e38e84c", func := "garrison/garrisonlaw01.BitsFields", spec := "bitsFields", unfollowed := true, recurses := true, named := ["garrison/bits.digits"], apart := false, laid := [("garrison/bits.digits", laid_garrison_bits_digits)], narrowed := true }
def BitsFieldsUptoSaid : Prop := bitsFieldsUptoRow.holds Tryd.pinned (OpenSpec.upto bitsFieldsSpec)

/-- 'garrisonlaw01.BitsFinds', WHERE WHAT IT READS IS OF BULK AT MOST 1048576: true; the input reads as it did. -/
def bitsFindsUptoRow : OpenClaim := { program := "ytdngpjgpomjncaadoor", sum := "d68bb4ef4c2f3b5de6c528ad90b43c93c47e2b7e6df405b479b163cd6e38e84c", func := "garrison/garrisonlaw01.BitsFinds", spec := "bitsFinds", unfollowed := true, recurses := true, named := ["garrison/bits.digits"], apart := false, laid := [("garrison/bits.digits", laid_garrison_bits_digits)], narrowed := true }
def BitsFindsUptoSaid : Prop := bitsFindsUptoRow.holds Tryd.pinned (OpenSpec.upto bitsFindsSpec)

/-- 'garrisonlaw01.BitsTexts', WHERE WHAT IT READS IS OF BULK AT MOST 1048576: true; the input reads as it did. -/
def bitsTextsUptoRow : OpenClaim := { program := "ytdngpjgpomjncaadoor", sum := "d68bb4ef4c2f3b5de6c528ad90b43c93c47e2b7e6df405b479b163cd6e38e84c", func := "garrison/garrisonlaw01.BitsTexts", spec := "bitsTexts", unfollowed := true, recurses := true, named := ["garrison/bits.digits"], apart := false, laid := [("garrison/bits.digits", laid_garrison_bits_digits)], narrowed := true }
def BitsTextsUptoSaid : Prop := bitsTextsUptoRow.holds Tryd.pinned (OpenSpec.upto bitsTextsSpec)

/-- 'garrisonlaw01.BitsBack', WHERE WHAT IT READS IS OF BULK AT MOST 1048576: true; the input reads as it did. -/
def bitsBackUptoRow : OpenClaim := { program := "ytdngpjgpomjncaadoor", sum := "d68bb4ef4c2f3b5de6c528ad90b43c93c47e2b7e6df405b479b163cd6e38e84c", func := "garrison/garrisonlaw01.BitsBack", spec := "bitsBack", unfollowed := true, recurses := true, named := ["garrison/bits.digits"], apart := false, laid := [("garrison/bits.digits", laid_garrison_bits_digits)], narrowed := true }
def BitsBackUptoSaid : Prop := bitsBackUptoRow.holds Tryd.pinned (OpenSpec.upto bitsBackSpec)

/-- 'garrisonlaw01.BitsApart', WHERE WHAT IT READS IS OF BULK AT MOST 1048576: true; the input reads as it did. -/
def bitsApartUptoRow : OpenClaim := { program := "ytdngpjgpomjncaadoor", sum := "d68bb4ef4c2f3b5de6c528ad90b43c93c47e2b7e6df405b479b163cd6e38e84c", func := "garrison/garrisonlaw01.BitsApart", spec := "bitsApart", unfollowed := true, recurses := true, named := ["garrison/bits.digits"], apart := false, laid := [("garrison/bits.digits", laid_garrison_bits_digits)], narrowed := true }
def BitsApartUptoSaid : Prop := bitsApartUptoRow.holds Tryd.pinned (OpenSpec.upto bitsApartSpec)

/-- 'garrisonlaw01.BitsRises', WHERE WHAT IT READS IS OF BULK AT MOST 1048576: true; the input reads as it did. -/
def bitsRisesUptoRow : OpenClaim := { program := "ytdngpjgpomjncaadoor", sum := "d68bb4ef4c2f3b5de6c528ad90b43c93c47e2b7e6df405b479b163cd6e38e84c", func := "garrison/garrisonlaw01.BitsRises", spec := "bitsRises", unfollowed := true, recurses := true, named := ["garrison/bits.digits"], apart := false, laid := [("garrison/bits.digits", laid_garrison_bits_digits)], narrowed := true }
def BitsRisesUptoSaid : Prop := bitsRisesUptoRow.holds Tryd.pinned (OpenSpec.upto bitsRisesSpec)

end Rows
end Go.Proofs.YtdngpjgpomjncaaDoor
