/- What every law of this seat shares: the listed table of digits, opened. -/
import Derived.Test.YtdngpjgpomjncaaDoorCards
import Derived.Test.YtdngpjgpomjncaaDoorTie
import Derived.Test.YtdngpjgpomjncaaDoorW5
import Derived.ProofKit
import Derived.OpenShut
import Derived.Deep.DeepHandedRow
import Derived.Lib.LaidTab
import Derived.LaidMore
namespace Go.Proofs.YtdngpjgpomjncaaDoor
open Go.ChangeShapes Go.WideShapes Go.ChangeAt Go.RowKit

theorem own : ownKnob Tryd.prog.godebug = none := by kernel_rfl
theorem gTab : Tryd.prog.globalNamed "garrison/bits.digits" = some 0 := by kernel_rfl
theorem gTabType : (Tryd.prog.globals[0]?).map (·.type) = some 52 := by kernel_rfl
theorem cellsArr : Tryd.prog.cellsOf 52 = 16 := by kernel_rfl
theorem cells5 : Tryd.prog.cellsOf 5 = 1 := by kernel_rfl

/-- WHAT A ROW's LIST GIVES: the table lies as the program laid it. -/
theorem dig_of {W : World} (h : laidMetH Tryd.prog [("garrison/bits.digits", Rows.laid_garrison_bits_digits)] W) : Dig W := by
  have ht : Lib.TabIs Tryd.prog W "garrison/bits.digits" .u8 [48, 49, 50, 51, 52, 53, 54, 55, 56, 57, 97, 98, 99, 100, 101, 102] :=
    Lib.tabIs_of_head (rest := []) gTab gTabType Tryd.underlying52 Tryd.underlying5 cells5 cellsArr h
  unfold Lib.TabIs World.var? at ht
  rw [gTab, Option.bind_some] at ht
  split at ht
  · rename_i cs t fr hh
    have : cs = digCells := Option.some.inj ht
    subst this
    exact ⟨t, fr, hh⟩
  · cases ht

theorem u64_wf {x : Int} (h : (Lit.int .u64 x).wf = true) : U64 x := by
  have := bounds_u64 h
  exact ⟨by omega, by omega⟩
end Go.Proofs.YtdngpjgpomjncaaDoor
