/- What every law of this seat shares: the listed table, opened. -/
import Derived.Test.YtepadldbhjbjaaaDoorCards
import Derived.Test.YtepadldbhjbjaaaDoorTie
import Derived.Test.YtepadldbhjbjaaaDoorRtW5
import Derived.ProofKit
import Derived.OpenShut
import Derived.Deep.DeepHandedRow
import Derived.Lib.LaidTab
import Derived.LaidMore
namespace Go.Proofs.YtepadldbhjbjaaaDoor.Rt
open Go.ChangeShapes Go.WideShapes Go.ChangeAt Go.RowKit

theorem own : ownKnob Tryd.prog.godebug = none := by kernel_rfl
theorem laidOut : laidOutB Tryd.prog = true := by kernel_rfl
theorem gTab : Tryd.prog.globalNamed "garrison/rights.inText" = some 0 := by kernel_rfl
theorem gTabType : (Tryd.prog.globals[0]?).map (·.type) = some 41 := by kernel_rfl
theorem cellsArr : Tryd.prog.cellsOf 41 = 4 := by kernel_rfl
theorem cells3 : Tryd.prog.cellsOf 3 = 1 := by kernel_rfl

/-- WHAT A ROW's LIST GIVES: the table lies as the program laid it. -/
theorem tab_of {W : World} (h : laidMetH Tryd.prog [("garrison/rights.inText", Rows.laid_garrison_rights_inText)] W) : Tab W := by
  have ht : Lib.TabIs Tryd.prog W "garrison/rights.inText" .i64 [1, 2, 4, 8] :=
    Lib.tabIs_of_head (rest := []) gTab gTabType Tryd.underlying41 Tryd.underlying3 cells3 cellsArr h
  unfold Lib.TabIs World.var? at ht
  rw [gTab, Option.bind_some] at ht
  split at ht
  · rename_i cs t fr hh
    have : cs = tabCells := Option.some.inj ht
    subst this
    exact ⟨t, fr, hh⟩
  · cases ht
end Go.Proofs.YtepadldbhjbjaaaDoor.Rt
