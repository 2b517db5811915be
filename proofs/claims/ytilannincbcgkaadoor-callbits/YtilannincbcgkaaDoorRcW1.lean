/- What Is, Within, Less and num do. -/
import Derived.Test.YtilannincbcgkaaDoorChecked
import Derived.Test.YtilannincbcgkaaDoorRtMath
import Derived.WalkKit
import Derived.WalkLawsBesides
import Derived.Deep.QuietTactic
import Derived.BigQuiet
namespace Go.Proofs.YtilannincbcgkaaDoor.Rt
open Go.RowKit

set_option maxHeartbeats 400000 in
theorem is_any (r : Int) (w : World) :
    Calls Tryd.prog 36 #[.int .i64 r] w fun e w' => e = .returned (.bool (isR r)) ∧ w' = w := by
  by_cases h1 : 0 ≤ r
  · by_cases h2 : r ≤ 15
    · have H : Hid (isR r = true) := isR_iff.2 ⟨h1, h2⟩
      go_enter Tryd.func36, Tryd.ntmps36
      go_wp2
      go_ret
      exact ⟨ret_bool H.out.symm, rfl⟩
    · have H : Hid (isR r = false) := isR_not.2 (by omega)
      go_enter Tryd.func36, Tryd.ntmps36
      go_wp2
      go_ret
      exact ⟨ret_bool H.out.symm, rfl⟩
  · have H : Hid (isR r = false) := isR_not.2 (by omega)
    go_enter Tryd.func36, Tryd.ntmps36
    go_wp2
    go_ret
    exact ⟨ret_bool H.out.symm, rfl⟩

end Go.Proofs.YtilannincbcgkaaDoor.Rt
