/- What Is, Within, Less and num do. -/
import Derived.Test.YthnfekdoibhnpaaDoorChecked
import Derived.Test.YthnfekdoibhnpaaDoorRtMath
import Derived.WalkKit
import Derived.WalkLawsBesides
import Derived.Deep.QuietTactic
import Derived.BigQuiet
namespace Go.Proofs.YthnfekdoibhnpaaDoor.Rt
open Go.RowKit

set_option maxHeartbeats 400000 in
theorem is_any (r : Int) (w : World) :
    Calls Tryd.prog 51 #[.int .i64 r] w fun e w' => e = .returned (.bool (isR r)) ∧ w' = w := by
  by_cases h1 : 0 ≤ r
  · by_cases h2 : r ≤ 15
    · have H : Hid (isR r = true) := isR_iff.2 ⟨h1, h2⟩
      go_enter Tryd.func51, Tryd.ntmps51
      go_wp2
      go_ret
      exact ⟨ret_bool H.out.symm, rfl⟩
    · have H : Hid (isR r = false) := isR_not.2 (by omega)
      go_enter Tryd.func51, Tryd.ntmps51
      go_wp2
      go_ret
      exact ⟨ret_bool H.out.symm, rfl⟩
  · have H : Hid (isR r = false) := isR_not.2 (by omega)
    go_enter Tryd.func51, Tryd.ntmps51
    go_wp2
    go_ret
    exact ⟨ret_bool H.out.symm, rfl⟩

set_option maxHeartbeats 400000 in
theorem within_any (a b : Int) (w : World) :
    Calls Tryd.prog 49 #[.int .i64 a, .int .i64 b] w fun e w' => e = .returned (.bool (wiB a b)) ∧ w' = w := by
  cases ha : isR a with
  | false =>
    go_enter Tryd.func49, Tryd.ntmps49
    go_wp2_with (go_at_call 51; refine (is_any _ _).mono ?_; rintro e w' ⟨rfl, rfl⟩)
    go_ret
    exact ⟨by simp [wiB, ha], rfl⟩
  | true =>
    cases hb : isR b with
    | false =>
      go_enter Tryd.func49, Tryd.ntmps49
      go_wp2_with (go_at_call 51; refine (is_any _ _).mono ?_; rintro e w' ⟨rfl, rfl⟩)
      go_ret
      exact ⟨by simp [wiB, ha, hb], rfl⟩
    | true =>
      go_enter Tryd.func49, Tryd.ntmps49
      go_wp2_with (go_at_call 51; refine (is_any _ _).mono ?_; rintro e w' ⟨rfl, rfl⟩)
      go_ret
      exact ⟨by simp [wiB, ha, hb], rfl⟩

end Go.Proofs.YthnfekdoibhnpaaDoor.Rt
