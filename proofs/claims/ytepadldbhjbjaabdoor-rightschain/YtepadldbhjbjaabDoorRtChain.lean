/- The walk of RightsChain: it answers true. -/
import Derived.Test.YtepadldbhjbjaabDoorRtW5
import Derived.Test.YtepadldbhjbjaabDoorRtFacts
namespace Go.Proofs.YtepadldbhjbjaabDoor.Rt
open Go.RowKit

set_option maxRecDepth 100000 in
set_option maxHeartbeats 4000000 in
theorem chain_any (a b c : Int) (w : World) (hT : Tab w) :
    Calls Tryd.prog 3 #[.int .i64 a, .int .i64 b, .int .i64 c] w fun e w' => e = .returned (.bool true) ∧ Below w.heap.size w w' := by
  have HT : Hid (Tab w) := hT
  clear hT
  have haa := wiB_self a
  cases hp : wiB a b with
  | false =>
    go_enter Tryd.func3, Tryd.ntmps3
    go_wp2_with (first | (go_at_call 4; refine (within_any _ _ _).mono ?_; rintro e w5 ⟨rfl, rfl⟩) | (go_at_call 5; refine (is_any _ _).mono ?_; rintro e w5 ⟨rfl, rfl⟩) | (go_at_call 6; refine (live_any _ HT.out).mono ?_; rintro e w6 ⟨rfl, b6⟩))
    go_ret
    exact ⟨rfl, b6⟩
  | true =>
    have hle := wiB_le hp
    have hne : wiB b a = true → (a != b) = false := fun h => by rw [bne_eq_false_iff_eq]; exact wiB_anti hp h
    have htr : wiB b c = true → wiB a c = true := fun h => wiB_trans hp h
    cases hq : wiB b a with
    | false =>
      clear hne
      cases hs : wiB b c with
      | false =>
        clear htr
        go_enter Tryd.func3, Tryd.ntmps3
        go_wp2_with (first | (go_at_call 4; refine (within_any _ _ _).mono ?_; rintro e w5 ⟨rfl, rfl⟩) | (go_at_call 5; refine (is_any _ _).mono ?_; rintro e w5 ⟨rfl, rfl⟩) | (go_at_call 6; refine (live_any _ HT.out).mono ?_; rintro e w6 ⟨rfl, b6⟩))
        go_ret
        exact ⟨rfl, b6⟩
      | true =>
        replace htr := htr hs
        go_enter Tryd.func3, Tryd.ntmps3
        go_wp2_with (first | (go_at_call 4; refine (within_any _ _ _).mono ?_; rintro e w5 ⟨rfl, rfl⟩) | (go_at_call 5; refine (is_any _ _).mono ?_; rintro e w5 ⟨rfl, rfl⟩) | (go_at_call 6; refine (live_any _ HT.out).mono ?_; rintro e w6 ⟨rfl, b6⟩))
        go_ret
        exact ⟨rfl, b6⟩
    | true =>
      replace hne := hne hq
      cases hs : wiB b c with
      | false =>
        clear htr
        go_enter Tryd.func3, Tryd.ntmps3
        go_wp2_with (first | (go_at_call 4; refine (within_any _ _ _).mono ?_; rintro e w5 ⟨rfl, rfl⟩) | (go_at_call 5; refine (is_any _ _).mono ?_; rintro e w5 ⟨rfl, rfl⟩) | (go_at_call 6; refine (live_any _ HT.out).mono ?_; rintro e w6 ⟨rfl, b6⟩))
        go_ret
        exact ⟨rfl, b6⟩
      | true =>
        replace htr := htr hs
        go_enter Tryd.func3, Tryd.ntmps3
        go_wp2_with (first | (go_at_call 4; refine (within_any _ _ _).mono ?_; rintro e w5 ⟨rfl, rfl⟩) | (go_at_call 5; refine (is_any _ _).mono ?_; rintro e w5 ⟨rfl, rfl⟩) | (go_at_call 6; refine (live_any _ HT.out).mono ?_; rintro e w6 ⟨rfl, b6⟩))
        go_ret
        exact ⟨rfl, b6⟩
end Go.Proofs.YtepadldbhjbjaabDoor.Rt
