/- The walk of RightsMeets: it answers true. -/
import Derived.Test.YtepadldbhjbjaaaDoorRtApp
import Derived.Test.YtepadldbhjbjaaaDoorRtRefC
namespace Go.Proofs.YtepadldbhjbjaaaDoor.Rt
open Go.RowKit

set_option maxRecDepth 100000 in
set_option maxHeartbeats 2000000 in
theorem meets_long (ao : Option Addr) (n cap : Nat) (a b : Int) (w : World) (HT : Hid (Tab w)) (hn : 100 < n) (hn2 : n ≤ 9223372036854775807) :
    Calls Tryd.prog 4 #[.slice ao n cap, .int .i64 a, .int .i64 b] w fun e w' => e = .returned (.bool true) ∧ Below w.heap.size w w' := by
  go_enter Tryd.func4, Tryd.ntmps4
  go_wp2_with (go_at_call 9; refine (live_any _ HT.out).mono ?_; rintro e w6 ⟨rfl, b6⟩)
  go_ret
  exact ⟨rfl, b6⟩

set_option maxRecDepth 100000 in
set_option maxHeartbeats 2000000 in
theorem meets_short (ao : Option Addr) (l : List Int) (cap : Nat) (a b : Int) (w : World) (HT : Hid (Tab w)) (hn : l.length ≤ 100) (HC : Hid (ao = none → cap = 0)) (HL : Hid (Lies w ao l)) :
    Calls Tryd.prog 4 #[.slice ao l.length cap, .int .i64 a, .int .i64 b] w fun e w' => e = .returned (.bool true) ∧ Below w.heap.size w w' := by
  go_enter Tryd.func4, Tryd.ntmps4
  go_wp2_with (at_builtin; refine wpList_append_ints _ rfl (.tmp 24) (.tmp 25) rfl w.heap.size _ 0 [] rfl (own0 w) ao l.length cap l rfl rfl HC.out (HL.out.below (alloc_below w _)) (by omega) (alloc_below w _).size ?_; intro v1 w1 hown1 hgrow1; have b1 := app_below hgrow1; obtain ⟨ao1, cap1, rfl, hl1, hle1, hc1, hlies1⟩ := own_lies hown1; clear hown1 hgrow1 hl1 hle1 hc1; have H1 : Hid (Lies w1 ao1 l) := hlies1; clear hlies1)
  refine (meet_any ao1 l _ cap1 w1 (by simp) (by omega) H1.out).mono ?_
  rintro e w2 ⟨rfl, rfl⟩
  go_wp2_with fail
  refine (rmeet_any ao l cap _ hn (HL.out.below b1)).mono ?_
  rintro e w2 ⟨rfl, rfl⟩
  go_wp2_with (at_builtin; refine wpList_append_ints _ rfl (.tmp 36) (.tmp 37) rfl w2.heap.size _ 0 [] rfl (own0 w2) ao l.length cap l rfl rfl HC.out (HL.out.below (q_alloc b1 _)) (by omega) (alloc_below w2 _).size ?_; intro v3 w3 hown3 hgrow3; have b3 := q_trans b1 (app_below hgrow3); obtain ⟨ao3, cap3, rfl, hl3, hle3, hc3, hlies3⟩ := own_lies hown3; clear hown3 hgrow3 hl3 hle3 hc3; have H3 : Hid (Lies w3 ao3 l) := hlies3; clear hlies3)
  refine (join_any ao3 l _ cap3 w3 (by simp) (by omega) H3.out).mono ?_
  rintro e w4 ⟨rfl, rfl⟩
  go_wp2_with fail
  refine (rjoin_any ao l cap _ hn (HL.out.below b3)).mono ?_
  rintro e w4 ⟨rfl, rfl⟩
  go_wp2_with (first | (go_at_call 23; refine (less_any _ _ _).mono ?_; rintro e w5 ⟨rfl, rfl⟩) | (go_at_call 24; refine (rless_ref _ _ _).mono ?_; rintro e w5 ⟨rfl, rfl⟩) | (go_at_call 18; refine (num_any _ _).mono ?_; rintro e w5 ⟨rfl, rfl⟩) | (go_at_call 9; refine (live_any _ (HT.out.below b3)).mono ?_; rintro e w6 ⟨rfl, b6⟩; replace b6 := q_trans b3 b6))
  go_ret
  exact ⟨rfl, b6⟩

theorem meets_any (ao : Option Addr) (l : List Int) (n cap : Nat) (a b : Int) (w : World) (hl : n = l.length) (hn : n ≤ 9223372036854775807) (hc : ao = none → cap = 0) (hL : Lies w ao l) (hT : Tab w) :
    Calls Tryd.prog 4 #[.slice ao n cap, .int .i64 a, .int .i64 b] w fun e w' => e = .returned (.bool true) ∧ Below w.heap.size w w' := by
  by_cases h : n ≤ 100
  · subst hl
    exact meets_short ao l cap a b w hT h hc hL
  · exact meets_long ao n cap a b w hT (by omega) hn
end Go.Proofs.YtepadldbhjbjaaaDoor.Rt
