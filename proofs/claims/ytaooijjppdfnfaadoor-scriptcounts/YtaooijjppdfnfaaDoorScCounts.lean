/- The walk of ScriptCounts: it answers true. -/
import Derived.Test.YtaooijjppdfnfaaDoorScLive
namespace Go.Proofs.YtaooijjppdfnfaaDoor.Sc
open Go.RowKit

set_option maxRecDepth 100000 in
set_option maxHeartbeats 1000000 in
theorem counts_in (ao : Option Addr) (l : List Int) (n cap : Nat) (x v c : Int) (g m : Nat) (w : World) (HN : Hid (n = l.length)) (hn : n ≤ 150) (hx : x ≤ 64) (RR : Hid (Row w ao (vals l))) (HE : Hid (Errs w)) (HG : Hid (Gap l x g)) (HC : Hid (m = cnt l c)) (r : Bool) (HF : Hid (r = decide ((g : Int) + 1 ≤ v))) :
    Calls Tryd.prog 4 #[.slice ao n cap, .int .i64 x, .int .i64 v, .int .i64 c] w fun e w' => e = .returned (.bool true) ∧ Below w.heap.size w w' := by
  go_enter Tryd.func4, Tryd.ntmps4
  go_wp2_with (first | (go_at_call 18; refine (count_core ao l n cap c m _ HN (by omega) RR HC).mono ?_; rintro e w' ⟨rfl, hw⟩; rw [hw]; clear hw w') | (go_at_call 19; refine (rcount_core ao l n cap c m _ HN (by omega) RR HC).mono ?_; rintro e w' ⟨rfl, hw⟩; rw [hw]; clear hw w'))
  have hf := fair_any ao l n cap x v g w HN (by show n ≤ 1000000; omega) RR HG
  rw [← HF.out] at hf
  refine hf.mono ?_
  clear hf
  rintro e w1 ⟨rfl, b1⟩
  have HB1 := hid b1
  have HE1 := hid (HE.out.below b1)
  have RR1 := hid (RR.out.below b1)
  clear b1
  have hf := rfair_any ao l n cap x v g w1 HN.out (by omega) hx RR1.out HG.out
  rw [← HF.out] at hf
  go_wp2_with fail
  refine hf.mono ?_
  clear hf
  rintro e w' ⟨rfl, hw⟩
  rw [hw]
  clear hw w'
  go_wp2_with fail
  refine (window_any ao l n cap x g _ HN.out (by omega) RR1.out HG.out).mono ?_
  rintro e w2 ⟨rfl, b2⟩
  have HB2 := hid (q_trans HB1.out b2)
  have HE2 := hid (HE1.out.below b2)
  have RR2 := hid (RR1.out.below b2)
  clear b2 HB1 HE1 RR1
  go_wp2_with fail
  refine (rwindow_any ao l n cap x g _ HN (by omega) hx RR2 HG).mono ?_
  rintro e w' ⟨rfl, hw⟩
  rw [hw]
  clear hw w'
  go_wp2_with fail
  refine (live_any _ HE2).mono ?_
  rintro e wz ⟨rfl, bz⟩
  have HZ := hid (q_trans HB2.out bz)
  clear bz
  go_wp2_with fail
  go_ret
  exact ⟨rfl, HZ.out⟩
set_option maxRecDepth 100000 in
set_option maxHeartbeats 1000000 in
theorem counts_out (ao : Option Addr) (n cap : Nat) (x v c : Int) (w : World) (hn : n ≤ 9223372036854775807) (HE : Hid (Errs w)) (h : ¬ (n ≤ 150 ∧ x ≤ 64)) :
    Calls Tryd.prog 4 #[.slice ao n cap, .int .i64 x, .int .i64 v, .int .i64 c] w fun e w' => e = .returned (.bool true) ∧ Below w.heap.size w w' := by
  by_cases h1 : n ≤ 150
  · have h2 : ¬ x ≤ 64 := fun h2 => h ⟨h1, h2⟩
    clear h
    go_enter Tryd.func4, Tryd.ntmps4
    go_wp2_with (go_at_call 9; refine (live_any _ HE).mono ?_; rintro e w1 ⟨rfl, b1⟩)
    go_ret
    exact ⟨rfl, b1⟩
  · clear h
    go_enter Tryd.func4, Tryd.ntmps4
    go_wp2_with (go_at_call 9; refine (live_any _ HE).mono ?_; rintro e w1 ⟨rfl, b1⟩)
    go_ret
    exact ⟨rfl, b1⟩
/-- SCRIPTCOUNTS ANSWERS TRUE, WHATEVER COMES. -/
theorem counts_any (ao : Option Addr) (l : List Int) (n cap : Nat) (x v c : Int) (w : World) (hl : n = l.length) (hn : n ≤ 9223372036854775807) (_hc : ao = none → cap = 0) (hr : Row w ao (vals l)) (HE : Errs w) :
    Calls Tryd.prog 4 #[.slice ao n cap, .int .i64 x, .int .i64 v, .int .i64 c] w fun e w' => e = .returned (.bool true) ∧ Below w.heap.size w w' := by
  by_cases h : n ≤ 150 ∧ x ≤ 64
  · obtain ⟨g, hg, _⟩ := gap_is l x
    exact counts_in ao l n cap x v c g _ w hl h.1 h.2 hr HE hg rfl _ rfl
  · exact counts_out ao n cap x v c w hn HE h
end Go.Proofs.YtaooijjppdfnfaaDoor.Sc
