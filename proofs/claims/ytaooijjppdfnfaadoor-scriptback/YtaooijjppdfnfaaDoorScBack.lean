/- The walk of ScriptBack: it answers true. -/
import Derived.Test.YtaooijjppdfnfaaDoorScLive
namespace Go.Proofs.YtaooijjppdfnfaaDoor.Sc
open Go.RowKit

set_option maxRecDepth 100000 in
set_option maxHeartbeats 1000000 in
theorem back_in (ao bo : Option Addr) (l m : List Int) (n k cap cap' : Nat) (w : World) (HN : Hid (n = l.length)) (HK : Hid (k = m.length)) (hn : n ≤ 150) (hk : k ≤ 150) (RR : Hid (Row w ao (vals l))) (SS : Hid (Row w bo (vals m))) (HE : Hid (Errs w)) (OL : Hid (okL l 64 = true)) (OM : Hid (okL m 64 = true)) (r : Bool) (HR : Hid (r = decide (l = m))) (hb : (putT l == putT m) = r) :
    Calls Tryd.prog 8 #[.slice ao n cap, .slice bo k cap'] w fun e w' => e = .returned (.bool true) ∧ Below w.heap.size w w' := by
  go_enter Tryd.func8, Tryd.ntmps8
  go_wp2_with (go_at_call 13; refine (check_core ao l n cap 64 0 _ HN (by omega) RR (chk_zero.2 OL.out).symm).mono ?_; rintro e w' ⟨rfl, hw⟩; rw [hw]; clear hw w'; apply Hid.out)
  unfold Hid
  go_wp2_with (go_at_call 12; refine (num_any _ _).mono ?_; rintro e w' ⟨rfl, hw⟩; rw [hw]; clear hw w')
  refine (check_core bo m k cap' 64 0 _ HK (by omega) SS (chk_zero.2 OM.out).symm).mono ?_
  rintro e w' ⟨rfl, hw⟩
  rw [hw]
  clear hw w'
  go_wp2_with (go_at_call 12; refine (num_any _ _).mono ?_; rintro e w' ⟨rfl, hw⟩; rw [hw]; clear hw w')
  have HT : Hid (parP (putT l) = some l) := parP_is.2 ⟨OL.out, by simp [putT, OL.out]⟩
  have HS : Hid ((⟨(putT l).toArray⟩ : ByteArray).size ≤ 100000) := by
    show _ ≤ _
    have h1 := putS_len l (scr OL.out)
    have h2 := HN.out
    rw [ba_size, putT, if_pos OL.out]
    omega
  refine (put_any ao l n cap _ HN.out (by omega) RR.out).mono ?_
  rintro e w1 ⟨rfl, b1⟩
  have HB1 := hid b1
  have HE1 := hid (HE.out.below b1)
  have RR1 := hid (RR.out.below b1)
  have SS1 := hid (SS.out.below b1)
  clear b1
  go_wp2_with fail
  refine (parse_yes ⟨(putT l).toArray⟩ l w1 HS.out HE1.out HT.out).mono ?_
  rintro e w2 ⟨ao2, cap2, rfl, hm2, b2⟩
  have HB2 := hid (q_trans HB1.out b2)
  have HE2 := hid (HE1.out.below b2)
  have RR2 := hid (RR1.out.below b2)
  have SS2 := hid (SS1.out.below b2)
  have RA2 := hid (Mine.row hm2)
  rw [← HN.out]
  clear b2 hm2 HB1 HE1 RR1 SS1
  go_wp2_with (go_at_call 12; refine (num_any _ _).mono ?_; rintro e w' ⟨rfl, hw⟩; rw [hw]; clear hw w')
  refine (same_core ao2 ao l l n n cap2 cap true _ HN HN (by omega) (by omega) RA2 RR2 (by show _ = _; simp)).mono ?_
  rintro e w3 ⟨rfl, b3⟩
  have HB3 := hid (q_trans HB2.out b3)
  have HE3 := hid (HE2.out.below b3)
  have RR3 := hid (RR2.out.below b3)
  have SS3 := hid (SS2.out.below b3)
  clear b3 HB2 HE2 RR2 SS2 RA2
  go_wp2_with fail
  refine (put_any ao l n cap _ HN.out (by omega) RR3.out).mono ?_
  rintro e w4 ⟨rfl, b4⟩
  have HB4 := hid (q_trans HB3.out b4)
  have HE4 := hid (HE3.out.below b4)
  have RR4 := hid (RR3.out.below b4)
  have SS4 := hid (SS3.out.below b4)
  clear b4 HB3 HE3 RR3 SS3
  go_wp2_with fail
  refine (put_any bo m k cap' _ HK.out (by omega) SS4.out).mono ?_
  rintro e w5 ⟨rfl, b5⟩
  have HB5 := hid (q_trans HB4.out b5)
  have HE5 := hid (HE4.out.below b5)
  have RR5 := hid (RR4.out.below b5)
  have SS5 := hid (SS4.out.below b5)
  clear b5 HB4 HE4 RR4 SS4
  go_wp2_with fail
  refine (same_core ao bo l m n k cap cap' r _ HN HK (by omega) (by omega) RR5 SS5 HR).mono ?_
  rintro e w6 ⟨rfl, b6⟩
  have HB6 := hid (q_trans HB5.out b6)
  have HE6 := hid (HE5.out.below b6)
  clear b6 HB5 HE5 RR5 SS5
  go_wp2_with fail
  refine (live_any _ HE6).mono ?_
  rintro e wz ⟨rfl, bz⟩
  have HZ := hid (q_trans HB6.out bz)
  clear bz
  go_wp2_with fail
  go_ret
  exact ⟨rfl, HZ.out⟩
set_option maxRecDepth 100000 in
set_option maxHeartbeats 1000000 in
theorem back_tf (ao bo : Option Addr) (l m : List Int) (n k cap cap' : Nat) (w : World) (HN : Hid (n = l.length)) (HK : Hid (k = m.length)) (hn : n ≤ 150) (hk : k ≤ 150) (RR : Hid (Row w ao (vals l))) (SS : Hid (Row w bo (vals m))) (HE : Hid (Errs w)) (OL : Hid (okL l 64 = true)) (OM : Hid (okL m 64 = false)) :
    Calls Tryd.prog 8 #[.slice ao n cap, .slice bo k cap'] w fun e w' => e = .returned (.bool true) ∧ Below w.heap.size w w' := by
  go_enter Tryd.func8, Tryd.ntmps8
  go_wp2_with (go_at_call 13; refine (check_core ao l n cap 64 0 _ HN (by omega) RR (by show _ = _; simp [chk, OL.out])).mono ?_; rintro e w' ⟨rfl, hw⟩; rw [hw]; clear hw w'; apply Hid.out)
  unfold Hid
  go_wp2_with (go_at_call 12; refine (num_any _ _).mono ?_; rintro e w' ⟨rfl, hw⟩; rw [hw]; clear hw w')
  refine (check_core bo m k cap' 64 2 _ HK (by omega) SS (by show _ = _; simp [chk, OM.out])).mono ?_
  rintro e w' ⟨rfl, hw⟩
  rw [hw]
  clear hw w'
  go_wp2_with (go_at_call 12; refine (num_any _ _).mono ?_; rintro e w' ⟨rfl, hw⟩; rw [hw]; clear hw w')
  refine (live_any _ HE).mono ?_
  rintro e wz ⟨rfl, bz⟩
  go_wp2_with fail
  go_ret
  exact ⟨rfl, bz⟩
set_option maxRecDepth 100000 in
set_option maxHeartbeats 1000000 in
theorem back_ft (ao bo : Option Addr) (l m : List Int) (n k cap cap' : Nat) (w : World) (HN : Hid (n = l.length)) (HK : Hid (k = m.length)) (hn : n ≤ 150) (hk : k ≤ 150) (RR : Hid (Row w ao (vals l))) (SS : Hid (Row w bo (vals m))) (HE : Hid (Errs w)) (OL : Hid (okL l 64 = false)) (OM : Hid (okL m 64 = true)) :
    Calls Tryd.prog 8 #[.slice ao n cap, .slice bo k cap'] w fun e w' => e = .returned (.bool true) ∧ Below w.heap.size w w' := by
  go_enter Tryd.func8, Tryd.ntmps8
  go_wp2_with (go_at_call 13; refine (check_core ao l n cap 64 2 _ HN (by omega) RR (by show _ = _; simp [chk, OL.out])).mono ?_; rintro e w' ⟨rfl, hw⟩; rw [hw]; clear hw w'; apply Hid.out)
  unfold Hid
  go_wp2_with (go_at_call 12; refine (num_any _ _).mono ?_; rintro e w' ⟨rfl, hw⟩; rw [hw]; clear hw w')
  refine (check_core bo m k cap' 64 0 _ HK (by omega) SS (by show _ = _; simp [chk, OM.out])).mono ?_
  rintro e w' ⟨rfl, hw⟩
  rw [hw]
  clear hw w'
  go_wp2_with (go_at_call 12; refine (num_any _ _).mono ?_; rintro e w' ⟨rfl, hw⟩; rw [hw]; clear hw w')
  refine (live_any _ HE).mono ?_
  rintro e wz ⟨rfl, bz⟩
  go_wp2_with fail
  go_ret
  exact ⟨rfl, bz⟩
set_option maxRecDepth 100000 in
set_option maxHeartbeats 1000000 in
theorem back_ff (ao bo : Option Addr) (l m : List Int) (n k cap cap' : Nat) (w : World) (HN : Hid (n = l.length)) (HK : Hid (k = m.length)) (hn : n ≤ 150) (hk : k ≤ 150) (RR : Hid (Row w ao (vals l))) (SS : Hid (Row w bo (vals m))) (HE : Hid (Errs w)) (OL : Hid (okL l 64 = false)) (OM : Hid (okL m 64 = false)) :
    Calls Tryd.prog 8 #[.slice ao n cap, .slice bo k cap'] w fun e w' => e = .returned (.bool true) ∧ Below w.heap.size w w' := by
  go_enter Tryd.func8, Tryd.ntmps8
  go_wp2_with (go_at_call 13; refine (check_core ao l n cap 64 2 _ HN (by omega) RR (by show _ = _; simp [chk, OL.out])).mono ?_; rintro e w' ⟨rfl, hw⟩; rw [hw]; clear hw w'; apply Hid.out)
  unfold Hid
  go_wp2_with (go_at_call 12; refine (num_any _ _).mono ?_; rintro e w' ⟨rfl, hw⟩; rw [hw]; clear hw w')
  refine (check_core bo m k cap' 64 2 _ HK (by omega) SS (by show _ = _; simp [chk, OM.out])).mono ?_
  rintro e w' ⟨rfl, hw⟩
  rw [hw]
  clear hw w'
  go_wp2_with (go_at_call 12; refine (num_any _ _).mono ?_; rintro e w' ⟨rfl, hw⟩; rw [hw]; clear hw w')
  refine (live_any _ HE).mono ?_
  rintro e wz ⟨rfl, bz⟩
  go_wp2_with fail
  go_ret
  exact ⟨rfl, bz⟩
set_option maxRecDepth 100000 in
set_option maxHeartbeats 1000000 in
theorem back_out (ao bo : Option Addr) (n k cap cap' : Nat) (w : World) (hn : n ≤ 9223372036854775807) (hk : k ≤ 9223372036854775807) (HE : Hid (Errs w)) (h : ¬ (n ≤ 150 ∧ k ≤ 150)) :
    Calls Tryd.prog 8 #[.slice ao n cap, .slice bo k cap'] w fun e w' => e = .returned (.bool true) ∧ Below w.heap.size w w' := by
  by_cases h1 : n ≤ 150
  · have h2 : ¬ k ≤ 150 := fun h2 => h ⟨h1, h2⟩
    clear h
    go_enter Tryd.func8, Tryd.ntmps8
    go_wp2_with (go_at_call 9; refine (live_any _ HE).mono ?_; rintro e w1 ⟨rfl, b1⟩)
    go_ret
    exact ⟨rfl, b1⟩
  · clear h
    go_enter Tryd.func8, Tryd.ntmps8
    go_wp2_with (go_at_call 9; refine (live_any _ HE).mono ?_; rintro e w1 ⟨rfl, b1⟩)
    go_ret
    exact ⟨rfl, b1⟩
/-- SCRIPTBACK ANSWERS TRUE, WHATEVER COMES. -/
theorem back_any (ao : Option Addr) (l : List Int) (n cap : Nat) (bo : Option Addr) (m : List Int) (k cap' : Nat) (w : World) (hl : n = l.length) (hn : n ≤ 9223372036854775807) (_hc : ao = none → cap = 0) (hr : Row w ao (vals l)) (hm : k = m.length) (hk : k ≤ 9223372036854775807) (_hc' : bo = none → cap' = 0) (hs : Row w bo (vals m)) (HE : Errs w) :
    Calls Tryd.prog 8 #[.slice ao n cap, .slice bo k cap'] w fun e w' => e = .returned (.bool true) ∧ Below w.heap.size w w' := by
  by_cases h : n ≤ 150 ∧ k ≤ 150
  · cases ol : okL l 64 with
    | true =>
      cases om : okL m 64 with
      | true =>
        refine back_in ao bo l m n k cap cap' w hl hm h.1 h.2 hr hs HE ol om _ rfl ?_
        by_cases e : l = m
        · subst e; simp
        · rw [show decide (l = m) = false by simp [e]]
          simp only [beq_eq_false_iff_ne, ne_eq]
          intro he
          simp only [putT, ol, om, if_true] at he
          exact e (put_one ol om he)
      | false => exact back_tf ao bo l m n k cap cap' w hl hm h.1 h.2 hr hs HE ol om
    | false =>
      cases om : okL m 64 with
      | true => exact back_ft ao bo l m n k cap cap' w hl hm h.1 h.2 hr hs HE ol om
      | false => exact back_ff ao bo l m n k cap cap' w hl hm h.1 h.2 hr hs HE ol om
  · exact back_out ao bo n k cap cap' w hn hk HE h
end Go.Proofs.YtaooijjppdfnfaaDoor.Sc
