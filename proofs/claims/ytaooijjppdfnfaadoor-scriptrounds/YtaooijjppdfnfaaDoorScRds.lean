/- The walk of ScriptRounds: it answers true. -/
import Derived.Test.YtaooijjppdfnfaaDoorScLive
namespace Go.Proofs.YtaooijjppdfnfaaDoor.Sc
open Go.RowKit

set_option maxRecDepth 100000 in
set_option maxHeartbeats 1000000 in
theorem rds_in (ao : Option Addr) (l : List Int) (n cap : Nat) (x k : Int) (w : World) (HN : Hid (n = l.length)) (hn : n ≤ 150) (hk : k ≤ 200) (RR : Hid (Row w ao (vals l))) (NN : Hid (ao = none → cap = 0)) (HE : Hid (Errs w)) :
    Calls Tryd.prog 5 #[.slice ao n cap, .int .i64 x, .int .i64 k] w fun e w' => e = .returned (.bool true) ∧ Below w.heap.size w w' := by
  have hlen := rdsI_len x k
  obtain ⟨R, hR⟩ : ∃ R, rdsI x k = R := ⟨_, rfl⟩
  have f1 := hid fun W => rounds_any x k W
  have f2 := hid fun W => rrounds_any x k W
  have f3 := hid fun (a : Option Addr) (p c : Nat) (W : World) => fill_any a l p c x k W
  have f4 := hid fun (a : Option Addr) (p c : Nat) (W : World) => rfill_any a l p c x k W
  rw [hR] at hlen f1 f2 f3 f4
  clear hR
  obtain ⟨M, hM⟩ : ∃ M, R.length = M := ⟨_, rfl⟩
  obtain ⟨Q, hQ⟩ : ∃ Q, l ++ R = Q := ⟨_, rfl⟩
  rw [hQ] at f3 f4
  obtain ⟨P, hP⟩ : ∃ P, Q.length = P := ⟨_, rfl⟩
  have hPM : P = n + M := by rw [← hP, ← hQ, List.length_append, hM, HN.out]
  rw [hM] at hlen f1 f2
  rw [hP] at f3 f4
  have HM := hid hM
  have HP := hid hP
  have L0 : Hid ((vals l).length = n * 1) := by rw [len_vals, HN.out]; simp [Hid]
  have HPM := hid hPM
  clear hM hP hQ hPM
  go_enter Tryd.func5, Tryd.ntmps5
  go_wp2_with fail
  refine (f1.out _).mono ?_
  rintro e w1 ⟨ao1, cap1, rfl, hm1, b1⟩
  have HB1 := hid b1
  have HE1 := hid (HE.out.below b1)
  have RR1 := hid (RR.out.below b1)
  have RA1 := hid (Mine.row hm1)
  clear b1 hm1
  go_wp2_with fail
  refine (f2.out _).mono ?_
  rintro e w2 ⟨ao2, cap2, rfl, hm2, b2⟩
  have HB2 := hid (q_trans HB1.out b2)
  have HE2 := hid (HE1.out.below b2)
  have RR2 := hid (RR1.out.below b2)
  have RA2 := hid (RA1.out.below b2)
  have RB2 := hid (Mine.row hm2)
  clear b2 hm2 HB1 HE1 RR1 RA1
  go_wp2_with fail
  refine (same_core ao1 ao2 R R M M cap1 cap2 true _ HM.out.symm HM.out.symm (by omega) (by omega) RA2 RB2 (by show _ = _; simp)).mono ?_
  rintro e w3 ⟨rfl, b3⟩
  have HB3 := hid (q_trans HB2.out b3)
  have HE3 := hid (HE2.out.below b3)
  have RR3 := hid (RR2.out.below b3)
  clear b3 HB2 HE2 RR2 RA2 RB2
  go_wp2_with (at_builtin; refine wpList_append_row_g _ (by exact rfl) _ _ 22 3 _ 1 8 rfl Tryd.underlying22 infoI rfl (by decide) (by decide) w3.heap.size _ 0 [] rfl (own0 w3 3 1) ao n cap (vals l) rfl L0.out NN.out (RR3.out.below (alloc_below w3 _)) (vals_one _) (by omega) (alloc_below w3 _).size ?_; intro ao4 cap4 w4 hown4 hgrow4; apply Hid.out)
  have b4 := app_below hgrow4
  rw [Nat.zero_add, List.nil_append] at hown4
  have hm4 := own_row hown4
  have HB4 := hid (q_trans HB3.out b4)
  have HE4 := hid (HE3.out.below b4)
  have RR4 := hid (RR3.out.below b4)
  have RC4 := hid hm4.1
  have NC4 := hid hm4.2.2.1
  clear hown4 hgrow4 b4 hm4 HB3 HE3 RR3
  unfold Hid
  go_wp2_with fail
  refine (f3.out _ _ _ _ HN (by omega) RC4 NC4).mono ?_
  rintro e w5 ⟨ao5, cap5, rfl, hm5, b5⟩
  have HB5 := hid (q_trans HB4.out b5)
  have HE5 := hid (HE4.out.below b5)
  have RR5 := hid (RR4.out.below b5)
  have RA5 := hid (Mine.row hm5)
  clear b5 hm5 HB4 HE4 RR4 RC4 NC4
  go_wp2_with fail
  refine (f4.out _ _ _ _ HN (by omega) RR5 NN).mono ?_
  rintro e w6 ⟨ao6, cap6, rfl, hm6, b6⟩
  have HB6 := hid (q_trans HB5.out b6)
  have HE6 := hid (HE5.out.below b6)
  have RA6 := hid (RA5.out.below b6)
  have RB6 := hid (Mine.row hm6)
  clear b6 hm6 HB5 HE5 RR5 RA5
  go_wp2_with fail
  refine (same_core ao5 ao6 Q Q P P cap5 cap6 true _ HP.out.symm HP.out.symm (by have := HPM.out; omega) (by have := HPM.out; omega) RA6 RB6 (by show _ = _; simp)).mono ?_
  rintro e w7 ⟨rfl, b7⟩
  have HB7 := hid (q_trans HB6.out b7)
  have HE7 := hid (HE6.out.below b7)
  clear b7 HB6 HE6 RA6 RB6
  go_wp2_with fail
  refine (live_any _ HE7).mono ?_
  rintro e wz ⟨rfl, bz⟩
  have HZ := hid (q_trans HB7.out bz)
  clear bz
  go_wp2_with fail
  go_ret
  exact ⟨rfl, HZ.out⟩
set_option maxRecDepth 100000 in
set_option maxHeartbeats 1000000 in
theorem rds_out (ao : Option Addr) (n cap : Nat) (x k : Int) (w : World) (hn : n ≤ 9223372036854775807) (HE : Hid (Errs w)) (h : ¬ (n ≤ 150 ∧ k ≤ 200)) :
    Calls Tryd.prog 5 #[.slice ao n cap, .int .i64 x, .int .i64 k] w fun e w' => e = .returned (.bool true) ∧ Below w.heap.size w w' := by
  by_cases h1 : n ≤ 150
  · have h2 : ¬ k ≤ 200 := fun h2 => h ⟨h1, h2⟩
    clear h
    go_enter Tryd.func5, Tryd.ntmps5
    go_wp2_with (go_at_call 9; refine (live_any _ HE).mono ?_; rintro e w1 ⟨rfl, b1⟩)
    go_ret
    exact ⟨rfl, b1⟩
  · clear h
    go_enter Tryd.func5, Tryd.ntmps5
    go_wp2_with (go_at_call 9; refine (live_any _ HE).mono ?_; rintro e w1 ⟨rfl, b1⟩)
    go_ret
    exact ⟨rfl, b1⟩
/-- SCRIPTROUNDS ANSWERS TRUE, WHATEVER COMES. -/
theorem rdsL_any (ao : Option Addr) (l : List Int) (n cap : Nat) (x k : Int) (w : World) (hl : n = l.length) (hn : n ≤ 9223372036854775807) (hc : ao = none → cap = 0) (hr : Row w ao (vals l)) (HE : Errs w) :
    Calls Tryd.prog 5 #[.slice ao n cap, .int .i64 x, .int .i64 k] w fun e w' => e = .returned (.bool true) ∧ Below w.heap.size w w' := by
  by_cases h : n ≤ 150 ∧ k ≤ 200
  · exact rds_in ao l n cap x k w hl h.1 h.2 hr hc HE
  · exact rds_out ao n cap x k w hn HE h
end Go.Proofs.YtaooijjppdfnfaaDoor.Sc
