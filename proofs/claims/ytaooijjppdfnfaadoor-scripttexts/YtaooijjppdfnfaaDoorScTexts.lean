/- The walk of ScriptTexts: it answers true. -/
import Derived.Test.YtaooijjppdfnfaaDoorScLive
namespace Go.Proofs.YtaooijjppdfnfaaDoor.Sc
open Go.RowKit

theorem parP_len {s : List UInt8} {l : List Int} (h : parP s = some l) : l.length ≤ s.length + 1 := by
  unfold parP at h
  split at h
  · cases h; simp
  · split at h
    · cases h
    · rename_i m hm
      split at h
      · cases h
        have := allA_len hm
        have := pieces_len s
        omega
      · cases h
set_option maxRecDepth 100000 in
set_option maxHeartbeats 1000000 in
theorem texts_1 (ao : Option Addr) (l : List Int) (n cap : Nat) (x : Int) (S : ByteArray) (w : World) (HN : Hid (n = l.length)) (hn : n ≤ 150) (hS : S.size ≤ 1000) (RR : Hid (Row w ao (vals l))) (HE : Hid (Errs w)) (HK : Hid (okL l x = true)) (HP : Hid (parP S.data.toList = none)) :
    Calls Tryd.prog 3 #[.slice ao n cap, .int .i64 x, .string S] w fun e w' => e = .returned (.bool true) ∧ Below w.heap.size w w' := by
  go_enter Tryd.func3, Tryd.ntmps3
  go_wp2_with fail
  refine (parse_no S w (by omega) HE.out HP.out).mono ?_
  rintro e w1 ⟨rfl, b1⟩
  have HB1 := hid b1
  have HE1 := hid (HE.out.below b1)
  have RR1 := hid (RR.out.below b1)
  clear b1
  go_wp2_with fail
  refine (rparse_any S w1 (by omega)).mono ?_
  rintro e w2 (⟨ms, ao2, cap2, h1, _⟩ | ⟨_, rfl, b2⟩)
  · rw [HP.out] at h1; cases h1
  have HB2 := hid (q_trans HB1.out b2)
  have HE2 := hid (HE1.out.below b2)
  have RR2 := hid (RR1.out.below b2)
  have RA : Hid (Row w2 none (vals [])) := row_nil _ _
  have RB : Hid (Row w2 none (vals [])) := row_nil _ _
  clear b2 HB1 HE1 RR1
  go_wp2_with (first | (go_at_call 13; refine (check_core ao l n cap x 0 _ HN (by omega) RR2 (by show _ = _; simp [chk, HK.out])).mono ?_; rintro e w' ⟨rfl, hw⟩; rw [hw]; clear hw w') | (go_at_call 12; refine (num_any _ _).mono ?_; rintro e w' ⟨rfl, hw⟩; rw [hw]; clear hw w') | (go_at_call 14; refine (is_core ao l n cap x true _ HN (by omega) RR2 HK.out.symm).mono ?_; rintro e w' ⟨rfl, hw⟩; rw [hw]; clear hw w'))
  refine (put_any ao l n cap _ HN.out (by omega) RR2.out).mono ?_
  rintro e w3 ⟨rfl, b3⟩
  have HB3 := hid (q_trans HB2.out b3)
  have HE3 := hid (HE2.out.below b3)
  have RR3 := hid (RR2.out.below b3)
  have RA3 := hid (RA.out.below b3)
  have RB3 := hid (RB.out.below b3)
  clear b3 HB2 HE2 RR2 RA RB
  obtain ⟨T, hT⟩ : ∃ T : ByteArray, ⟨(putT l).toArray⟩ = T := ⟨_, rfl⟩
  have hput := rput_any ao l n cap w3 HN.out (by omega) RR3.out
  rw [hT] at hput ⊢
  clear hT
  go_wp2_with fail
  refine hput.mono ?_
  clear hput
  rintro e w' ⟨rfl, hw⟩
  rw [hw]
  clear hw w'
  go_wp2_with fail
  refine (same_core none none [] [] 0 0 0 0 true _ rfl rfl (by decide) (by decide) RA3 RB3 rfl).mono ?_
  rintro e w4 ⟨rfl, b4⟩
  have HB4 := hid (q_trans HB3.out b4)
  have HE4 := hid (HE3.out.below b4)
  clear b4 HB3 HE3 RR3 RA3 RB3
  go_wp2_with (go_at_call 12; refine (num_any _ _).mono ?_; rintro e w' ⟨rfl, hw⟩; rw [hw]; clear hw w')
  refine (live_any _ HE4).mono ?_
  rintro e wz ⟨rfl, bz⟩
  have HZ := hid (q_trans HB4.out bz)
  clear bz
  go_wp2_with fail
  go_ret
  exact ⟨rfl, HZ.out⟩
set_option maxRecDepth 100000 in
set_option maxHeartbeats 1000000 in
theorem texts_2 (ao : Option Addr) (l : List Int) (n cap : Nat) (x : Int) (S : ByteArray) (w : World) (HN : Hid (n = l.length)) (hn : n ≤ 150) (hS : S.size ≤ 1000) (RR : Hid (Row w ao (vals l))) (HE : Hid (Errs w)) (HK : Hid (okL l x = false)) (HP : Hid (parP S.data.toList = none)) :
    Calls Tryd.prog 3 #[.slice ao n cap, .int .i64 x, .string S] w fun e w' => e = .returned (.bool true) ∧ Below w.heap.size w w' := by
  go_enter Tryd.func3, Tryd.ntmps3
  go_wp2_with fail
  refine (parse_no S w (by omega) HE.out HP.out).mono ?_
  rintro e w1 ⟨rfl, b1⟩
  have HB1 := hid b1
  have HE1 := hid (HE.out.below b1)
  have RR1 := hid (RR.out.below b1)
  clear b1
  go_wp2_with fail
  refine (rparse_any S w1 (by omega)).mono ?_
  rintro e w2 (⟨ms, ao2, cap2, h1, _⟩ | ⟨_, rfl, b2⟩)
  · rw [HP.out] at h1; cases h1
  have HB2 := hid (q_trans HB1.out b2)
  have HE2 := hid (HE1.out.below b2)
  have RR2 := hid (RR1.out.below b2)
  have RA : Hid (Row w2 none (vals [])) := row_nil _ _
  have RB : Hid (Row w2 none (vals [])) := row_nil _ _
  clear b2 HB1 HE1 RR1
  go_wp2_with (first | (go_at_call 13; refine (check_core ao l n cap x 2 _ HN (by omega) RR2 (by show _ = _; simp [chk, HK.out])).mono ?_; rintro e w' ⟨rfl, hw⟩; rw [hw]; clear hw w') | (go_at_call 12; refine (num_any _ _).mono ?_; rintro e w' ⟨rfl, hw⟩; rw [hw]; clear hw w') | (go_at_call 14; refine (is_core ao l n cap x false _ HN (by omega) RR2 HK.out.symm).mono ?_; rintro e w' ⟨rfl, hw⟩; rw [hw]; clear hw w'))
  refine (put_any ao l n cap _ HN.out (by omega) RR2.out).mono ?_
  rintro e w3 ⟨rfl, b3⟩
  have HB3 := hid (q_trans HB2.out b3)
  have HE3 := hid (HE2.out.below b3)
  have RR3 := hid (RR2.out.below b3)
  have RA3 := hid (RA.out.below b3)
  have RB3 := hid (RB.out.below b3)
  clear b3 HB2 HE2 RR2 RA RB
  obtain ⟨T, hT⟩ : ∃ T : ByteArray, ⟨(putT l).toArray⟩ = T := ⟨_, rfl⟩
  have hput := rput_any ao l n cap w3 HN.out (by omega) RR3.out
  rw [hT] at hput ⊢
  clear hT
  go_wp2_with fail
  refine hput.mono ?_
  clear hput
  rintro e w' ⟨rfl, hw⟩
  rw [hw]
  clear hw w'
  go_wp2_with fail
  refine (same_core none none [] [] 0 0 0 0 true _ rfl rfl (by decide) (by decide) RA3 RB3 rfl).mono ?_
  rintro e w4 ⟨rfl, b4⟩
  have HB4 := hid (q_trans HB3.out b4)
  have HE4 := hid (HE3.out.below b4)
  clear b4 HB3 HE3 RR3 RA3 RB3
  go_wp2_with (go_at_call 12; refine (num_any _ _).mono ?_; rintro e w' ⟨rfl, hw⟩; rw [hw]; clear hw w')
  refine (live_any _ HE4).mono ?_
  rintro e wz ⟨rfl, bz⟩
  have HZ := hid (q_trans HB4.out bz)
  clear bz
  go_wp2_with fail
  go_ret
  exact ⟨rfl, HZ.out⟩
set_option maxRecDepth 100000 in
set_option maxHeartbeats 1000000 in
theorem texts_3 (ao : Option Addr) (l : List Int) (n cap : Nat) (x : Int) (S : ByteArray) (ls : List Int) (w : World) (HN : Hid (n = l.length)) (hn : n ≤ 150) (hS : S.size ≤ 1000) (RR : Hid (Row w ao (vals l))) (HE : Hid (Errs w)) (HK : Hid (okL l x = true)) (HP : Hid (parP S.data.toList = some ls)) :
    Calls Tryd.prog 3 #[.slice ao n cap, .int .i64 x, .string S] w fun e w' => e = .returned (.bool true) ∧ Below w.heap.size w w' := by
  go_enter Tryd.func3, Tryd.ntmps3
  go_wp2_with fail
  refine (parse_yes S ls w (by omega) HE.out HP.out).mono ?_
  rintro e w1 ⟨ao1, cap1, rfl, hm1, b1⟩
  have HB1 := hid b1
  have HE1 := hid (HE.out.below b1)
  have RR1 := hid (RR.out.below b1)
  have RA1 := hid (Mine.row hm1)
  clear b1 hm1
  go_wp2_with fail
  refine (rparse_any S w1 (by omega)).mono ?_
  rintro e w2 (⟨ms, ao2, cap2, h1, rfl, hm2, b2⟩ | ⟨h1, _⟩)
  case' inr => rw [HP.out] at h1; cases h1
  have hms : ms = ls := by rw [HP.out] at h1; injection h1 with h1; exact h1.symm
  subst hms
  have hlen : ms.length ≤ 1001 := by
    have h2 := (parP_is.1 h1)
    have h3 := parP_len h1
    have h4 : S.data.toList.length = S.size := rfl
    omega
  have HB2 := hid (q_trans HB1.out b2)
  have HE2 := hid (HE1.out.below b2)
  have RR2 := hid (RR1.out.below b2)
  have RA := hid (RA1.out.below b2)
  have RB := hid (Mine.row hm2)
  clear b2 hm2 HB1 HE1 RR1 RA1 h1
  go_wp2_with (first | (go_at_call 13; refine (check_core ao l n cap x 0 _ HN (by omega) RR2 (by show _ = _; simp [chk, HK.out])).mono ?_; rintro e w' ⟨rfl, hw⟩; rw [hw]; clear hw w') | (go_at_call 12; refine (num_any _ _).mono ?_; rintro e w' ⟨rfl, hw⟩; rw [hw]; clear hw w') | (go_at_call 14; refine (is_core ao l n cap x true _ HN (by omega) RR2 HK.out.symm).mono ?_; rintro e w' ⟨rfl, hw⟩; rw [hw]; clear hw w'))
  refine (put_any ao l n cap _ HN.out (by omega) RR2.out).mono ?_
  rintro e w3 ⟨rfl, b3⟩
  have HB3 := hid (q_trans HB2.out b3)
  have HE3 := hid (HE2.out.below b3)
  have RR3 := hid (RR2.out.below b3)
  have RA3 := hid (RA.out.below b3)
  have RB3 := hid (RB.out.below b3)
  clear b3 HB2 HE2 RR2 RA RB
  obtain ⟨T, hT⟩ : ∃ T : ByteArray, ⟨(putT l).toArray⟩ = T := ⟨_, rfl⟩
  have hput := rput_any ao l n cap w3 HN.out (by omega) RR3.out
  rw [hT] at hput ⊢
  clear hT
  go_wp2_with fail
  refine hput.mono ?_
  clear hput
  rintro e w' ⟨rfl, hw⟩
  rw [hw]
  clear hw w'
  go_wp2_with fail
  refine (same_core ao1 ao2 ms ms ms.length ms.length cap1 cap2 true _ rfl rfl (by omega) (by omega) RA3 RB3 (by show _ = _; simp)).mono ?_
  rintro e w4 ⟨rfl, b4⟩
  have HB4 := hid (q_trans HB3.out b4)
  have HE4 := hid (HE3.out.below b4)
  clear b4 HB3 HE3 RR3 RA3 RB3
  go_wp2_with (go_at_call 12; refine (num_any _ _).mono ?_; rintro e w' ⟨rfl, hw⟩; rw [hw]; clear hw w')
  refine (live_any _ HE4).mono ?_
  rintro e wz ⟨rfl, bz⟩
  have HZ := hid (q_trans HB4.out bz)
  clear bz
  go_wp2_with fail
  go_ret
  exact ⟨rfl, HZ.out⟩
set_option maxRecDepth 100000 in
set_option maxHeartbeats 1000000 in
theorem texts_4 (ao : Option Addr) (l : List Int) (n cap : Nat) (x : Int) (S : ByteArray) (ls : List Int) (w : World) (HN : Hid (n = l.length)) (hn : n ≤ 150) (hS : S.size ≤ 1000) (RR : Hid (Row w ao (vals l))) (HE : Hid (Errs w)) (HK : Hid (okL l x = false)) (HP : Hid (parP S.data.toList = some ls)) :
    Calls Tryd.prog 3 #[.slice ao n cap, .int .i64 x, .string S] w fun e w' => e = .returned (.bool true) ∧ Below w.heap.size w w' := by
  go_enter Tryd.func3, Tryd.ntmps3
  go_wp2_with fail
  refine (parse_yes S ls w (by omega) HE.out HP.out).mono ?_
  rintro e w1 ⟨ao1, cap1, rfl, hm1, b1⟩
  have HB1 := hid b1
  have HE1 := hid (HE.out.below b1)
  have RR1 := hid (RR.out.below b1)
  have RA1 := hid (Mine.row hm1)
  clear b1 hm1
  go_wp2_with fail
  refine (rparse_any S w1 (by omega)).mono ?_
  rintro e w2 (⟨ms, ao2, cap2, h1, rfl, hm2, b2⟩ | ⟨h1, _⟩)
  case' inr => rw [HP.out] at h1; cases h1
  have hms : ms = ls := by rw [HP.out] at h1; injection h1 with h1; exact h1.symm
  subst hms
  have hlen : ms.length ≤ 1001 := by
    have h2 := (parP_is.1 h1)
    have h3 := parP_len h1
    have h4 : S.data.toList.length = S.size := rfl
    omega
  have HB2 := hid (q_trans HB1.out b2)
  have HE2 := hid (HE1.out.below b2)
  have RR2 := hid (RR1.out.below b2)
  have RA := hid (RA1.out.below b2)
  have RB := hid (Mine.row hm2)
  clear b2 hm2 HB1 HE1 RR1 RA1 h1
  go_wp2_with (first | (go_at_call 13; refine (check_core ao l n cap x 2 _ HN (by omega) RR2 (by show _ = _; simp [chk, HK.out])).mono ?_; rintro e w' ⟨rfl, hw⟩; rw [hw]; clear hw w') | (go_at_call 12; refine (num_any _ _).mono ?_; rintro e w' ⟨rfl, hw⟩; rw [hw]; clear hw w') | (go_at_call 14; refine (is_core ao l n cap x false _ HN (by omega) RR2 HK.out.symm).mono ?_; rintro e w' ⟨rfl, hw⟩; rw [hw]; clear hw w'))
  refine (put_any ao l n cap _ HN.out (by omega) RR2.out).mono ?_
  rintro e w3 ⟨rfl, b3⟩
  have HB3 := hid (q_trans HB2.out b3)
  have HE3 := hid (HE2.out.below b3)
  have RR3 := hid (RR2.out.below b3)
  have RA3 := hid (RA.out.below b3)
  have RB3 := hid (RB.out.below b3)
  clear b3 HB2 HE2 RR2 RA RB
  obtain ⟨T, hT⟩ : ∃ T : ByteArray, ⟨(putT l).toArray⟩ = T := ⟨_, rfl⟩
  have hput := rput_any ao l n cap w3 HN.out (by omega) RR3.out
  rw [hT] at hput ⊢
  clear hT
  go_wp2_with fail
  refine hput.mono ?_
  clear hput
  rintro e w' ⟨rfl, hw⟩
  rw [hw]
  clear hw w'
  go_wp2_with fail
  refine (same_core ao1 ao2 ms ms ms.length ms.length cap1 cap2 true _ rfl rfl (by omega) (by omega) RA3 RB3 (by show _ = _; simp)).mono ?_
  rintro e w4 ⟨rfl, b4⟩
  have HB4 := hid (q_trans HB3.out b4)
  have HE4 := hid (HE3.out.below b4)
  clear b4 HB3 HE3 RR3 RA3 RB3
  go_wp2_with (go_at_call 12; refine (num_any _ _).mono ?_; rintro e w' ⟨rfl, hw⟩; rw [hw]; clear hw w')
  refine (live_any _ HE4).mono ?_
  rintro e wz ⟨rfl, bz⟩
  have HZ := hid (q_trans HB4.out bz)
  clear bz
  go_wp2_with fail
  go_ret
  exact ⟨rfl, HZ.out⟩
set_option maxRecDepth 100000 in
set_option maxHeartbeats 1000000 in
theorem texts_out (ao : Option Addr) (n cap : Nat) (x : Int) (S : ByteArray) (w : World) (hn : n ≤ 9223372036854775807) (hS : S.size ≤ 9223372036854775807) (HE : Hid (Errs w)) (h : ¬ (n ≤ 150 ∧ S.size ≤ 1000)) :
    Calls Tryd.prog 3 #[.slice ao n cap, .int .i64 x, .string S] w fun e w' => e = .returned (.bool true) ∧ Below w.heap.size w w' := by
  by_cases h1 : n ≤ 150
  · have h2 : ¬ S.size ≤ 1000 := fun h2 => h ⟨h1, h2⟩
    clear h
    go_enter Tryd.func3, Tryd.ntmps3
    go_wp2_with (go_at_call 9; refine (live_any _ HE).mono ?_; rintro e w1 ⟨rfl, b1⟩)
    go_ret
    exact ⟨rfl, b1⟩
  · clear h
    go_enter Tryd.func3, Tryd.ntmps3
    go_wp2_with (go_at_call 9; refine (live_any _ HE).mono ?_; rintro e w1 ⟨rfl, b1⟩)
    go_ret
    exact ⟨rfl, b1⟩
/-- SCRIPTTEXTS ANSWERS TRUE, WHATEVER COMES. -/
theorem texts_any (ao : Option Addr) (l : List Int) (n cap : Nat) (x : Int) (S : ByteArray) (w : World) (hl : n = l.length) (hn : n ≤ 9223372036854775807) (_hc : ao = none → cap = 0) (hr : Row w ao (vals l)) (hS : S.size ≤ 9223372036854775807) (HE : Errs w) :
    Calls Tryd.prog 3 #[.slice ao n cap, .int .i64 x, .string S] w fun e w' => e = .returned (.bool true) ∧ Below w.heap.size w w' := by
  by_cases h : n ≤ 150 ∧ S.size ≤ 1000
  · cases hk : okL l x with
    | true =>
      cases hp : parP S.data.toList with
      | none => exact texts_1 ao l n cap x S w hl h.1 h.2 hr HE hk hp
      | some ls => exact texts_3 ao l n cap x S ls w hl h.1 h.2 hr HE hk hp
    | false =>
      cases hp : parP S.data.toList with
      | none => exact texts_2 ao l n cap x S w hl h.1 h.2 hr HE hk hp
      | some ls => exact texts_4 ao l n cap x S ls w hl h.1 h.2 hr HE hk hp
  · exact texts_out ao n cap x S w hn hS HE h
end Go.Proofs.YtaooijjppdfnfaaDoor.Sc
