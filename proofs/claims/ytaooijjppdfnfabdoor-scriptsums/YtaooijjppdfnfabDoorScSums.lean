/- The walk of ScriptSums: it answers true. -/
import Derived.Test.YtaooijjppdfnfabDoorScLive
namespace Go.Proofs.YtaooijjppdfnfabDoor.Sc
open Go.RowKit

set_option maxRecDepth 100000 in
set_option maxHeartbeats 1000000 in
theorem sums_in (ao : Option Addr) (l : List Int) (n cap N k c M : Nat) (w : World) (HN : Hid (n = l.length)) (hn : n ≤ 150) (hN : 1 ≤ N) (hN2 : N ≤ 64) (hk : 1 ≤ k) (hk2 : k ≤ 100) (hc : c < N) (HM : Hid (M = N * k)) (OL : Hid (okL l N = true)) (RR : Hid (Row w ao (vals l))) (NN : Hid (ao = none → cap = 0)) (HE : Hid (Errs w)) :
    Calls Tryd.prog 3 #[.slice ao n cap, .int .i64 N, .int .i64 k, .int .i64 c] w fun e w' => e = .returned (.bool true) ∧ Below w.heap.size w w' := by
  have hM2 : M ≤ 6400 := by rw [HM.out]; exact Nat.le_trans (Nat.mul_le_mul hN2 hk2) (by decide)
  have hmul : wrap64 ((N : Int) * (k : Int)) = (M : Int) := by
    have e : (N : Int) * (k : Int) = (M : Int) := by rw [HM.out]; simp
    rw [e]; unfold wrap64; omega
  have f1 := hid fun W r1 r2 => fill_any ao l n cap N k W HN (by omega) r1 r2
  rw [rdsI_yes N k hN hN2 hk (by omega)] at f1
  obtain ⟨F, hF⟩ : ∃ F, l ++ rds N k = F := ⟨_, rfl⟩
  have HP : Hid (n + M = F.length) := by show n + M = _; rw [← hF, List.length_append, rds_len, ← HN.out, ← HM.out]
  have HC : Hid (cnt l c + k = cnt F c) := by show _ = _; rw [← hF, cnt_append, rds_cnt N k c hc]
  have HO : Hid (okL F N = true) := by rw [← hF]; exact okL_append OL.out (rds_ok N k hN hN2)
  rw [hF, ← HP.out] at f1
  clear hF
  obtain ⟨q, hq⟩ : ∃ q, cnt l c = q := ⟨_, rfl⟩
  have hq2 : q ≤ 150 := by rw [← hq]; have := cnt_le l c; have := HN.out; omega
  have HQ : Hid (q = cnt l c) := hq.symm
  rw [hq] at HC
  clear hq
  have hcb : decide (N ≤ c) = false := by simp; omega
  have hlow : Hid (∀ j, low l j ≤ n) := fun j => by have := low_le l j; have := HN.out; omega
  go_enter Tryd.func3, Tryd.ntmps3
  go_wp2_with (first | (go_at_call 5; refine (check_core ao l n cap N 0 _ HN (by omega) RR (chk_zero.2 OL.out).symm).mono ?_; rintro e w' ⟨rfl, hw⟩; rw [hw]; clear hw w') | (go_at_call 4; refine (num_any _ _).mono ?_; rintro e w' ⟨rfl, hw⟩; rw [hw]; clear hw w'))
  go_loop [9, 10] (fun s i => ∃ j z : Nat, j ≤ N ∧ z ≤ n ∧ i = .int .i64 j ∧ s = .int .i64 z ∧ Hid (z = low l j)) (fun _ i => N - (intOf i).toNat)
  case atStart => exact ⟨0, 0, Nat.zero_le _, Nat.zero_le _, rfl, rfl, (low_zero (fun x hx => ((okL_iff.1 OL.out).2.2 x hx).1)).symm⟩
  case round =>
    obtain ⟨j, z, hj, hz, rfl, rfl, HZ⟩ := hrel
    by_cases hlt : j < N
    · obtain ⟨m, hm⟩ : ∃ m, cnt l j = m := ⟨_, rfl⟩
      have HM1 : Hid (m = cnt l j) := hm.symm
      have HZ2 : Hid (z + m = low l ((j + 1 : Nat) : Int)) := by
        show z + m = _
        rw [show ((j + 1 : Nat) : Int) = (j : Int) + 1 by simp, low_step, ← HZ.out, hm]
      have hzm : z + m ≤ n := by rw [HZ2.out]; exact hlow.out _
      clear hm
      go_wp2_with (go_at_call 7; refine (count_core ao l n cap j m _ HN (by omega) RR HM1).mono ?_; rintro e w' ⟨rfl, hw⟩; rw [hw]; clear hw w')
      go_round
      case rel => exact ⟨j + 1, z + m, by omega, hzm, by go_num, congrArg (Value.int .i64) (by omega), HZ2⟩
      case measure => simp [intOf]; omega
    · obtain rfl : j = N := by omega
      have hzn : z = n := by rw [HZ.out, low_all (fun x hx => ((okL_iff.1 OL.out).2.2 x hx).2), HN.out]
      subst hzn
      clear hmul
      have hmul : wrap64 ((j : Int) * (k : Int)) = (M : Int) := by
        have e : (j : Int) * (k : Int) = (M : Int) := by rw [HM.out]; simp
        rw [e]; unfold wrap64; omega
      go_wp2_with fail
      refine (f1.out _ RR NN).mono ?_
      rintro e w1 ⟨ao1, cap1, rfl, hm1, b1⟩
      have HB1 := hid b1
      have HE1 := hid (HE.out.below b1)
      have RR1 := hid (RR.out.below b1)
      have RA1 := hid (Mine.row hm1)
      clear b1 hm1
      go_wp2_with fail
      refine (count_core ao1 F (z + M) cap1 c (q + k) _ HP (by omega) RA1 HC).mono ?_
      rintro e w' ⟨rfl, hw⟩
      rw [hw]
      clear hw w'
      go_wp2_with fail
      refine (count_core ao l z cap c q _ HN (by omega) RR1 HQ).mono ?_
      rintro e w' ⟨rfl, hw⟩
      rw [hw]
      clear hw w'
      go_wp2_with fail
      refine (check_core ao1 F (z + M) cap1 j 0 _ HP (by omega) RA1 (chk_zero.2 HO.out).symm).mono ?_
      rintro e w' ⟨rfl, hw⟩
      rw [hw]
      clear hw w'
      go_wp2_with (go_at_call 4; refine (num_any _ _).mono ?_; rintro e w' ⟨rfl, hw⟩; rw [hw]; clear hw w')
      refine (live_any _ HE1).mono ?_
      rintro e wz ⟨rfl, bz⟩
      have HZ := hid (q_trans HB1.out bz)
      clear bz
      go_wp2_with fail
      go_ret
      exact ⟨rfl, HZ.out⟩
set_option maxRecDepth 100000 in
set_option maxHeartbeats 1000000 in
theorem sums_long (ao : Option Addr) (n cap : Nat) (x k c : Int) (w : World) (hn : n ≤ 9223372036854775807) (h1 : ¬ n ≤ 150) (HE : Hid (Errs w)) :
    Calls Tryd.prog 3 #[.slice ao n cap, .int .i64 x, .int .i64 k, .int .i64 c] w fun e w' => e = .returned (.bool true) ∧ Below w.heap.size w w' := by
  go_enter Tryd.func3, Tryd.ntmps3
  go_wp2_with (go_at_call 6; refine (live_any _ HE).mono ?_; rintro e w1 ⟨rfl, b1⟩)
  go_ret
  exact ⟨rfl, b1⟩
set_option maxRecDepth 100000 in
set_option maxHeartbeats 1000000 in
theorem sums_bad (ao : Option Addr) (l : List Int) (n cap : Nat) (x k c : Int) (w : World) (HN : Hid (n = l.length)) (hn : n ≤ 150) (RR : Hid (Row w ao (vals l))) (HE : Hid (Errs w)) (OL : Hid (okL l x = false)) :
    Calls Tryd.prog 3 #[.slice ao n cap, .int .i64 x, .int .i64 k, .int .i64 c] w fun e w' => e = .returned (.bool true) ∧ Below w.heap.size w w' := by
  go_enter Tryd.func3, Tryd.ntmps3
  go_wp2_with (first | (go_at_call 5; refine (check_core ao l n cap x 2 _ HN (by omega) RR (by show _ = _; simp [chk, OL.out])).mono ?_; rintro e w' ⟨rfl, hw⟩; rw [hw]; clear hw w') | (go_at_call 4; refine (num_any _ _).mono ?_; rintro e w' ⟨rfl, hw⟩; rw [hw]; clear hw w'))
  refine (live_any _ HE).mono ?_
  rintro e w1 ⟨rfl, b1⟩
  have HB1 := hid b1
  clear b1
  go_wp2_with fail
  go_ret
  exact ⟨rfl, HB1.out⟩
set_option maxRecDepth 100000 in
set_option maxHeartbeats 1000000 in
theorem sums_k0 (ao : Option Addr) (l : List Int) (n cap : Nat) (x k c : Int) (w : World) (HN : Hid (n = l.length)) (hn : n ≤ 150) (RR : Hid (Row w ao (vals l))) (HE : Hid (Errs w)) (OL : Hid (okL l x = true)) (h1 : ¬ 1 ≤ k) :
    Calls Tryd.prog 3 #[.slice ao n cap, .int .i64 x, .int .i64 k, .int .i64 c] w fun e w' => e = .returned (.bool true) ∧ Below w.heap.size w w' := by
  go_enter Tryd.func3, Tryd.ntmps3
  go_wp2_with (first | (go_at_call 5; refine (check_core ao l n cap x 0 _ HN (by omega) RR (by show _ = _; simp [chk, OL.out])).mono ?_; rintro e w' ⟨rfl, hw⟩; rw [hw]; clear hw w') | (go_at_call 4; refine (num_any _ _).mono ?_; rintro e w' ⟨rfl, hw⟩; rw [hw]; clear hw w'))
  refine (live_any _ HE).mono ?_
  rintro e w1 ⟨rfl, b1⟩
  have HB1 := hid b1
  clear b1
  go_wp2_with fail
  go_ret
  exact ⟨rfl, HB1.out⟩
set_option maxRecDepth 100000 in
set_option maxHeartbeats 1000000 in
theorem sums_k1 (ao : Option Addr) (l : List Int) (n cap : Nat) (x k c : Int) (w : World) (HN : Hid (n = l.length)) (hn : n ≤ 150) (RR : Hid (Row w ao (vals l))) (HE : Hid (Errs w)) (OL : Hid (okL l x = true)) (h0 : 1 ≤ k) (h1 : ¬ k ≤ 100) :
    Calls Tryd.prog 3 #[.slice ao n cap, .int .i64 x, .int .i64 k, .int .i64 c] w fun e w' => e = .returned (.bool true) ∧ Below w.heap.size w w' := by
  go_enter Tryd.func3, Tryd.ntmps3
  go_wp2_with (first | (go_at_call 5; refine (check_core ao l n cap x 0 _ HN (by omega) RR (by show _ = _; simp [chk, OL.out])).mono ?_; rintro e w' ⟨rfl, hw⟩; rw [hw]; clear hw w') | (go_at_call 4; refine (num_any _ _).mono ?_; rintro e w' ⟨rfl, hw⟩; rw [hw]; clear hw w'))
  refine (live_any _ HE).mono ?_
  rintro e w1 ⟨rfl, b1⟩
  have HB1 := hid b1
  clear b1
  go_wp2_with fail
  go_ret
  exact ⟨rfl, HB1.out⟩
set_option maxRecDepth 100000 in
set_option maxHeartbeats 1000000 in
theorem sums_c0 (ao : Option Addr) (l : List Int) (n cap : Nat) (x k c : Int) (w : World) (HN : Hid (n = l.length)) (hn : n ≤ 150) (RR : Hid (Row w ao (vals l))) (HE : Hid (Errs w)) (OL : Hid (okL l x = true)) (h0 : 1 ≤ k) (h1 : k ≤ 100) (h2 : ¬ 0 ≤ c) :
    Calls Tryd.prog 3 #[.slice ao n cap, .int .i64 x, .int .i64 k, .int .i64 c] w fun e w' => e = .returned (.bool true) ∧ Below w.heap.size w w' := by
  go_enter Tryd.func3, Tryd.ntmps3
  go_wp2_with (first | (go_at_call 5; refine (check_core ao l n cap x 0 _ HN (by omega) RR (by show _ = _; simp [chk, OL.out])).mono ?_; rintro e w' ⟨rfl, hw⟩; rw [hw]; clear hw w') | (go_at_call 4; refine (num_any _ _).mono ?_; rintro e w' ⟨rfl, hw⟩; rw [hw]; clear hw w'))
  refine (live_any _ HE).mono ?_
  rintro e w1 ⟨rfl, b1⟩
  have HB1 := hid b1
  clear b1
  go_wp2_with fail
  go_ret
  exact ⟨rfl, HB1.out⟩
set_option maxRecDepth 100000 in
set_option maxHeartbeats 1000000 in
theorem sums_c1 (ao : Option Addr) (l : List Int) (n cap : Nat) (x k c : Int) (w : World) (HN : Hid (n = l.length)) (hn : n ≤ 150) (RR : Hid (Row w ao (vals l))) (HE : Hid (Errs w)) (OL : Hid (okL l x = true)) (h0 : 1 ≤ k) (h1 : k ≤ 100) (h2 : 0 ≤ c) (h3 : ¬ c < x) :
    Calls Tryd.prog 3 #[.slice ao n cap, .int .i64 x, .int .i64 k, .int .i64 c] w fun e w' => e = .returned (.bool true) ∧ Below w.heap.size w w' := by
  go_enter Tryd.func3, Tryd.ntmps3
  go_wp2_with (first | (go_at_call 5; refine (check_core ao l n cap x 0 _ HN (by omega) RR (by show _ = _; simp [chk, OL.out])).mono ?_; rintro e w' ⟨rfl, hw⟩; rw [hw]; clear hw w') | (go_at_call 4; refine (num_any _ _).mono ?_; rintro e w' ⟨rfl, hw⟩; rw [hw]; clear hw w'))
  refine (live_any _ HE).mono ?_
  rintro e w1 ⟨rfl, b1⟩
  have HB1 := hid b1
  clear b1
  go_wp2_with fail
  go_ret
  exact ⟨rfl, HB1.out⟩
/-- SCRIPTSUMS ANSWERS TRUE, WHATEVER COMES. -/
theorem sums_any (ao : Option Addr) (l : List Int) (n cap : Nat) (x k c : Int) (w : World) (hl : n = l.length) (hn : n ≤ 9223372036854775807) (hc : ao = none → cap = 0) (hr : Row w ao (vals l)) (HE : Errs w) :
    Calls Tryd.prog 3 #[.slice ao n cap, .int .i64 x, .int .i64 k, .int .i64 c] w fun e w' => e = .returned (.bool true) ∧ Below w.heap.size w w' := by
  by_cases h1 : n ≤ 150
  · cases ol : okL l x with
    | false => exact sums_bad ao l n cap x k c w hl h1 hr HE ol
    | true =>
      by_cases h2 : 1 ≤ k
      · by_cases h3 : k ≤ 100
        · by_cases h4 : 0 ≤ c
          · by_cases h5 : c < x
            · have hb := okL_iff.1 ol
              obtain ⟨N, rfl⟩ := Int.eq_ofNat_of_zero_le (show 0 ≤ x by omega)
              obtain ⟨k', rfl⟩ := Int.eq_ofNat_of_zero_le (show 0 ≤ k by omega)
              obtain ⟨c', rfl⟩ := Int.eq_ofNat_of_zero_le h4
              exact sums_in ao l n cap N k' c' _ w hl h1 (by omega) (by omega) (by omega) (by omega) (by omega) rfl ol hr hc HE
            · exact sums_c1 ao l n cap x k c w hl h1 hr HE ol h2 h3 h4 h5
          · exact sums_c0 ao l n cap x k c w hl h1 hr HE ol h2 h3 h4
        · exact sums_k1 ao l n cap x k c w hl h1 hr HE ol h2 h3
      · exact sums_k0 ao l n cap x k c w hl h1 hr HE ol h2
  · exact sums_long ao n cap x k c w hn h1 HE
end Go.Proofs.YtaooijjppdfnfabDoor.Sc
