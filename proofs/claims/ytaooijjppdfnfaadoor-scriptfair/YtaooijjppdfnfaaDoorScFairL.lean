/- The walk of ScriptFair: it answers true. -/
import Derived.Test.YtaooijjppdfnfaaDoorScLive
namespace Go.Proofs.YtaooijjppdfnfaaDoor.Sc
open Go.RowKit

set_option maxRecDepth 100000 in
set_option maxHeartbeats 1000000 in
theorem fairl_1 (n k c M : Nat) (w : World) (hn : 1 ≤ n) (hn2 : n ≤ 64) (hk : 2 ≤ k) (hk2 : k ≤ 100) (hc : c < n) (HM : Hid (M = n * k)) (HE : Hid (Errs w)) (h1 : n = 1) :
    Calls Tryd.prog 6 #[.int .i64 n, .int .i64 k, .int .i64 c] w fun e w' => e = .returned (.bool true) ∧ Below w.heap.size w w' := by
  have hM2 : M ≤ 6400 := by rw [HM.out]; exact Nat.le_trans (Nat.mul_le_mul hn2 hk2) (by decide)
  have hmul : wrap64 ((n : Int) * (k : Int)) = (M : Int) := by
    have e : (n : Int) * (k : Int) = (M : Int) := by rw [HM.out]; simp
    rw [e]; unfold wrap64; omega
  have f1 := hid (rounds_yes n k M w hn hn2 (by omega) (by omega) HM)
  have hrd : rds n k = fst n M := by rw [rds_fst, HM.out]
  have HG : Hid (Gap (fst n M) n (n - 1)) := by rw [← hrd]; exact rds_gap n k hn (by omega)
  have HC : Hid (k = cnt (fst n M) c) := by rw [← hrd]; exact (rds_cnt n k c hc).symm
  have HO : Hid (okL (fst n M) n = true) := by rw [← hrd]; exact rds_ok n k hn hn2
  have HL : Hid (M = (fst n M).length) := (fst_len n M).symm
  have hs : Hid (M ≤ 1000000) := by show M ≤ 1000000; omega
  obtain ⟨l, hl⟩ : ∃ l, fst n M = l := ⟨_, rfl⟩
  rw [hl] at f1 HG HC HO HL
  clear hl hrd
  have d1 : decide ((((n - 1 : Nat)) : Int) + 1 ≤ (n : Int)) = true := by simp; omega
  have d2 : decide ((((n - 1 : Nat)) : Int) + 1 ≤ (n : Int) - 1) = false := by simp; omega
  have d3 : (((n - 1 : Nat)) : Int) + 1 = (n : Int) := by omega
  have h1b : ((n : Int) == 1) = true := by rw [h1]; rfl
  clear h1
  go_enter Tryd.func6, Tryd.ntmps6
  go_wp2_with fail
  refine f1.out.mono ?_
  rintro e w1 ⟨ao, cap, rfl, ho, b1⟩
  have RR := hid (own_row ho).1
  have HB1 := hid b1
  have HE1 := hid (HE.out.below b1)
  clear ho b1 f1
  have f2 := fair_any ao l M cap n n (n - 1) w1 HL hs RR HG
  rw [d1] at f2
  go_wp2_with fail
  refine f2.mono ?_
  clear f2
  rintro e w2 ⟨rfl, b2⟩
  have RR2 := hid (RR.out.below b2)
  have HB2 := hid (q_trans HB1.out b2)
  have HE2 := hid (HE1.out.below b2)
  clear b2 RR HB1 HE1
  have f4 := window_any ao l M cap n (n - 1) w2 HL.out (by omega) RR2.out HG.out
  rw [d3] at f4
  go_wp2_with fail
  refine f4.mono ?_
  clear f4
  rintro e w3 ⟨rfl, b3⟩
  have RR3 := hid (RR2.out.below b3)
  have HB3 := hid (q_trans HB2.out b3)
  have HE3 := hid (HE2.out.below b3)
  clear b3 RR2 HB2 HE2
  go_wp2_with (first | (go_at_call 18; refine (count_core ao l M cap c k _ HL (by omega) RR3 HC).mono ?_; rintro e w' ⟨rfl, hw⟩; rw [hw]; clear hw w') | (go_at_call 13; refine (check_core ao l M cap n 0 _ HL (by omega) RR3 (chk_zero.2 HO.out).symm).mono ?_; rintro e w' ⟨rfl, hw⟩; rw [hw]; clear hw w') | (go_at_call 12; refine (num_any _ _).mono ?_; rintro e w' ⟨rfl, hw⟩; rw [hw]; clear hw w'))
  refine (live_any _ HE3).mono ?_
  rintro e wz ⟨rfl, bz⟩
  have HZ := hid (q_trans HB3.out bz)
  clear bz
  go_wp2_with fail
  go_ret
  exact ⟨rfl, HZ.out⟩
set_option maxRecDepth 100000 in
set_option maxHeartbeats 1000000 in
theorem fairl_2 (n k c M : Nat) (w : World) (hn : 1 ≤ n) (hn2 : n ≤ 64) (hk : 2 ≤ k) (hk2 : k ≤ 100) (hc : c < n) (HM : Hid (M = n * k)) (HE : Hid (Errs w)) (h1 : ¬ n = 1) :
    Calls Tryd.prog 6 #[.int .i64 n, .int .i64 k, .int .i64 c] w fun e w' => e = .returned (.bool true) ∧ Below w.heap.size w w' := by
  have hM2 : M ≤ 6400 := by rw [HM.out]; exact Nat.le_trans (Nat.mul_le_mul hn2 hk2) (by decide)
  have hmul : wrap64 ((n : Int) * (k : Int)) = (M : Int) := by
    have e : (n : Int) * (k : Int) = (M : Int) := by rw [HM.out]; simp
    rw [e]; unfold wrap64; omega
  have f1 := hid (rounds_yes n k M w hn hn2 (by omega) (by omega) HM)
  have hrd : rds n k = fst n M := by rw [rds_fst, HM.out]
  have HG : Hid (Gap (fst n M) n (n - 1)) := by rw [← hrd]; exact rds_gap n k hn (by omega)
  have HC : Hid (k = cnt (fst n M) c) := by rw [← hrd]; exact (rds_cnt n k c hc).symm
  have HO : Hid (okL (fst n M) n = true) := by rw [← hrd]; exact rds_ok n k hn hn2
  have HL : Hid (M = (fst n M).length) := (fst_len n M).symm
  have hs : Hid (M ≤ 1000000) := by show M ≤ 1000000; omega
  obtain ⟨l, hl⟩ : ∃ l, fst n M = l := ⟨_, rfl⟩
  rw [hl] at f1 HG HC HO HL
  clear hl hrd
  have d1 : decide ((((n - 1 : Nat)) : Int) + 1 ≤ (n : Int)) = true := by simp; omega
  have d2 : decide ((((n - 1 : Nat)) : Int) + 1 ≤ (n : Int) - 1) = false := by simp; omega
  have d3 : (((n - 1 : Nat)) : Int) + 1 = (n : Int) := by omega
  have h1b : ((n : Int) == 1) = false := by simp; omega
  clear h1
  go_enter Tryd.func6, Tryd.ntmps6
  go_wp2_with fail
  refine f1.out.mono ?_
  rintro e w1 ⟨ao, cap, rfl, ho, b1⟩
  have RR := hid (own_row ho).1
  have HB1 := hid b1
  have HE1 := hid (HE.out.below b1)
  clear ho b1 f1
  have f2 := fair_any ao l M cap n n (n - 1) w1 HL hs RR HG
  rw [d1] at f2
  go_wp2_with fail
  refine f2.mono ?_
  clear f2
  rintro e w2 ⟨rfl, b2⟩
  have RR2 := hid (RR.out.below b2)
  have HB2 := hid (q_trans HB1.out b2)
  have HE2 := hid (HE1.out.below b2)
  clear b2 RR HB1 HE1
  have f3 := fair_any ao l M cap n ((n : Int) - 1) (n - 1) w2 HL hs RR2 HG
  rw [d2] at f3
  go_wp2_with fail
  refine f3.mono ?_
  clear f3
  rintro e w3 ⟨rfl, b3⟩
  have RR3 := hid (RR2.out.below b3)
  have HB3 := hid (q_trans HB2.out b3)
  have HE3 := hid (HE2.out.below b3)
  clear b3 RR2 HB2 HE2
  have f4 := window_any ao l M cap n (n - 1) w3 HL.out (by omega) RR3.out HG.out
  rw [d3] at f4
  go_wp2_with fail
  refine f4.mono ?_
  clear f4
  rintro e w4 ⟨rfl, b4⟩
  have RR4 := hid (RR3.out.below b4)
  have HB4 := hid (q_trans HB3.out b4)
  have HE4 := hid (HE3.out.below b4)
  clear b4 RR3 HB3 HE3
  go_wp2_with (first | (go_at_call 18; refine (count_core ao l M cap c k _ HL (by omega) RR4 HC).mono ?_; rintro e w' ⟨rfl, hw⟩; rw [hw]; clear hw w') | (go_at_call 13; refine (check_core ao l M cap n 0 _ HL (by omega) RR4 (chk_zero.2 HO.out).symm).mono ?_; rintro e w' ⟨rfl, hw⟩; rw [hw]; clear hw w') | (go_at_call 12; refine (num_any _ _).mono ?_; rintro e w' ⟨rfl, hw⟩; rw [hw]; clear hw w'))
  refine (live_any _ HE4).mono ?_
  rintro e wz ⟨rfl, bz⟩
  have HZ := hid (q_trans HB4.out bz)
  clear bz
  go_wp2_with fail
  go_ret
  exact ⟨rfl, HZ.out⟩
set_option maxRecDepth 100000 in
set_option maxHeartbeats 1000000 in
theorem fairl_out (n k c : Int) (w : World) (HE : Hid (Errs w)) (h : ¬ (1 ≤ n ∧ n ≤ 64 ∧ 2 ≤ k ∧ k ≤ 100 ∧ 0 ≤ c ∧ c < n)) :
    Calls Tryd.prog 6 #[.int .i64 n, .int .i64 k, .int .i64 c] w fun e w' => e = .returned (.bool true) ∧ Below w.heap.size w w' := by
  by_cases h1 : 1 ≤ n
  · by_cases h2 : n ≤ 64
    · by_cases h3 : 2 ≤ k
      · by_cases h4 : k ≤ 100
        · by_cases h5 : 0 ≤ c
          · have h6 : ¬ c < n := fun h6 => h ⟨h1, h2, h3, h4, h5, h6⟩
            clear h
            go_enter Tryd.func6, Tryd.ntmps6
            go_wp2_with (go_at_call 9; refine (live_any _ HE).mono ?_; rintro e w1 ⟨rfl, b1⟩)
            go_ret
            exact ⟨rfl, b1⟩
          · clear h
            go_enter Tryd.func6, Tryd.ntmps6
            go_wp2_with (go_at_call 9; refine (live_any _ HE).mono ?_; rintro e w1 ⟨rfl, b1⟩)
            go_ret
            exact ⟨rfl, b1⟩
        · clear h
          go_enter Tryd.func6, Tryd.ntmps6
          go_wp2_with (go_at_call 9; refine (live_any _ HE).mono ?_; rintro e w1 ⟨rfl, b1⟩)
          go_ret
          exact ⟨rfl, b1⟩
      · clear h
        go_enter Tryd.func6, Tryd.ntmps6
        go_wp2_with (go_at_call 9; refine (live_any _ HE).mono ?_; rintro e w1 ⟨rfl, b1⟩)
        go_ret
        exact ⟨rfl, b1⟩
    · clear h
      go_enter Tryd.func6, Tryd.ntmps6
      go_wp2_with (go_at_call 9; refine (live_any _ HE).mono ?_; rintro e w1 ⟨rfl, b1⟩)
      go_ret
      exact ⟨rfl, b1⟩
  · clear h
    go_enter Tryd.func6, Tryd.ntmps6
    go_wp2_with (go_at_call 9; refine (live_any _ HE).mono ?_; rintro e w1 ⟨rfl, b1⟩)
    go_ret
    exact ⟨rfl, b1⟩
/-- SCRIPTFAIR ANSWERS TRUE, WHATEVER COMES. -/
theorem fairl_any (n k c : Int) (w : World) (HE : Errs w) :
    Calls Tryd.prog 6 #[.int .i64 n, .int .i64 k, .int .i64 c] w fun e w' => e = .returned (.bool true) ∧ Below w.heap.size w w' := by
  by_cases h : 1 ≤ n ∧ n ≤ 64 ∧ 2 ≤ k ∧ k ≤ 100 ∧ 0 ≤ c ∧ c < n
  · obtain ⟨h1, h2, h3, h4, h5, h6⟩ := h
    obtain ⟨n', rfl⟩ := Int.eq_ofNat_of_zero_le (show 0 ≤ n by omega)
    obtain ⟨k', rfl⟩ := Int.eq_ofNat_of_zero_le (show 0 ≤ k by omega)
    obtain ⟨c', rfl⟩ := Int.eq_ofNat_of_zero_le h5
    by_cases e : n' = 1
    · exact fairl_1 n' k' c' _ w (by omega) (by omega) (by omega) (by omega) (by omega) rfl HE e
    · exact fairl_2 n' k' c' _ w (by omega) (by omega) (by omega) (by omega) (by omega) rfl HE e
  · exact fairl_out n k c w HE h
end Go.Proofs.YtaooijjppdfnfaaDoor.Sc
