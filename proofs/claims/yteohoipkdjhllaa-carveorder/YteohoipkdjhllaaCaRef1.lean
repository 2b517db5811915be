/- What the document's Power, Is, Align, Size do. -/
import Derived.Test.YteohoipkdjhllaaCaW2
namespace Go.Proofs.Yteohoipkdjhllaa.Ca
open Go.RowKit

/-- Two to the j, as the loop has it. -/
def tw (j : Nat) : Int := ((2 ^ j : Nat) : Int)
theorem tw_zero : tw 0 = 1 := rfl
theorem tw_succ (j : Nat) : tw (j + 1) = 2 * tw j := by unfold tw; rw [Nat.pow_succ]; omega
theorem tw_le {j : Nat} (h : j ≤ 20) : tw j ≤ 1048576 := by have := two_le h; unfold tw; omega
theorem tw_gt {j : Nat} (h : ¬ j ≤ 20) : 1048576 < tw j := by have := two_gt h; unfold tw; omega
theorem tw_pos (j : Nat) : 1 ≤ tw j := by have := Nat.two_pow_pos j; unfold tw; omega
set_option maxRecDepth 100000 in
set_option maxHeartbeats 1000000 in
theorem rpower_any (n : Int) (w : World) :
    Calls Try.prog 29 #[.int .i64 n] w fun e w' => e = .returned (.bool (pw n)) ∧ w' = w := by
  go_enter Try.func29, Try.ntmps29
  go_wp2
  go_loopw [3] (fun i wr => ∃ j : Nat, j ≤ 21 ∧ i = .int .i64 (tw j) ∧ Hid (∀ k, k < j → ¬ n = tw k) ∧ Hid (wr = w)) (fun i _ => 2097153 - (intOf i).toNat)
  case atStart => exact ⟨0, by omega, rfl, fun k hk => absurd hk (by omega), rfl⟩
  case round =>
    obtain ⟨j, hj, rfl, HN, HW⟩ := hrel
    by_cases hlt : j ≤ 20
    · have t1 := tw_le hlt
      have t2 := tw_pos j
      have HS := hid (tw_succ j)
      by_cases he : tw j = n
      · have b1 := beq_yes he
        have HP : Hid (pw n = true) := pw_iff.2 ⟨j, hlt, he.symm⟩
        clear he
        generalize tw j = k at t1 t2 HS b1
        go_wp2
        go_ret
        exact ⟨ret_bool HP.out.symm, HW.out⟩
      · have b1 := beq_no he
        have HE := hid he
        clear he
        obtain ⟨k, hk⟩ : ∃ k, tw j = k := ⟨_, rfl⟩
        rw [hk] at t1 t2 b1 ⊢
        have HK := hid hk
        clear hk
        go_wp2
        go_roundw
        case rel =>
          refine ⟨j + 1, by omega, by rw [HS.out, HK.out], fun i hi => ?_, HW⟩
          by_cases e : i = j
          · subst e
            exact fun h => HE.out h.symm
          · exact HN.out i (by omega)
        case measure => simp [intOf]; omega
    · have t1 := tw_gt hlt
      have HP : Hid (pw n = false) := by
        refine pw_not.2 ?_
        rintro ⟨k, hk, e⟩
        exact HN.out k (by omega) e
      generalize tw j = k at t1
      go_wp2
      go_ret
      exact ⟨ret_bool HP.out.symm, HW.out⟩
theorem rpower_is {n : Int} {r : Bool} (h : pw n = r) (w : World) : Calls Try.prog 29 #[.int .i64 n] w fun e w' => e = .returned (.bool r) ∧ w' = w := h ▸ rpower_any n w

set_option maxHeartbeats 1000000 in
theorem ris_any (x : X) (w : World) :
    Calls Try.prog 13 #[(.agg #[.int .i64 x.1, .int .i64 x.2])] w fun e w' => e = .returned (.bool (okX x)) ∧ Below w.heap.size w w' := by
  by_cases h1 : 0 ≤ x.1
  · by_cases h2 : x.1 ≤ 1048576
    · by_cases h3 : 1 ≤ x.2
      · by_cases h4 : x.2 ≤ 1048576 - x.1
        · have H : Hid (okX x = true) := ok_iff.2 (by omega)
          go_enter Try.func13, Try.ntmps13
          go_wp2
          go_ret
          exact ⟨ret_bool H.out.symm, alloc_below _ _⟩
        · have H : Hid (okX x = false) := ok_not.2 (by omega)
          go_enter Try.func13, Try.ntmps13
          go_wp2
          go_ret
          exact ⟨ret_bool H.out.symm, alloc_below _ _⟩
      · have H : Hid (okX x = false) := ok_not.2 (by omega)
        go_enter Try.func13, Try.ntmps13
        go_wp2
        go_ret
        exact ⟨ret_bool H.out.symm, alloc_below _ _⟩
    · have H : Hid (okX x = false) := ok_not.2 (by omega)
      go_enter Try.func13, Try.ntmps13
      go_wp2
      go_ret
      exact ⟨ret_bool H.out.symm, alloc_below _ _⟩
  · have H : Hid (okX x = false) := ok_not.2 (by omega)
    go_enter Try.func13, Try.ntmps13
    go_wp2
    go_ret
    exact ⟨ret_bool H.out.symm, alloc_below _ _⟩
theorem ris_is {x : X} {r : Bool} (h : okX x = r) (w : World) : Calls Try.prog 13 #[(.agg #[.int .i64 x.1, .int .i64 x.2])] w fun e w' => e = .returned (.bool r) ∧ Below w.heap.size w w' := h ▸ ris_any x w

set_option maxHeartbeats 1000000 in
theorem ralign_any (a s : Int) (w : World) :
    Calls Try.prog 15 #[.int .i64 a, .int .i64 s] w fun e w' => e = .returned (.int .i64 (alV a s)) ∧ w' = w := by
  by_cases h1 : 0 ≤ a
  · by_cases h2 : a ≤ 1048576
    · have ha : atB a = true := at_iff.2 ⟨h1, h2⟩
      cases hp : pw s with
      | true =>
        obtain ⟨p1, p2⟩ := pw_range hp
        have hc := fun W => rpower_is hp W
        have ht : Int.tmod a s = a % s := Int.tmod_eq_emod_of_nonneg h1
        have m1 := Int.emod_nonneg a (b := s) (by omega)
        have m2 := Int.emod_lt_of_pos a (b := s) (by omega)
        by_cases hm : a % s = 0
        · have HV := hid (al_mul ha hp hm)
          have b1 := beq_yes hm
          clear ha hp hm
          generalize a % s = r at ht m1 m2 b1
          go_enter Try.func15, Try.ntmps15
          go_wp2_with (go_at_call 29; refine (hc _).mono ?_; rintro e w1 ⟨rfl, hw⟩; rw [hw]; clear hw w1)
          go_ret
          exact ⟨ret_int HV.out.symm, rfl⟩
        · have HV := hid (al_off ha hp hm)
          have b1 := beq_no hm
          clear ha hp hm
          obtain ⟨r, hr⟩ : ∃ r, a % s = r := ⟨_, rfl⟩
          rw [hr] at ht m1 m2 b1 HV
          clear hr
          go_enter Try.func15, Try.ntmps15
          go_wp2_with (go_at_call 29; refine (hc _).mono ?_; rintro e w1 ⟨rfl, hw⟩; rw [hw]; clear hw w1)
          go_ret
          exact ⟨ret_int HV.out.symm, rfl⟩
      | false =>
        have HV := hid (al_no (a := a) (s := s) (by simp [hp]))
        have hc := fun W => rpower_is hp W
        clear ha hp
        go_enter Try.func15, Try.ntmps15
        go_wp2_with (go_at_call 29; refine (hc _).mono ?_; rintro e w1 ⟨rfl, hw⟩; rw [hw]; clear hw w1)
        go_ret
        exact ⟨ret_int HV.out.symm, rfl⟩
    · have HV := hid (al_no (a := a) (s := s) (by rw [at_not.2 (by omega)]; rfl))
      go_enter Try.func15, Try.ntmps15
      go_wp2
      go_ret
      exact ⟨ret_int HV.out.symm, rfl⟩
  · have HV := hid (al_no (a := a) (s := s) (by rw [at_not.2 (by omega)]; rfl))
    go_enter Try.func15, Try.ntmps15
    go_wp2
    go_ret
    exact ⟨ret_int HV.out.symm, rfl⟩
set_option maxHeartbeats 1000000 in
theorem rsize_any (k n : Int) (w : World) :
    Calls Try.prog 10 #[.int .i64 k, .int .i64 n] w fun e w' => e = .returned (.tuple #[.int .i64 (szV k n), .int .i64 (szE k n)]) ∧ w' = w := by
  by_cases h2 : k = 2
  · have HV : Hid (64 = szV k n) := by simp [Hid, szV, h2]
    have HE : Hid (0 = szE k n) := by simp [Hid, szE, h2]
    have b2 := beq_yes h2
    clear h2
    go_enter Try.func10, Try.ntmps10
    go_wp2
    go_ret2
    exact ⟨ret_two HV.out HE.out, rfl⟩
  · by_cases h3 : k = 3
    · have HV : Hid (16 = szV k n) := by simp [Hid, szV, h3]
      have HE : Hid (0 = szE k n) := by simp [Hid, szE, h3]
      have b2 := beq_no h2
      have b3 := beq_yes h3
      clear h2 h3
      go_enter Try.func10, Try.ntmps10
      go_wp2
      go_ret2
      exact ⟨ret_two HV.out HE.out, rfl⟩
    · by_cases h4 : k = 4
      · have HV : Hid (4 = szV k n) := by simp [Hid, szV, h4]
        have HE : Hid (0 = szE k n) := by simp [Hid, szE, h4]
        have b2 := beq_no h2
        have b3 := beq_no h3
        have b4 := beq_yes h4
        clear h2 h3 h4
        go_enter Try.func10, Try.ntmps10
        go_wp2
        go_ret2
        exact ⟨ret_two HV.out HE.out, rfl⟩
      · by_cases h5 : k = 5
        · have HV : Hid (4 = szV k n) := by simp [Hid, szV, h5]
          have HE : Hid (0 = szE k n) := by simp [Hid, szE, h5]
          have b2 := beq_no h2
          have b3 := beq_no h3
          have b4 := beq_no h4
          have b5 := beq_yes h5
          clear h2 h3 h4 h5
          go_enter Try.func10, Try.ntmps10
          go_wp2
          go_ret2
          exact ⟨ret_two HV.out HE.out, rfl⟩
        · by_cases h1 : k = 1
          · cases hp : pw n with
            | true =>
              have HV : Hid (n = szV k n) := by simp [Hid, szV, h1, hp]
              have HE : Hid (0 = szE k n) := by simp [Hid, szE, h1, hp]
              have b2 := beq_no h2
              have b3 := beq_no h3
              have b4 := beq_no h4
              have b5 := beq_no h5
              have b1 := beq_yes h1
              have hc := fun W => rpower_is hp W
              clear h1 h2 h3 h4 h5 hp
              go_enter Try.func10, Try.ntmps10
              go_wp2_with (go_at_call 29; refine (hc _).mono ?_; rintro e w1 ⟨rfl, hw⟩; rw [hw]; clear hw w1)
              go_ret2
              exact ⟨ret_two HV.out HE.out, rfl⟩
            | false =>
              have HV : Hid (0 = szV k n) := by simp [Hid, szV, h1, hp]
              have HE : Hid (2 = szE k n) := by simp [Hid, szE, h1, hp]
              have b2 := beq_no h2
              have b3 := beq_no h3
              have b4 := beq_no h4
              have b5 := beq_no h5
              have b1 := beq_yes h1
              have hc := fun W => rpower_is hp W
              clear h1 h2 h3 h4 h5 hp
              go_enter Try.func10, Try.ntmps10
              go_wp2_with (go_at_call 29; refine (hc _).mono ?_; rintro e w1 ⟨rfl, hw⟩; rw [hw]; clear hw w1)
              go_ret2
              exact ⟨ret_two HV.out HE.out, rfl⟩
          · have HV : Hid (0 = szV k n) := by simp [Hid, szV, h1, h2, h3, h4, h5]
            have HE : Hid (2 = szE k n) := by simp [Hid, szE, h1, h2, h3, h4, h5]
            have b2 := beq_no h2
            have b3 := beq_no h3
            have b4 := beq_no h4
            have b5 := beq_no h5
            have b1 := beq_no h1
            clear h1 h2 h3 h4 h5
            go_enter Try.func10, Try.ntmps10
            go_wp2
            go_ret2
            exact ⟨ret_two HV.out HE.out, rfl⟩
end Go.Proofs.Yteohoipkdjhllaa.Ca
