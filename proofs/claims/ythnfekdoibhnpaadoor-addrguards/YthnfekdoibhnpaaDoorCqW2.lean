/- What Check does. -/
import Derived.Test.YthnfekdoibhnpaaDoorCqTab
namespace Go.Proofs.YthnfekdoibhnpaaDoor.Cp
open Go.RowKit

set_option maxHeartbeats 400000 in
theorem check_none (c : K) (w : World) (h : noneB c = true) :
    Calls Tryd.prog 48 #[(.agg #[.int .i64 c.t, .int .i64 c.r, .int .i64 c.b, .int .i64 c.o, .int .i64 c.g])] w fun e w' => e = .returned (.int .i64 0) ∧ Below w.heap.size w w' := by
  go_enter Tryd.func48, Tryd.ntmps48
  go_wp2_with (go_at_call 47; refine (isNone_any _ _).mono ?_; rintro e w' ⟨rfl, b1⟩)
  go_ret
  exact ⟨rfl, q_trans (q_alloc (Below.refl _ _) _) b1⟩

set_option maxHeartbeats 400000 in
theorem check_type (c : K) (w : World) (h : noneB c = false) (ht : ¬ (1 ≤ c.t ∧ c.t ≤ 5)) :
    Calls Tryd.prog 48 #[(.agg #[.int .i64 c.t, .int .i64 c.r, .int .i64 c.b, .int .i64 c.o, .int .i64 c.g])] w fun e w' => e = .returned (.int .i64 30) ∧ Below w.heap.size w w' := by
  have HI := in_new w c 41
  cases h0 : up c.t 5 with
  | false =>
    have hz : (c.t == 0) = false := beq_eq_false_iff_ne.2 (fun e => by have := up_not.1 h0; omega)
    clear ht
    go_enter Tryd.func48, Tryd.ntmps48
    go_wp2_with fail
    refine (isNone_any c _).mono ?_
    rintro e w1 ⟨rfl, b1⟩
    obtain ⟨c0, c1, c2, c3, c4⟩ := HI.below b1
    go_wp2_with (go_at_call 50; refine (upTo_any _ _ _).mono ?_; rintro e w' ⟨rfl, rfl⟩)
    go_ret
    exact ⟨rfl, q_trans (q_alloc (Below.refl _ _) _) b1⟩
  | true =>
    have e0 : (c.t == 0) = true := beq_iff_eq.2 (by have := up_iff.1 h0; omega)
    clear ht h0
    go_enter Tryd.func48, Tryd.ntmps48
    go_wp2_with fail
    refine (isNone_any c _).mono ?_
    rintro e w1 ⟨rfl, b1⟩
    obtain ⟨c0, c1, c2, c3, c4⟩ := HI.below b1
    go_wp2_with fail
    go_ret
    exact ⟨rfl, q_trans (q_alloc (Below.refl _ _) _) b1⟩

set_option maxHeartbeats 1000000 in
theorem check_rest (k : Nat) (r b o g : Int) (w : World) (hk1 : 1 ≤ k) (hk2 : k ≤ 5) (hT : Tabs w) (e0 : Int)
    (he : Hid (chkE ⟨k, r, b, o, g⟩ = e0)) :
    Calls Tryd.prog 48 #[.agg #[.int .i64 k, .int .i64 r, .int .i64 b, .int .i64 o, .int .i64 g]] w fun e w' => e = .returned (.int .i64 e0) ∧ Below w.heap.size w w' := by
  have hn : noneB ⟨k, r, b, o, g⟩ = false := by
    cases hn : noneB ⟨k, r, b, o, g⟩ with
    | false => rfl
    | true => have : (k : Int) = 0 := (noneB_iff.1 hn).1; omega
  have hz : ((k : Int) == 0) = false := beq_eq_false_iff_ne.2 (by omega)
  have hu : up k 5 = true := up_iff.2 ⟨by omega, by omega⟩
  have HI := in_new w ⟨k, r, b, o, g⟩ 41
  have HT : Hid (Tabs w) := hT
  have HK : Hid (1 ≤ k) := hk1
  have H5 : Hid (k ≤ 5) := hk2
  have i1 : (0 : Int) ≤ (k : Int) := by omega
  have i2 : (k : Int) < 6 := by omega
  clear hT hk1 hk2
  go_enter Tryd.func48, Tryd.ntmps48
  go_wp2_with fail
  refine (isNone_any ⟨k, r, b, o, g⟩ _).mono ?_
  rintro e w1 ⟨rfl, b1⟩
  have HW := HI.below b1
  obtain ⟨c0, c1, c2, c3, c4⟩ := HW
  have hm := (HT.out.below (q_trans (q_alloc (Below.refl _ _) _) b1)).mb k (by have := H5.out; omega)
  have HB : Hid (Below w.heap.size w w1) := q_trans (q_alloc (Below.refl _ _) _) b1
  have HD : Hid (decide (1 ≤ (k : Int) ∧ (k : Int) ≤ 5) = true) := decide_eq_true ⟨by have := HK.out; omega, by have := H5.out; omega⟩
  clear b1 HI
  obtain ⟨mb, hmb⟩ : ∃ mb, most k = mb := ⟨_, rfl⟩
  rw [hmb] at hm
  have HM : Hid (most k = mb) := hmb
  clear hmb
  go_wp2_with (go_at_call 50; refine (upTo_any _ _ _).mono ?_; rintro e w' ⟨rfl, rfl⟩)
  cases hr : Rt.isR r with
  | false =>
    go_quiet (first | (go_at_call 51; exact Calls.quiet_of_same (Rt.is_any _ _)) | (go_at_call 50; exact Calls.quiet_of_same (upTo_any _ _ _)))
    go_wp2
    go_ret
    exact ⟨Rt.ret_int (by rw [← he.out]; simp [chkE, okB, someB, hn, HM.out, HD.out, hr]), below_drewN HB.out _⟩
  | true =>
    cases hb : up b mb with
    | false =>
      go_quiet (first | (go_at_call 51; exact Calls.quiet_of_same (Rt.is_any _ _)) | (go_at_call 50; exact Calls.quiet_of_same (upTo_any _ _ _)))
      go_wp2
      go_ret
      exact ⟨Rt.ret_int (by rw [← he.out]; simp [chkE, okB, someB, hn, HM.out, HD.out, hr, hb]), below_drewN HB.out _⟩
    | true =>
      cases ho : up o 1023 with
      | false =>
        go_quiet (first | (go_at_call 51; exact Calls.quiet_of_same (Rt.is_any _ _)) | (go_at_call 50; exact Calls.quiet_of_same (upTo_any _ _ _)))
        go_wp2
        go_ret
        exact ⟨Rt.ret_int (by rw [← he.out]; simp [chkE, okB, someB, hn, HM.out, HD.out, hr, hb, ho]), below_drewN HB.out _⟩
      | true =>
        cases hg : up g 4095 with
        | false =>
          go_quiet (first | (go_at_call 51; exact Calls.quiet_of_same (Rt.is_any _ _)) | (go_at_call 50; exact Calls.quiet_of_same (upTo_any _ _ _)))
          go_wp2
          go_ret
          exact ⟨Rt.ret_int (by rw [← he.out]; simp [chkE, okB, someB, hn, HM.out, HD.out, hr, hb, ho, hg]), below_drewN HB.out _⟩
        | true =>
          go_quiet (first | (go_at_call 51; exact Calls.quiet_of_same (Rt.is_any _ _)) | (go_at_call 50; exact Calls.quiet_of_same (upTo_any _ _ _)))
          go_wp2
          go_ret
          exact ⟨Rt.ret_int (by rw [← he.out]; simp [chkE, okB, someB, hn, HM.out, HD.out, hr, hb, ho, hg]), below_drewN HB.out _⟩

/-- CHECK, OF WHATEVER CAPABILITY. -/
theorem check_any (c : K) (w : World) (hT : Tabs w) :
    Calls Tryd.prog 48 #[(.agg #[.int .i64 c.t, .int .i64 c.r, .int .i64 c.b, .int .i64 c.o, .int .i64 c.g])] w fun e w' => e = .returned (.int .i64 (chkE c)) ∧ Below w.heap.size w w' := by
  cases hn : noneB c with
  | true =>
    rw [show chkE c = 0 by simp [chkE, okB, hn]]
    exact check_none c w hn
  | false =>
    by_cases ht : 1 ≤ c.t ∧ c.t ≤ 5
    · obtain ⟨t, r, b, o, g⟩ := c
      dsimp only at ht
      obtain ⟨k, rfl⟩ := Int.eq_ofNat_of_zero_le (show 0 ≤ t by have := ht.1; omega)
      exact check_rest k r b o g w (by have := ht.1; omega) (by have := ht.2; omega) hT _ rfl
    · rw [show chkE c = 30 by simp [chkE, okB, hn, someB, ht]]
      exact check_type c w hn ht
end Go.Proofs.YthnfekdoibhnpaaDoor.Cp
