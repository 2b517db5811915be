/- CapBits answers true. -/
import Derived.Test.YtgjkocbfpcgccabDoorCpW7
import Derived.Test.YtgjkocbfpcgccabDoorCpFacts
namespace Go.Proofs.YtgjkocbfpcgccabDoor.Cp
open Go.RowKit

theorem xor_ne (a n : Nat) : a ^^^ 2 ^ n ≠ a := by
  intro h
  have h1 := congrArg (fun x => x.testBit n) h
  simp [Nat.testBit_xor] at h1
theorem xor_high (a n : Nat) (ha : a < 70368744177664) (hn : 46 ≤ n) : 70368744177664 ≤ a ^^^ 2 ^ n := by
  have hb : (a ^^^ 2 ^ n).testBit n = true := by
    have : a.testBit n = false := Nat.testBit_lt_two_pow (Nat.lt_of_lt_of_le ha (show 70368744177664 ≤ 2 ^ n from Nat.pow_le_pow_right (n := 2) (i := 46) (by omega) hn))
    simp [Nat.testBit_xor, this]
  have h1 : 2 ^ n ≤ a ^^^ 2 ^ n := Nat.ge_two_pow_of_testBit hb
  have h2 : 2 ^ 46 ≤ 2 ^ n := Nat.pow_le_pow_right (by omega) hn
  omega
/-- A word with a bit turned. -/
def flip (x : Int) (n : Nat) : Int := ((x.toNat ^^^ 2 ^ n : Nat) : Int)
theorem flip_u64 (x : Int) (n : Nat) (hx : U64 x) (hn : n < 64) : U64 (flip x n) := by
  refine u64_of _ ?_
  have h1 : x.toNat < 2 ^ 64 := by have := hx.1; have := hx.2; omega
  have h2 : 2 ^ n < 2 ^ 64 := Nat.pow_lt_pow_right (by omega) hn
  have := Nat.xor_lt_two_pow h1 h2
  omega
theorem flip_run (x : Int) (n : Nat) (hx : U64 x) (hn : n < 64) : bits .xor .u64 x (IntKind.u64.wrap (2 ^ n)) = flip x n := by
  obtain ⟨y, rfl⟩ := Int.eq_ofNat_of_zero_le hx.1
  have h2 : 2 ^ n < 2 ^ 64 := Nat.pow_lt_pow_right (by omega) hn
  have e : IntKind.u64.wrap (2 ^ n) = ((2 ^ n : Nat) : Int) := by
    rw [IntKind.wrap_u64, show ((2 : Int) ^ n) = ((2 ^ n : Nat) : Int) by simp]
    generalize 2 ^ n = p at h2 ⊢
    omega
  rw [e, u64_xor_nat y _ (by have := hx.2; omega) (by omega), flip, Int.toNat_natCast]
/-- With a bit turned it is another one's, or none's. -/
theorem flip_par (c : K) (n : Nat) : (parB (flip (wordT c) n) = true → ¬ parC (flip (wordT c) n) = c) ∧ (46 ≤ n → parB (flip (wordT c) n) = false) := by
  have hl := word_lt c
  refine ⟨fun hb he => ?_, fun h46 => ?_⟩
  · have h1 := (par_ok hb).2.1
    rw [he] at h1
    have h2 := congrArg Int.toNat h1
    rw [flip, Int.toNat_natCast] at h2
    exact xor_ne _ _ h2.symm
  · cases hb : parB (flip (wordT c) n) with
    | false => rfl
    | true =>
      have h1 := (par_ok hb).2.1
      have h2 := word_lt (parC (flip (wordT c) n))
      rw [h1] at h2
      have h3 := xor_high (wordT c).toNat n (by omega) h46
      unfold flip at h2
      omega

set_option maxRecDepth 100000 in
set_option maxHeartbeats 2000000 in
theorem bits_walk (c : K) (n : Int) (w : World) (hT : Tabs w) :
    Calls Tryd.prog 4 #[(.agg #[.int .i64 c.t, .int .i64 c.r, .int .i64 c.b, .int .i64 c.o, .int .i64 c.g]), .int .i64 n] w fun e w' => e = .returned (.bool true) ∧ Below w.heap.size w w' := by
  have HT : Hid (Tabs w) := hT
  have HI : Hid (In (w.alloc (.cells #[.int .i64 c.t, .int .i64 c.r, .int .i64 c.b, .int .i64 c.o, .int .i64 c.g] 23)) w.heap.size c) := in_new w c 23
  clear hT
  cases h : okB c with
  | false =>
    have H1 : Hid (∀ W : World, Tabs W → Calls Tryd.prog 8 #[(.agg #[.int .i64 c.t, .int .i64 c.r, .int .i64 c.b, .int .i64 c.o, .int .i64 c.g])] W fun e w' => e = .returned (.tuple #[.int .u64 0, .int .i64 30]) ∧ Below W.heap.size W w') := fun W hW => word_bad c W hW h
    go_enter Tryd.func4, Tryd.ntmps4
    go_wp2_with fail
    refine (H1.out _ (HT.out.below (q_alloc (Below.refl _ _) _))).mono ?_
    rintro e w1 ⟨rfl, b1⟩
    have HB1 : Hid (Below w.heap.size w w1) := q_trans (q_alloc (Below.refl _ _) _) b1
    clear b1
    go_wp2_with (first | (go_at_call 6; refine (num_any _ _).mono ?_; rintro e w5 ⟨rfl, rfl⟩) | (go_at_call 7; refine (live_any _ (HT.out.below HB1.out)).mono ?_; rintro e w6 ⟨rfl, b6⟩))
    go_ret
    exact ⟨rfl, q_trans HB1.out b6⟩
  | true =>
    have H1 : Hid (∀ W : World, Tabs W → Calls Tryd.prog 8 #[(.agg #[.int .i64 c.t, .int .i64 c.r, .int .i64 c.b, .int .i64 c.o, .int .i64 c.g])] W fun e w' => e = .returned (.tuple #[.int .u64 (wordT c), .int .i64 0]) ∧ Below W.heap.size W w') := fun W hW => by
      have := word_any c W hW
      rwa [show chkE c = 0 by simp [chkE, h]] at this
    by_cases hr : 0 ≤ n ∧ n ≤ 63
    · obtain ⟨k, rfl⟩ := Int.eq_ofNat_of_zero_le hr.1
      have hk : k < 64 := by omega
      have hF := flip_par c k
      have HF : Hid _ := hF
      have HU : Hid (U64 (flip (wordT c) k)) := flip_u64 _ _ (wordT_u64 c) hk
      have HX : Hid (U64 (wordT c)) := wordT_u64 c
      have hfl := flip_run (wordT c) k HX.out hk
      obtain ⟨x, hx⟩ : ∃ x, flip (wordT c) k = x := ⟨_, rfl⟩
      rw [hx] at hfl HU
      have HF2 : Hid ((parB x = true → ¬ parC x = c) ∧ (46 ≤ k → parB x = false)) := hx ▸ hF
      have i1 : (0 : Int) ≤ (k : Int) := by omega
      have i2 : (k : Int) ≤ 63 := by omega
      clear hF hr hx HF HX
      cases hb : parB x with
      | true =>
        obtain ⟨p, hp⟩ : ∃ p, parC x = p := ⟨_, rfl⟩
        have H2 : Hid (∀ W : World, Tabs W → Calls Tryd.prog 9 #[.int .u64 x] W fun e w' => e = .returned (.tuple #[(.agg #[.int .i64 p.t, .int .i64 p.r, .int .i64 p.b, .int .i64 p.o, .int .i64 p.g]), .int .i64 0]) ∧ Below W.heap.size W w') := fun W hW => by
          have := parse_any x W HU.out hW
          rwa [(par_ok hb).2.2.1, hp] at this
        have hpc : ¬ p = c := hp ▸ HF2.out.1 hb
        have he := eq5 p c
        rw [show eqK p c = false by
          cases e : eqK p c with
          | false => rfl
          | true => exact absurd (eqK_iff.1 e) hpc] at he
        have h46 : (k : Int) < 46 := by
          have : ¬ 46 ≤ k := fun h46 => by rw [HF2.out.2 h46] at hb; cases hb
          omega
        clear hpc hp hb hk
        go_enter Tryd.func4, Tryd.ntmps4
        go_wp2_with fail
        refine (H1.out _ (HT.out.below (q_alloc (Below.refl _ _) _))).mono ?_
        rintro e w1 ⟨rfl, b1⟩
        have HB1 : Hid (Below w.heap.size w w1) := q_trans (q_alloc (Below.refl _ _) _) b1
        have HI1 : Hid (In w1 w.heap.size c) := HI.out.below b1
        clear b1
        go_wp2_with (go_at_call 6; refine (num_any _ _).mono ?_; rintro e w5 ⟨rfl, rfl⟩)
        refine (H2.out _ (HT.out.below HB1.out)).mono ?_
        rintro e w2 ⟨rfl, b2⟩
        have HB2 : Hid (Below w.heap.size w (w2.alloc (.cells #[.int .i64 p.t, .int .i64 p.r, .int .i64 p.b, .int .i64 p.o, .int .i64 p.g] 23))) := q_alloc (q_trans HB1.out b2) _
        have HI2 := HI1.out.below b2
        have hl2 := HI2.lt
        obtain ⟨c0, c1, c2, c3, c4⟩ := HI2
        clear b2
        go_wp2_with (first | (go_at_call 6; refine (num_any _ _).mono ?_; rintro e w5 ⟨rfl, rfl⟩) | (go_at_call 7; refine (live_any _ (HT.out.below HB2.out)).mono ?_; rintro e w6 ⟨rfl, b6⟩))
        go_ret
        exact ⟨rfl, q_trans HB2.out b6⟩
      | false =>
        have H2 : Hid (∀ W : World, Tabs W → Calls Tryd.prog 9 #[.int .u64 x] W fun e w' => e = .returned (.tuple #[.agg #[.int .i64 0, .int .i64 0, .int .i64 0, .int .i64 0, .int .i64 0], .int .i64 30]) ∧ Below W.heap.size W w') := fun W hW => by
          have := parse_any x W HU.out hW
          rwa [(par_no hb).1, (par_no hb).2] at this
        clear hb hk
        by_cases h46 : (k : Int) < 46
        · go_enter Tryd.func4, Tryd.ntmps4
          go_wp2_with fail
          refine (H1.out _ (HT.out.below (q_alloc (Below.refl _ _) _))).mono ?_
          rintro e w1 ⟨rfl, b1⟩
          have HB1 : Hid (Below w.heap.size w w1) := q_trans (q_alloc (Below.refl _ _) _) b1
          have HI1 : Hid (In w1 w.heap.size c) := HI.out.below b1
          clear b1
          go_wp2_with (go_at_call 6; refine (num_any _ _).mono ?_; rintro e w5 ⟨rfl, rfl⟩)
          refine (H2.out _ (HT.out.below HB1.out)).mono ?_
          rintro e w2 ⟨rfl, b2⟩
          have HB2 : Hid (Below w.heap.size w (w2.alloc (.cells #[.int .i64 0, .int .i64 0, .int .i64 0, .int .i64 0, .int .i64 0] 23))) := q_alloc (q_trans HB1.out b2) _
          have HI2 := HI1.out.below b2
          have hl2 := HI2.lt
          obtain ⟨c0, c1, c2, c3, c4⟩ := HI2
          clear b2
          go_wp2_with (first | (go_at_call 6; refine (num_any _ _).mono ?_; rintro e w5 ⟨rfl, rfl⟩) | (go_at_call 7; refine (live_any _ (HT.out.below HB2.out)).mono ?_; rintro e w6 ⟨rfl, b6⟩))
          go_ret
          exact ⟨rfl, q_trans HB2.out b6⟩
        · go_enter Tryd.func4, Tryd.ntmps4
          go_wp2_with fail
          refine (H1.out _ (HT.out.below (q_alloc (Below.refl _ _) _))).mono ?_
          rintro e w1 ⟨rfl, b1⟩
          have HB1 : Hid (Below w.heap.size w w1) := q_trans (q_alloc (Below.refl _ _) _) b1
          have HI1 : Hid (In w1 w.heap.size c) := HI.out.below b1
          clear b1
          go_wp2_with (go_at_call 6; refine (num_any _ _).mono ?_; rintro e w5 ⟨rfl, rfl⟩)
          refine (H2.out _ (HT.out.below HB1.out)).mono ?_
          rintro e w2 ⟨rfl, b2⟩
          have HB2 : Hid (Below w.heap.size w (w2.alloc (.cells #[.int .i64 0, .int .i64 0, .int .i64 0, .int .i64 0, .int .i64 0] 23))) := q_alloc (q_trans HB1.out b2) _
          have HI2 := HI1.out.below b2
          have hl2 := HI2.lt
          obtain ⟨c0, c1, c2, c3, c4⟩ := HI2
          clear b2
          go_wp2_with (first | (go_at_call 6; refine (num_any _ _).mono ?_; rintro e w5 ⟨rfl, rfl⟩) | (go_at_call 7; refine (live_any _ (HT.out.below HB2.out)).mono ?_; rintro e w6 ⟨rfl, b6⟩))
          go_ret
          exact ⟨rfl, q_trans HB2.out b6⟩
    · by_cases h0 : n < 0
      · clear hr
        go_enter Tryd.func4, Tryd.ntmps4
        go_wp2_with fail
        refine (H1.out _ (HT.out.below (q_alloc (Below.refl _ _) _))).mono ?_
        rintro e w1 ⟨rfl, b1⟩
        have HB1 : Hid (Below w.heap.size w w1) := q_trans (q_alloc (Below.refl _ _) _) b1
        clear b1
        go_wp2_with (first | (go_at_call 6; refine (num_any _ _).mono ?_; rintro e w5 ⟨rfl, rfl⟩) | (go_at_call 7; refine (live_any _ (HT.out.below HB1.out)).mono ?_; rintro e w6 ⟨rfl, b6⟩))
        go_ret
        exact ⟨rfl, q_trans HB1.out b6⟩
      · have h63 : 63 < n := by omega
        clear hr
        go_enter Tryd.func4, Tryd.ntmps4
        go_wp2_with fail
        refine (H1.out _ (HT.out.below (q_alloc (Below.refl _ _) _))).mono ?_
        rintro e w1 ⟨rfl, b1⟩
        have HB1 : Hid (Below w.heap.size w w1) := q_trans (q_alloc (Below.refl _ _) _) b1
        clear b1
        go_wp2_with (first | (go_at_call 6; refine (num_any _ _).mono ?_; rintro e w5 ⟨rfl, rfl⟩) | (go_at_call 7; refine (live_any _ (HT.out.below HB1.out)).mono ?_; rintro e w6 ⟨rfl, b6⟩))
        go_ret
        exact ⟨rfl, q_trans HB1.out b6⟩
end Go.Proofs.YtgjkocbfpcgccabDoor.Cp
