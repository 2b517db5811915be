/- What the document's answers for fields are: Field, Bit, Mask, Get, Put of the reference: the same as the program's. -/
import Derived.Test.YtilannincbcgkaaDoorPutMc
namespace Go.Proofs.YtilannincbcgkaaDoor
open Go.RowKit

theorem bit_test (x k : Nat) (hx : x < 18446744073709551616) : bits .and .u64 ((x : Int) / 2 ^ k) 1 = if x.testBit k then 1 else 0 := by
  have e : ((x : Int) / 2 ^ k) = ((x / 2 ^ k : Nat) : Int) := by simp
  have h1 := u64_and_nat (x / 2 ^ k) 1 (Nat.lt_of_le_of_lt (Nat.div_le_self _ _) hx) (by omega)
  rw [e]
  refine h1.trans ?_
  rw [nat_mask1, Nat.testBit_eq_decide_div_mod_eq]
  have h2 : x / 2 ^ k % 2 = 0 ∨ x / 2 ^ k % 2 = 1 := by omega
  rcases h2 with h | h <;> simp [h]

set_option maxHeartbeats 400000 in
theorem rfield_yes (a n : Int) (w : World) (h1 : 1 ≤ n) (h2 : n ≤ 64) (h3 : 0 ≤ a) (h4 : a ≤ 64 - n) :
    Calls Tryd.prog 32 #[.int .i64 a, .int .i64 n] w fun e w' => e = .returned (.bool true) ∧ w' = w := by
  go_enter Tryd.func32, Tryd.ntmps32
  go_wp2
  go_ret
  exact ⟨rfl, rfl⟩

set_option maxHeartbeats 400000 in
theorem rfield_no (a n : Int) (w : World) (h : ¬ (1 ≤ n ∧ n ≤ 64 ∧ 0 ≤ a ∧ a ≤ 64 - n)) :
    Calls Tryd.prog 32 #[.int .i64 a, .int .i64 n] w fun e w' => e = .returned (.bool false) ∧ w' = w := by
  by_cases h1 : 1 ≤ n
  · by_cases h2 : n ≤ 64
    · by_cases h3 : 0 ≤ a
      · have h4 : ¬ a ≤ 64 - n := by omega
        clear h
        go_enter Tryd.func32, Tryd.ntmps32
        go_wp2
        go_ret
        exact ⟨rfl, rfl⟩
      · clear h
        go_enter Tryd.func32, Tryd.ntmps32
        go_wp2
        go_ret
        exact ⟨rfl, rfl⟩
    · clear h
      go_enter Tryd.func32, Tryd.ntmps32
      go_wp2
      go_ret
      exact ⟨rfl, rfl⟩
  · clear h
    go_enter Tryd.func32, Tryd.ntmps32
    go_wp2
    go_ret
    exact ⟨rfl, rfl⟩

/-- One bit, as a number. -/
def bitN (x k : Nat) : Nat := if x.testBit k then 1 else 0
theorem bitN_yes {x k : Nat} (h : x.testBit k = true) : bitN x k = 1 := by simp [bitN, h]
theorem bitN_no {x k : Nat} (h : x.testBit k = false) : bitN x k = 0 := by simp [bitN, h]
theorem bitN_le (x k : Nat) : bitN x k ≤ 1 := by unfold bitN; split <;> omega

set_option maxHeartbeats 400000 in
theorem rbit_any (x k : Nat) (w : World) (hx : Hid (x < 18446744073709551616)) (hk : k < 64) :
    Calls Tryd.prog 33 #[.int .u64 x, .int .i64 k] w fun e w' => e = .returned (.int .u64 (bitN x k : Nat)) ∧ w' = w := by
  have HB : Hid (bits .and .u64 ((x : Int) / 2 ^ k) 1 = (bitN x k : Nat)) := by
    show bits .and .u64 ((x : Int) / 2 ^ k) 1 = (bitN x k : Nat)
    rw [bit_test x k hx.out]
    unfold bitN
    split <;> rfl
  go_enter Tryd.func33, Tryd.ntmps33
  go_wp2
  go_ret
  exact ⟨ret_int HB.out, rfl⟩

theorem add_u64 (y z : Nat) (h : y + z < 18446744073709551616) : IntKind.u64.wrap ((y : Int) + (z : Int)) = ((y + z : Nat) : Int) := by
  rw [IntKind.wrap_u64]; omega
/-! ### Get -/
theorem mod_succ (y k : Nat) : y % 2 ^ (k + 1) = y % 2 ^ k + bitN y k * 2 ^ k := by
  rw [Nat.mod_pow_succ]
  unfold bitN
  rw [Nat.testBit_eq_decide_div_mod_eq]
  have h2 : y / 2 ^ k % 2 = 0 ∨ y / 2 ^ k % 2 = 1 := by omega
  rcases h2 with h | h <;> simp [h]
theorem shl_u64 (b k : Nat) (hb : b ≤ 1) (hk : k < 64) : IntKind.u64.wrap ((b : Int) * 2 ^ k) = ((b * 2 ^ k : Nat) : Int) := by
  have hp : 2 ^ k < 2 ^ 64 := Nat.pow_lt_pow_right (by omega) hk
  have e : ((b : Int) * 2 ^ k) = ((b * 2 ^ k : Nat) : Int) := by simp
  rw [e]
  have hz : b * 2 ^ k ≤ 2 ^ k := by
    have : b = 0 ∨ b = 1 := by omega
    rcases this with rfl | rfl <;> simp
  generalize b * 2 ^ k = z at hz ⊢
  rw [IntKind.wrap_u64]; omega
/-- One bit more. -/
theorem bit_step (y k : Nat) (hk : k < 64) : IntKind.u64.wrap (((y % 2 ^ k : Nat) : Int) + IntKind.u64.wrap ((bitN y k : Int) * 2 ^ k)) = ((y % 2 ^ (k + 1) : Nat) : Int) := by
  rw [shl_u64 _ _ (bitN_le y k) hk]
  have h := mod_succ y k
  have hl : y % 2 ^ (k + 1) < 2 ^ 64 := Nat.lt_of_lt_of_le (Nat.mod_lt _ (Nat.two_pow_pos _)) (Nat.pow_le_pow_right (by omega) (by omega))
  rw [h] at hl ⊢
  exact add_u64 _ _ (by omega)
theorem bitN_div (x a k : Nat) : bitN (x / 2 ^ a) k = bitN x (a + k) := by
  unfold bitN
  rw [Nat.testBit_div_two_pow, Nat.add_comm]

set_option maxRecDepth 100000 in
set_option maxHeartbeats 1000000 in
theorem rget_yes (x a n : Nat) (w : World) (hx : Hid (x < 18446744073709551616)) (h1 : 1 ≤ n) (h4 : a + n ≤ 64) :
    Calls Tryd.prog 24 #[.int .u64 x, .int .i64 a, .int .i64 n] w fun e w' => e = .returned (.int .u64 (getN x a n)) ∧ w' = w := by
  have HF : Hid (∀ W : World, Calls Tryd.prog 32 #[.int .i64 a, .int .i64 n] W fun e w' => e = .returned (.bool true) ∧ w' = W) := fun W => rfield_yes a n W (by omega) (by omega) (by omega) (by omega)
  go_enter Tryd.func24, Tryd.ntmps24
  go_wp2_with (go_at_call 32; refine (HF.out _).mono ?_; rintro e w' ⟨rfl, rfl⟩)
  go_loop [7, 8] (fun t i => ∃ k : Nat, k ≤ n ∧ i = .int .i64 k ∧ t = .int .u64 (getN x a k : Nat)) (fun _ i => n - (intOf i).toNat)
  case atStart => exact ⟨0, by omega, rfl, by simp [getN, Nat.mod_one]⟩
  case round =>
    obtain ⟨k, hk2, rfl, rfl⟩ := hrel
    by_cases hlt : k < n
    · have HS : Hid (IntKind.u64.wrap ((getN x a k : Int) + IntKind.u64.wrap ((bitN x (a + k) : Int) * 2 ^ k)) = (getN x a (k + 1) : Int)) := by
        have := bit_step (x / 2 ^ a) k (by omega)
        rw [bitN_div] at this
        exact this
      have HB : Hid (∀ W : World, Calls Tryd.prog 33 #[.int .u64 x, .int .i64 ((a : Int) + k)] W fun e w' => e = .returned (.int .u64 (bitN x (a + k) : Nat)) ∧ w' = W) := fun W => rbit_any x (a + k) W hx (by omega)
      go_wp2_with (go_at_call 33; refine (HB.out _).mono ?_; rintro e w' ⟨rfl, rfl⟩)
      go_round
      case rel => exact ⟨k + 1, by omega, by go_num, by rw [← HS.out]⟩
      case measure => simp [intOf]; omega
    · obtain rfl : k = n := by omega
      go_wp2
      go_ret
      exact ⟨rfl, rfl⟩

set_option maxHeartbeats 400000 in
theorem rget_no (x a n : Int) (w : World) (h : ¬ (1 ≤ n ∧ n ≤ 64 ∧ 0 ≤ a ∧ a ≤ 64 - n)) :
    Calls Tryd.prog 24 #[.int .u64 x, .int .i64 a, .int .i64 n] w fun e w' => e = .returned (.int .u64 0) ∧ w' = w := by
  have H : Hid (¬ (1 ≤ n ∧ n ≤ 64 ∧ 0 ≤ a ∧ a ≤ 64 - n)) := h
  clear h
  go_enter Tryd.func24, Tryd.ntmps24
  go_wp2_with (go_at_call 32; refine (rfield_no _ _ _ H.out).mono ?_; rintro e w' ⟨rfl, rfl⟩)
  go_ret
  exact ⟨rfl, rfl⟩

theorem rget_any (x a n : Int) (w : World) (hx : U64 x) :
    Calls Tryd.prog 24 #[.int .u64 x, .int .i64 a, .int .i64 n] w fun e w' => e = .returned (.int .u64 (getT x a n)) ∧ w' = w := by
  cases h : fld a n with
  | false => rw [getT_no h]; exact rget_no x a n w (fld_not.1 h)
  | true =>
    obtain ⟨h1, h2, h3, h4⟩ := fld_iff.1 h
    rw [getT_yes h]
    obtain ⟨a', rfl⟩ := Int.eq_ofNat_of_zero_le h3
    obtain ⟨n', rfl⟩ := Int.eq_ofNat_of_zero_le (show 0 ≤ n by omega)
    obtain ⟨x', rfl⟩ := Int.eq_ofNat_of_zero_le hx.1
    exact rget_yes x' a' n' w (by have := hx.2; show x' < 18446744073709551616; omega) (by omega) (by omega)

/-! ### Put -/
theorem fits_bits (v n : Nat) (hv : v < 18446744073709551616) (hz : ∀ j, n ≤ j → j < 64 → v.testBit j = false) : v ≤ 2 ^ n - 1 := by
  have : v < 2 ^ n := Nat.lt_pow_two_of_testBit v fun i hi => by
    by_cases h : i < 64
    · exact hz i hi h
    · exact Nat.testBit_lt_two_pow (Nat.lt_of_lt_of_le (show v < 2 ^ 64 by omega) (Nat.pow_le_pow_right (by omega) (by omega)))
  omega
theorem not_fits (v n k : Nat) (hk : n ≤ k) (hb : v.testBit k = true) : ¬ v ≤ 2 ^ n - 1 := by
  intro h
  have : v < 2 ^ k := Nat.lt_of_lt_of_le (show v < 2 ^ n by have := Nat.two_pow_pos n; omega) (Nat.pow_le_pow_right (by omega) hk)
  rw [Nat.testBit_lt_two_pow this] at hb
  cases hb
/-- The k least bits. -/
def lowN (y k : Nat) : Nat := y % 2 ^ k
theorem low_step (y k : Nat) (hk : k < 64) : IntKind.u64.wrap ((lowN y k : Int) + IntKind.u64.wrap ((bitN y k : Int) * 2 ^ k)) = (lowN y (k + 1) : Int) := bit_step y k hk
theorem bitN_put (x a n v k : Nat) (hx : x < 18446744073709551616) (hv : v ≤ 2 ^ n - 1) (h : a + n ≤ 64) : bitN (putN x a n v) k = if a ≤ k ∧ k < a + n then bitN v (k - a) else bitN x k := by
  unfold bitN
  rw [put_bit x a n v k hx hv h]
  by_cases hc : a ≤ k ∧ k < a + n
  · rw [if_pos hc, if_pos hc]
  · rw [if_neg hc, if_neg hc]

set_option maxHeartbeats 400000 in
theorem rput_arg (x a n v : Int) (w : World) (h : ¬ (1 ≤ n ∧ n ≤ 64 ∧ 0 ≤ a ∧ a ≤ 64 - n)) :
    Calls Tryd.prog 21 #[.int .u64 x, .int .i64 a, .int .i64 n, .int .u64 v] w fun e w' => e = .returned (.tuple #[.int .u64 0, .int .i64 2]) ∧ w' = w := by
  have H : Hid (¬ (1 ≤ n ∧ n ≤ 64 ∧ 0 ≤ a ∧ a ≤ 64 - n)) := h
  clear h
  go_enter Tryd.func21, Tryd.ntmps21
  go_wp2_with (go_at_call 32; refine (rfield_no _ _ _ H.out).mono ?_; rintro e w' ⟨rfl, rfl⟩)
  go_ret2
  exact ⟨rfl, rfl⟩

set_option maxRecDepth 100000 in
set_option maxHeartbeats 2000000 in
theorem rput_some (x a n v : Nat) (w : World) (hx : Hid (x < 18446744073709551616)) (hv : Hid (v < 18446744073709551616)) (h1 : 1 ≤ n) (h4 : a + n ≤ 64) (p e0 : Int)
    (hyes : Hid (v ≤ 2 ^ n - 1 → p = (putN x a n v : Nat) ∧ e0 = 0)) (hno : Hid (¬ v ≤ 2 ^ n - 1 → p = 0 ∧ e0 = 10)) :
    Calls Tryd.prog 21 #[.int .u64 x, .int .i64 a, .int .i64 n, .int .u64 v] w fun e w' => e = .returned (.tuple #[.int .u64 p, .int .i64 e0]) ∧ w' = w := by
  have HF : Hid (∀ W : World, Calls Tryd.prog 32 #[.int .i64 a, .int .i64 n] W fun e w' => e = .returned (.bool true) ∧ w' = W) := fun W => rfield_yes a n W (by omega) (by omega) (by omega) (by omega)
  go_enter Tryd.func21, Tryd.ntmps21
  go_wp2_with (go_at_call 32; refine (HF.out _).mono ?_; rintro e w' ⟨rfl, rfl⟩)
  go_loop [10] (fun i => ∃ k : Nat, n ≤ k ∧ k ≤ 64 ∧ i = .int .i64 k ∧ Hid (∀ j, n ≤ j → j < k → v.testBit j = false)) (fun i => 64 - (intOf i).toNat)
  case atStart => exact ⟨n, Nat.le_refl _, by omega, rfl, fun j h1 h2 => absurd h2 (by omega)⟩
  case round =>
    obtain ⟨k, hk1, hk2, rfl, hz⟩ := hrel
    by_cases hlt : k < 64
    · have HB : Hid (∀ W : World, Calls Tryd.prog 33 #[.int .u64 v, .int .i64 k] W fun e w' => e = .returned (.int .u64 (bitN v k : Nat)) ∧ w' = W) := fun W => rbit_any v k W hv hlt
      cases hb : v.testBit k with
      | true =>
        have hr := hno.out (not_fits v n k hk1 hb)
        have H1 : Hid (p = 0) := hr.1
        have H2 : Hid (e0 = 10) := hr.2
        have hb1 := bitN_yes hb
        rw [hb1] at HB
        clear hb hr hb1
        go_wp2_with (go_at_call 33; refine (HB.out _).mono ?_; rintro e w' ⟨rfl, rfl⟩)
        go_ret2
        exact ⟨by rw [H1.out, H2.out]; rfl, rfl⟩
      | false =>
        have HZ : Hid (v.testBit k = false) := hb
        have hb1 := bitN_no hb
        rw [hb1] at HB
        clear hb hb1
        go_wp2_with (go_at_call 33; refine (HB.out _).mono ?_; rintro e w' ⟨rfl, rfl⟩)
        go_round
        case rel => exact ⟨k + 1, by omega, by omega, by go_num, fun j h1 h2 => if e : j = k then e ▸ HZ.out else hz.out j h1 (by omega)⟩
        case measure => simp [intOf]; omega
    · obtain rfl : k = 64 := by omega
      have hfit := fits_bits v n hv.out hz.out
      have hr := hyes.out hfit
      have H1 : Hid (p = (putN x a n v : Nat)) := hr.1
      have H2 : Hid (e0 = 0) := hr.2
      have HV : Hid (v ≤ 2 ^ n - 1) := hfit
      clear hr hfit
      go_wp2
      go_loop [11, 12] (fun t i => ∃ k : Nat, k ≤ 64 ∧ i = .int .i64 k ∧ t = .int .u64 (lowN (putN x a n v) k : Nat)) (fun _ i => 64 - (intOf i).toNat)
      case atStart => exact ⟨0, by omega, rfl, by simp [lowN, Nat.mod_one]⟩
      case round =>
        obtain ⟨k, hk2, rfl, rfl⟩ := hrel
        by_cases hlt : k < 64
        · have HB : Hid (∀ W : World, Calls Tryd.prog 33 #[.int .u64 x, .int .i64 k] W fun e w' => e = .returned (.int .u64 (bitN x k : Nat)) ∧ w' = W) := fun W => rbit_any x k W hx hlt
          have hst := low_step (putN x a n v) k hlt
          rw [bitN_put x a n v k hx.out HV.out h4] at hst
          by_cases ha : a ≤ k
          · by_cases hn : k < a + n
            · rw [if_pos ⟨ha, hn⟩] at hst
              have HS : Hid (IntKind.u64.wrap ((lowN (putN x a n v) k : Int) + IntKind.u64.wrap ((bitN v (k - a) : Int) * 2 ^ k)) = (lowN (putN x a n v) (k + 1) : Int)) := hst
              clear hst
              have HB2 : Hid (∀ W : World, Calls Tryd.prog 33 #[.int .u64 v, .int .i64 ((k : Int) - a)] W fun e w' => e = .returned (.int .u64 (bitN v (k - a) : Nat)) ∧ w' = W) := fun W => by
                have := rbit_any v (k - a) W hv (by omega)
                rwa [show (((k - a : Nat)) : Int) = (k : Int) - a by omega] at this
              go_wp2_with fail
              refine (HB.out _).mono ?_
              rintro e w' ⟨rfl, rfl⟩
              go_wp2_with fail
              refine (HB2.out _).mono ?_
              rintro e w' ⟨rfl, rfl⟩
              go_wp2
              go_round
              case rel => exact ⟨k + 1, by omega, by go_num, by rw [← HS.out]⟩
              case measure => simp [intOf]; omega
            · rw [if_neg (by omega)] at hst
              have HS : Hid (IntKind.u64.wrap ((lowN (putN x a n v) k : Int) + IntKind.u64.wrap ((bitN x k : Int) * 2 ^ k)) = (lowN (putN x a n v) (k + 1) : Int)) := hst
              clear hst
              go_wp2_with (go_at_call 33; refine (HB.out _).mono ?_; rintro e w' ⟨rfl, rfl⟩)
              go_round
              case rel => exact ⟨k + 1, by omega, by go_num, by rw [← HS.out]⟩
              case measure => simp [intOf]; omega
          · rw [if_neg (by omega)] at hst
            have HS : Hid (IntKind.u64.wrap ((lowN (putN x a n v) k : Int) + IntKind.u64.wrap ((bitN x k : Int) * 2 ^ k)) = (lowN (putN x a n v) (k + 1) : Int)) := hst
            clear hst
            go_wp2_with (go_at_call 33; refine (HB.out _).mono ?_; rintro e w' ⟨rfl, rfl⟩)
            go_round
            case rel => exact ⟨k + 1, by omega, by go_num, by rw [← HS.out]⟩
            case measure => simp [intOf]; omega
        · obtain rfl : k = 64 := by omega
          have HM : Hid (lowN (putN x a n v) 64 = putN x a n v) := Nat.mod_eq_of_lt (by have := putN_lt x a n v hx.out HV.out h4; omega)
          go_wp2
          go_ret2
          exact ⟨by rw [H1.out, H2.out]; exact ret_int2 (by rw [HM.out]), rfl⟩

theorem rput_any (x a n v : Int) (w : World) (hx : U64 x) (hv : U64 v) :
    Calls Tryd.prog 21 #[.int .u64 x, .int .i64 a, .int .i64 n, .int .u64 v] w fun e w' => e = .returned (.tuple #[.int .u64 (putT x a n v), .int .i64 (putE a n v)]) ∧ w' = w := by
  cases h : fld a n with
  | false =>
    rw [putT_arg h, putE_arg h]
    exact rput_arg x a n v w (fld_not.1 h)
  | true =>
    obtain ⟨h1, h2, h3, h4⟩ := fld_iff.1 h
    obtain ⟨a', rfl⟩ := Int.eq_ofNat_of_zero_le h3
    obtain ⟨n', rfl⟩ := Int.eq_ofNat_of_zero_le (show 0 ≤ n by omega)
    obtain ⟨v', rfl⟩ := Int.eq_ofNat_of_zero_le hv.1
    obtain ⟨x', rfl⟩ := Int.eq_ofNat_of_zero_le hx.1
    have key : v' ≤ 2 ^ n' - 1 ↔ fits (v' : Int) (n' : Int) = true := by
      simp only [fits, Int.toNat_natCast, decide_eq_true_eq]; omega
    refine rput_some x' a' n' v' w (by have := hx.2; show x' < 18446744073709551616; omega) (by have := hv.2; show v' < 18446744073709551616; omega) (by omega) (by omega) _ _ ?_ ?_
    · intro hf
      have hf := key.1 hf
      rw [putT_ok h hf, putE_ok h hf]
      exact ⟨rfl, rfl⟩
    · intro hf
      have hf : fits (v' : Int) (n' : Int) = false := by
        cases hc : fits (v' : Int) (n' : Int) with
        | false => rfl
        | true => exact absurd (key.2 hc) hf
      rw [putT_fit hf, putE_fit h hf]
      exact ⟨rfl, rfl⟩
end Go.Proofs.YtilannincbcgkaaDoor
