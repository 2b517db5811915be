/- What the document's answers for the bits that are set are: Count, Next, High of the reference: the same as the program's. -/
import Derived.Test.YtdngpjgpomjncaaDoorRefA
import Derived.Test.YtdngpjgpomjncaaDoorNx
namespace Go.Proofs.YtdngpjgpomjncaaDoor
open Go.RowKit

theorem next_hit {x : Nat} {a : Int} {k : Nat} (ha : a ≤ (k : Int)) (hk : k < 64) (hb : x.testBit k = true) (hz : ∀ j : Nat, a ≤ (j : Int) → j < k → x.testBit j = false) : nextI x a = k ∧ nextB x a = true := by
  rcases next_is x a 64 with ⟨q, h0, h1, h2, h3, h4⟩ | ⟨_, h4⟩
  · have : q = k := by
      rcases Nat.lt_trichotomy q k with h | h | h
      · rw [hz q h1 h] at h3; cases h3
      · exact h
      · rw [h4 k ha h] at hb; cases hb
    subst this
    simp [nextI, nextB, h0]
  · rw [h4 k ha hk] at hb; cases hb
theorem next_miss {x : Nat} {a : Int} (hz : ∀ j : Nat, a ≤ (j : Int) → j < 64 → x.testBit j = false) : nextI x a = 0 ∧ nextB x a = false := by
  rcases next_is x a 64 with ⟨q, h0, h1, h2, h3, h4⟩ | ⟨h0, _⟩
  · rw [hz q h1 h2] at h3; cases h3
  · simp [nextI, nextB, h0]
theorem ret_ib {x y : Int} {a b : Bool} (h1 : x = y) (h2 : a = b) : Ending.returned (.tuple #[.int .i64 x, .bool a]) = .returned (.tuple #[.int .i64 y, .bool b]) := by rw [h1, h2]

set_option maxRecDepth 100000 in
set_option maxHeartbeats 1000000 in
theorem rcount_any (x : Nat) (w : World) (hx : Hid (x < 18446744073709551616)) :
    Calls Tryd.prog 23 #[.int .u64 x] w fun e w' => e = .returned (.int .i64 (cnt x 64 : Nat)) ∧ w' = w := by
  go_enter Tryd.func23, Tryd.ntmps23
  go_wp2
  go_loop [3, 4] (fun t i => ∃ k : Nat, k ≤ 64 ∧ i = .int .i64 k ∧ t = .int .i64 (cnt x k : Nat)) (fun _ i => 64 - (intOf i).toNat)
  case atStart => exact ⟨0, by omega, rfl, rfl⟩
  case round =>
    obtain ⟨k, hk, rfl, rfl⟩ := hrel
    have hcn := cnt_le x k
    by_cases hlt : k < 64
    · have HB : Hid (∀ W : World, Calls Tryd.prog 30 #[.int .u64 x, .int .i64 k] W fun e w' => e = .returned (.int .u64 (bitN x k : Nat)) ∧ w' = W) := fun W => rbit_any x k W hx hlt
      have hc := cnt_succ x k
      cases hb : x.testBit k with
      | true =>
        rw [hb, if_pos rfl] at hc
        rw [bitN_yes hb] at HB
        have HC : Hid (cnt x (k + 1) = cnt x k + 1) := hc
        clear hb hc
        go_wp2_with (go_at_call 30; refine (HB.out _).mono ?_; rintro e w' ⟨rfl, rfl⟩)
        go_round
        case rel => exact ⟨k + 1, by omega, by go_num, by rw [HC.out]; go_num⟩
        case measure => simp [intOf]; omega
      | false =>
        rw [hb, if_neg (by simp)] at hc
        rw [bitN_no hb] at HB
        have HC : Hid (cnt x (k + 1) = cnt x k + 0) := hc
        clear hb hc
        go_wp2_with (go_at_call 30; refine (HB.out _).mono ?_; rintro e w' ⟨rfl, rfl⟩)
        go_round
        case rel => exact ⟨k + 1, by omega, by go_num, by rw [HC.out]; go_num⟩
        case measure => simp [intOf]; omega
    · obtain rfl : k = 64 := by omega
      go_wp2
      go_ret
      exact ⟨rfl, rfl⟩

set_option maxRecDepth 100000 in
set_option maxHeartbeats 1000000 in
theorem rhigh_any (x : Nat) (w : World) (hx : Hid (x < 18446744073709551616)) :
    Calls Tryd.prog 20 #[.int .u64 x] w fun e w' => e = .returned (.tuple #[.int .i64 (lastI (upto x 64)), .bool (lastB (upto x 64))]) ∧ w' = w := by
  go_enter Tryd.func20, Tryd.ntmps20
  go_wp2
  go_loop [4] (fun i => ∃ z : Int, -1 ≤ z ∧ z ≤ 63 ∧ i = .int .i64 z ∧ Hid (∀ j : Nat, z < (j : Int) → j < 64 → x.testBit j = false)) (fun i => (intOf i + 1).toNat)
  case atStart => exact ⟨63, by omega, by omega, rfl, fun j h1 h2 => absurd h1 (by omega)⟩
  case round =>
    obtain ⟨z, hz1, hz2, rfl, hz⟩ := hrel
    by_cases hlt : 0 ≤ z
    · obtain ⟨k, rfl⟩ := Int.eq_ofNat_of_zero_le hlt
      have HB : Hid (∀ W : World, Calls Tryd.prog 30 #[.int .u64 x, .int .i64 k] W fun e w' => e = .returned (.int .u64 (bitN x k : Nat)) ∧ w' = W) := fun W => rbit_any x k W hx (by omega)
      cases hb : x.testBit k with
      | true =>
        rw [bitN_yes hb] at HB
        have hl := last_is x k (by omega) hb (fun i h1 h2 => hz.out i (by omega) h2)
        have H1 : Hid (lastI (upto x 64) = k) := hl.1
        have H2 : Hid (lastB (upto x 64) = true) := hl.2
        clear hb hl
        go_wp2_with (go_at_call 30; refine (HB.out _).mono ?_; rintro e w' ⟨rfl, rfl⟩)
        go_ret2
        exact ⟨ret_ib H1.out.symm H2.out.symm, rfl⟩
      | false =>
        rw [bitN_no hb] at HB
        have HZ : Hid (x.testBit k = false) := hb
        clear hb
        go_wp2_with (go_at_call 30; refine (HB.out _).mono ?_; rintro e w' ⟨rfl, rfl⟩)
        go_round
        case rel => exact ⟨(k : Int) - 1, by omega, by omega, rfl, fun j h1 h2 => if e : j = k then e ▸ HZ.out else hz.out j (by omega) h2⟩
        case measure => simp [intOf]
    · obtain rfl : z = -1 := by omega
      have hl := last_none x (fun i h => hz.out i (by omega) h)
      have H1 : Hid (lastI (upto x 64) = 0) := hl.1
      have H2 : Hid (lastB (upto x 64) = false) := hl.2
      clear hl
      go_wp2
      go_ret2
      exact ⟨ret_ib H1.out.symm H2.out.symm, rfl⟩

set_option maxRecDepth 100000 in
set_option maxHeartbeats 1000000 in
theorem rnext_pos (x : Nat) (a : Nat) (w : World) (hx : Hid (x < 18446744073709551616)) :
    Calls Tryd.prog 18 #[.int .u64 x, .int .i64 a] w fun e w' => e = .returned (.tuple #[.int .i64 (nextI x a), .bool (nextB x a)]) ∧ w' = w := by
  go_enter Tryd.func18, Tryd.ntmps18
  go_wp2
  go_loop [6] (fun i => ∃ k : Nat, a ≤ k ∧ (a : Int) ≤ (k : Int) ∧ i = .int .i64 k ∧ Hid (∀ j : Nat, (a : Int) ≤ (j : Int) → j < k → x.testBit j = false)) (fun i => 64 - (intOf i).toNat)
  case atStart => exact ⟨a, Nat.le_refl _, by omega, rfl, fun j h1 h2 => absurd h2 (by omega)⟩
  case round =>
    obtain ⟨k, hk1, hk2, rfl, hz⟩ := hrel
    by_cases hlt : k < 64
    · have HB : Hid (∀ W : World, Calls Tryd.prog 30 #[.int .u64 x, .int .i64 k] W fun e w' => e = .returned (.int .u64 (bitN x k : Nat)) ∧ w' = W) := fun W => rbit_any x k W hx hlt
      cases hb : x.testBit k with
      | true =>
        rw [bitN_yes hb] at HB
        have hl := next_hit hk2 hlt hb hz.out
        have H1 : Hid (nextI x a = k) := hl.1
        have H2 : Hid (nextB x a = true) := hl.2
        clear hb hl
        go_wp2_with (go_at_call 30; refine (HB.out _).mono ?_; rintro e w' ⟨rfl, rfl⟩)
        go_ret2
        exact ⟨ret_ib H1.out.symm H2.out.symm, rfl⟩
      | false =>
        rw [bitN_no hb] at HB
        have HZ : Hid (x.testBit k = false) := hb
        clear hb
        go_wp2_with (go_at_call 30; refine (HB.out _).mono ?_; rintro e w' ⟨rfl, rfl⟩)
        go_round
        case rel => exact ⟨k + 1, by omega, by omega, by go_num, fun j h1 h2 => if e : j = k then e ▸ HZ.out else hz.out j h1 (by omega)⟩
        case measure => simp [intOf]; omega
    · have hl := next_miss (x := x) (a := a) (fun j h1 h2 => hz.out j h1 (by omega))
      have H1 : Hid (nextI x a = 0) := hl.1
      have H2 : Hid (nextB x a = false) := hl.2
      clear hl
      go_wp2
      go_ret2
      exact ⟨ret_ib H1.out.symm H2.out.symm, rfl⟩

set_option maxRecDepth 100000 in
set_option maxHeartbeats 1000000 in
theorem rnext_neg (x : Nat) (a : Int) (w : World) (hx : Hid (x < 18446744073709551616)) (ha : a < 0) :
    Calls Tryd.prog 18 #[.int .u64 x, .int .i64 a] w fun e w' => e = .returned (.tuple #[.int .i64 (nextI x a), .bool (nextB x a)]) ∧ w' = w := by
  go_enter Tryd.func18, Tryd.ntmps18
  go_wp2
  go_loop [6] (fun i => ∃ k : Nat, 0 ≤ k ∧ (a : Int) ≤ (k : Int) ∧ i = .int .i64 k ∧ Hid (∀ j : Nat, (a : Int) ≤ (j : Int) → j < k → x.testBit j = false)) (fun i => 64 - (intOf i).toNat)
  case atStart => exact ⟨0, Nat.le_refl _, by omega, rfl, fun j h1 h2 => absurd h2 (by omega)⟩
  case round =>
    obtain ⟨k, hk1, hk2, rfl, hz⟩ := hrel
    by_cases hlt : k < 64
    · have HB : Hid (∀ W : World, Calls Tryd.prog 30 #[.int .u64 x, .int .i64 k] W fun e w' => e = .returned (.int .u64 (bitN x k : Nat)) ∧ w' = W) := fun W => rbit_any x k W hx hlt
      cases hb : x.testBit k with
      | true =>
        rw [bitN_yes hb] at HB
        have hl := next_hit hk2 hlt hb hz.out
        have H1 : Hid (nextI x a = k) := hl.1
        have H2 : Hid (nextB x a = true) := hl.2
        clear hb hl
        go_wp2_with (go_at_call 30; refine (HB.out _).mono ?_; rintro e w' ⟨rfl, rfl⟩)
        go_ret2
        exact ⟨ret_ib H1.out.symm H2.out.symm, rfl⟩
      | false =>
        rw [bitN_no hb] at HB
        have HZ : Hid (x.testBit k = false) := hb
        clear hb
        go_wp2_with (go_at_call 30; refine (HB.out _).mono ?_; rintro e w' ⟨rfl, rfl⟩)
        go_round
        case rel => exact ⟨k + 1, by omega, by omega, by go_num, fun j h1 h2 => if e : j = k then e ▸ HZ.out else hz.out j h1 (by omega)⟩
        case measure => simp [intOf]; omega
    · have hl := next_miss (x := x) (a := a) (fun j h1 h2 => hz.out j h1 (by omega))
      have H1 : Hid (nextI x a = 0) := hl.1
      have H2 : Hid (nextB x a = false) := hl.2
      clear hl
      go_wp2
      go_ret2
      exact ⟨ret_ib H1.out.symm H2.out.symm, rfl⟩

theorem rnext_any (x : Nat) (a : Int) (w : World) (hx : Hid (x < 18446744073709551616)) :
    Calls Tryd.prog 18 #[.int .u64 x, .int .i64 a] w fun e w' => e = .returned (.tuple #[.int .i64 (nextI x a), .bool (nextB x a)]) ∧ w' = w := by
  by_cases h : a < 0
  · exact rnext_neg x a w hx h
  · obtain ⟨k, rfl⟩ := Int.eq_ofNat_of_zero_le (show 0 ≤ a by omega)
    exact rnext_pos x k w hx
end Go.Proofs.YtdngpjgpomjncaaDoor
