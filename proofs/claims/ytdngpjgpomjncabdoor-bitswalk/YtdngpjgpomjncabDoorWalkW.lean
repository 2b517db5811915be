/- The walk of BitsWalk: it answers true. -/
import Derived.Test.YtdngpjgpomjncabDoorW5
import Derived.Test.YtdngpjgpomjncabDoorNx
namespace Go.Proofs.YtdngpjgpomjncabDoor
open Go.RowKit

set_option maxRecDepth 100000 in
set_option maxHeartbeats 2000000 in
theorem walk_core (x : Nat) (w : World) (hx : Hid (x < 18446744073709551616)) (HD : Hid (Dig w)) :
    Calls Tryd.prog 3 #[.int .u64 x] w fun e w' => e = .returned (.bool true) ∧ Below w.heap.size w w' := by
  go_enter Tryd.func3, Tryd.ntmps3
  go_wp2
  go_loopw [3, 4, 5, 6, 7] (fun n a l y i wr => ∃ p : Nat, p ≤ 64 ∧ n = .int .i64 (cnt x p : Nat) ∧ a = .int .i64 p ∧ l = .int .i64 ((p : Int) - 1) ∧ y = .int .u64 (clr x p) ∧ i = .int .i64 (cnt x p : Nat) ∧ Hid (p = 0 ∨ ∃ q, p = q + 1 ∧ x.testBit q = true) ∧ Below w.heap.size w wr) (fun _ a _ _ _ _ => 64 - (intOf a).toNat)
  case atStart => exact ⟨0, by omega, rfl, rfl, rfl, by rw [clr_zero], rfl, .inl rfl, Below.refl _ _⟩
  case round =>
    obtain ⟨p, hp, rfl, rfl, rfl, rfl, rfl, hq, hB⟩ := hrel
    have hcn := cnt_le x p
    rcases next_is x p 64 with ⟨k, hk, h1, h2, h3, h4⟩ | ⟨hn, h4⟩
    · have HN : Hid (∀ W : World, Calls Tryd.prog 6 #[.int .u64 x, .int .i64 p] W fun e w' => e = .returned (.tuple #[.int .i64 k, .bool true]) ∧ Below W.heap.size W w') := by
        intro W
        have := next_any x hx.out p W
        rw [show nextI x p = k by simp [nextI, hk], show nextB x p = true by simp [nextB, hk]] at this
        exact this
      have hz : ∀ i, p ≤ i → i < k → x.testBit i = false := fun i a b => h4 i (by omega) b
      have HC : Hid (cnt x (k + 1) = cnt x p + 1) := by
        show cnt x (k + 1) = cnt x p + 1
        rw [cnt_succ, h3, if_pos rfl]
        unfold cnt
        rw [upto_skip x p k (by omega) hz]
      have HX : Hid (bits .xor .u64 (clr x p : Int) (IntKind.u64.wrap (2 ^ k)) = (clr x (k + 1) : Int)) := by
        show bits .xor .u64 (clr x p : Int) (IntKind.u64.wrap (2 ^ k)) = (clr x (k + 1) : Int)
        rw [xor_pow _ k (clr_lt x p hx.out) h2, clr_step x p k (by omega) h3 hz]
      have H3 : Hid (x.testBit k = true) := h3
      clear hz h3 h4 hk
      go_wp2_with (go_at_call 6; refine (HN.out _).mono ?_; rintro e w1 ⟨rfl, b1⟩; replace b1 := hB.trans (b1.mono hB.size))
      refine ⟨⟨k + 1, by omega, ?_, by go_num, by go_num, ?_, ?_, .inr ⟨k, rfl, H3.out⟩, b1⟩, by simp [intOf]; omega⟩
      · rw [HC.out]; go_num
      · rw [HX.out]
      · rw [HC.out]; go_num
    · have HN : Hid (∀ W : World, Calls Tryd.prog 6 #[.int .u64 x, .int .i64 p] W fun e w' => e = .returned (.tuple #[.int .i64 0, .bool false]) ∧ Below W.heap.size W w') := by
        intro W
        have := next_any x hx.out p W
        rw [show nextI x p = 0 by simp [nextI, hn], show nextB x p = false by simp [nextB, hn]] at this
        exact this
      have hz : ∀ i, p ≤ i → i < 64 → x.testBit i = false := fun i a b => h4 i (by omega) b
      have HC : Hid (∀ W : World, Calls Tryd.prog 8 #[.int .u64 x] W fun e w' => e = .returned (.int .i64 (cnt x p : Nat)) ∧ Below W.heap.size W w') := by
        intro W
        have := count_any x hx.out W
        rw [upto_skip x p 64 hp hz] at this
        exact this
      have hc0 := clr_none x p hx.out hz
      rw [hc0]
      clear hc0 h4 hn
      rcases hq.out with e0 | ⟨q, e0, hb⟩
      · subst e0
        have hl := last_none x (fun i h => hz i (by omega) h)
        have hx0 := zero_of_bits x hx.out (fun i h => hz i (by omega) h)
        have HH : Hid (∀ W : World, Calls Tryd.prog 7 #[.int .u64 x] W fun e w' => e = .returned (.tuple #[.int .i64 0, .bool false]) ∧ Below W.heap.size W w') := by
          intro W
          have := high_any x hx.out W
          rw [hl.1, hl.2] at this
          exact this
        clear hl hz hq
        have hx1 : ((x : Int) == 0) = true := by rw [beq_iff_eq]; omega
        have hx2 : ((x : Int) != 0) = false := by rw [bne_eq_false_iff_eq]; omega
        clear hx0
        go_wp2_with (first | (go_at_call 6; refine (HN.out _).mono ?_; rintro e w1 ⟨rfl, b1⟩; replace b1 := hB.trans (b1.mono hB.size)) | (go_at_call 7; refine (HH.out _).mono ?_; rintro e w2 ⟨rfl, b2⟩; replace b2 := b1.trans (b2.mono b1.size)) | (go_at_call 8; refine (HC.out _).mono ?_; rintro e w3 ⟨rfl, b3⟩; replace b3 := b2.trans (b3.mono b2.size)) | (go_at_call 9; refine (live_any _ (HD.out.below b3)).mono ?_; rintro e w4 ⟨rfl, b4⟩; replace b4 := q_trans b3 b4))
        go_ret
        exact ⟨rfl, b4⟩
      · subst e0
        have hl := last_is x q hp hb hz
        have HH : Hid (∀ W : World, Calls Tryd.prog 7 #[.int .u64 x] W fun e w' => e = .returned (.tuple #[.int .i64 q, .bool true]) ∧ Below W.heap.size W w') := by
          intro W
          have := high_any x hx.out W
          rw [hl.1, hl.2] at this
          exact this
        have hx0 : x ≠ 0 := fun e => by subst e; simp at hb
        clear hl hz hq hb
        have hx1 : ((x : Int) == 0) = false := by rw [beq_eq_false_iff_ne]; omega
        have hx2 : ((x : Int) != 0) = true := by rw [bne_iff_ne]; omega
        clear hx0
        go_wp2_with (first | (go_at_call 6; refine (HN.out _).mono ?_; rintro e w1 ⟨rfl, b1⟩; replace b1 := hB.trans (b1.mono hB.size)) | (go_at_call 7; refine (HH.out _).mono ?_; rintro e w2 ⟨rfl, b2⟩; replace b2 := b1.trans (b2.mono b1.size)) | (go_at_call 8; refine (HC.out _).mono ?_; rintro e w3 ⟨rfl, b3⟩; replace b3 := b2.trans (b3.mono b2.size)) | (go_at_call 9; refine (live_any _ (HD.out.below b3)).mono ?_; rintro e w4 ⟨rfl, b4⟩; replace b4 := q_trans b3 b4))
        go_ret
        exact ⟨rfl, b4⟩

theorem walk_any (x : Int) (w : World) (hx : U64 x) (hD : Dig w) :
    Calls Tryd.prog 3 #[.int .u64 x] w fun e w' => e = .returned (.bool true) ∧ Below w.heap.size w w' := by
  obtain ⟨x', rfl⟩ := Int.eq_ofNat_of_zero_le hx.1
  exact walk_core x' w (by have := hx.2; show x' < 18446744073709551616; omega) hD
end Go.Proofs.YtdngpjgpomjncabDoor
