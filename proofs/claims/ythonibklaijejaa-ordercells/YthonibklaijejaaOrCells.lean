/- OrderCells holds. -/
import Derived.Test.YthonibklaijejaaOrSay
namespace Go.Proofs.Ythonibklaijejaa.Or
open Go.RowKit

theorem key_is {x e0 : Int} {k : K} (hx : InI x) (h1 : keyK x = k) (h2 : keyE x = e0) (w : World) : Calls Try.prog 9 #[.int .i64 x] w fun e w' => e = .returned (.tuple #[(.agg #[.int .i64 k.1, .int .i64 k.2]), .int .i64 e0]) ∧ Below w.heap.size w w' := by
  have := keyOf_any x w hx
  rwa [h1, h2] at this
theorem key_out {c : Int} (h : c < 0 ∨ 9216 ≤ c) : keyE c = 2 := by unfold keyE; rw [if_neg (by omega)]
theorem key_in {c : Int} (h : 0 ≤ c ∧ c < 9216) : keyE c = 0 := by unfold keyE; rw [if_pos h]
theorem cell_int (k : K) : InI (cellK k) := by
  unfold InI
  cases h : okK k with
  | true => have := cell_range h; omega
  | false => rw [cell_no h]; omega
set_option maxRecDepth 100000 in
set_option maxHeartbeats 2000000 in
theorem ocells_any (k : K) (c : Int) (w : World) (hi : InI c) :
    Calls Try.prog 6 #[(.agg #[.int .i64 k.1, .int .i64 k.2]), .int .i64 c] w fun e w' => e = .returned (.bool true) ∧ Below w.heap.size w w' := by
  obtain ⟨m, hm⟩ : ∃ m, keyK c = m := ⟨_, rfl⟩
  cases hok : okK k
  case true =>
    obtain ⟨x, hx⟩ : ∃ x, cellK k = x := ⟨_, rfl⟩
    have hr := cell_range hok
    rw [hx] at hr
    obtain ⟨r1, r2⟩ := hr
    have x1 := fun W => is_cell (w := W) hx
    have k1 := fun W => key_is (x := x) (k := k) (e0 := 0) (by rw [← hx]; exact cell_int k) (by rw [← hx]; exact key_cell hok) (by rw [← hx]; exact keyE_cell hok) W
    have o1 := fun W => check_yes hok W
    have he := eq_yes (rfl : k = k)
    clear hok hx
    rcases (by omega : c < 0 ∨ (0 ≤ c ∧ 9216 ≤ c) ∨ (0 ≤ c ∧ c < 9216)) with hc | ⟨hc0, hc⟩ | ⟨hc0, hc⟩
    · go_enter Try.func6, Try.ntmps6
      go_wp2_with fail
      refine (x1 _).mono ?_
      rintro e w1 ⟨rfl, b1⟩
      have A1 := hid ((at_new w k 23).below b1)
      have L1 := hid (q_trans (alloc_below w _) b1)
      clear b1 x1
      obtain ⟨a0, a1⟩ := A1.out
      go_wp2_with fail
      refine (o1 _).mono ?_
      rintro e w2 ⟨rfl, b2⟩
      have A2 := hid (A1.out.below b2)
      have L2 := hid (q_trans L1.out b2)
      clear b2 o1 A1 L1 a0 a1
      go_wp2_with (go_at_call 11; refine (num_any _ _).mono ?_; rintro e w' ⟨rfl, rfl⟩)
      refine (k1 _).mono ?_
      rintro e w3 ⟨rfl, b3⟩
      have A3 := hid (A2.out.below b3)
      have L3' := hid (q_trans L2.out b3)
      clear b3 k1 A2 L2
      obtain ⟨a0, a1⟩ := A3.out
      have hlt : w.heap.size < w3.heap.size := A3.out.lt
      have L3 := hid (q_alloc L3'.out (.cells #[.int .i64 k.1, .int .i64 k.2] 23))
      clear L3'
      go_wp2_with (go_at_call 11; refine (num_any _ _).mono ?_; rintro e w' ⟨rfl, rfl⟩)
      clear a0 a1
      have k2 := fun W => key_is (e0 := 2) hi hm (key_out (by omega)) W
      clear hi hm
      go_wp2_with fail
      refine (k2 _).mono ?_
      rintro e w4 ⟨rfl, b4⟩
      have L4 := hid (q_trans L3.out b4)
      clear b4 k2
      go_wp2_with (first | (go_at_call 18; refine (live_any _).mono ?_; rintro e w9 ⟨rfl, b9⟩) | (go_at_call 11; refine (num_any _ _).mono ?_; rintro e w' ⟨rfl, rfl⟩))
      go_ret
      exact ⟨rfl, q_trans (q_alloc L4.out _) b9⟩
    · go_enter Try.func6, Try.ntmps6
      go_wp2_with fail
      refine (x1 _).mono ?_
      rintro e w1 ⟨rfl, b1⟩
      have A1 := hid ((at_new w k 23).below b1)
      have L1 := hid (q_trans (alloc_below w _) b1)
      clear b1 x1
      obtain ⟨a0, a1⟩ := A1.out
      go_wp2_with fail
      refine (o1 _).mono ?_
      rintro e w2 ⟨rfl, b2⟩
      have A2 := hid (A1.out.below b2)
      have L2 := hid (q_trans L1.out b2)
      clear b2 o1 A1 L1 a0 a1
      go_wp2_with (go_at_call 11; refine (num_any _ _).mono ?_; rintro e w' ⟨rfl, rfl⟩)
      refine (k1 _).mono ?_
      rintro e w3 ⟨rfl, b3⟩
      have A3 := hid (A2.out.below b3)
      have L3' := hid (q_trans L2.out b3)
      clear b3 k1 A2 L2
      obtain ⟨a0, a1⟩ := A3.out
      have hlt : w.heap.size < w3.heap.size := A3.out.lt
      have L3 := hid (q_alloc L3'.out (.cells #[.int .i64 k.1, .int .i64 k.2] 23))
      clear L3'
      go_wp2_with (go_at_call 11; refine (num_any _ _).mono ?_; rintro e w' ⟨rfl, rfl⟩)
      clear a0 a1
      have k2 := fun W => key_is (e0 := 2) hi hm (key_out (by omega)) W
      clear hi hm
      go_wp2_with fail
      refine (k2 _).mono ?_
      rintro e w4 ⟨rfl, b4⟩
      have L4 := hid (q_trans L3.out b4)
      clear b4 k2
      go_wp2_with (first | (go_at_call 18; refine (live_any _).mono ?_; rintro e w9 ⟨rfl, b9⟩) | (go_at_call 11; refine (num_any _ _).mono ?_; rintro e w' ⟨rfl, rfl⟩))
      go_ret
      exact ⟨rfl, q_trans (q_alloc L4.out _) b9⟩
    · go_enter Try.func6, Try.ntmps6
      go_wp2_with fail
      refine (x1 _).mono ?_
      rintro e w1 ⟨rfl, b1⟩
      have A1 := hid ((at_new w k 23).below b1)
      have L1 := hid (q_trans (alloc_below w _) b1)
      clear b1 x1
      obtain ⟨a0, a1⟩ := A1.out
      go_wp2_with fail
      refine (o1 _).mono ?_
      rintro e w2 ⟨rfl, b2⟩
      have A2 := hid (A1.out.below b2)
      have L2 := hid (q_trans L1.out b2)
      clear b2 o1 A1 L1 a0 a1
      go_wp2_with (go_at_call 11; refine (num_any _ _).mono ?_; rintro e w' ⟨rfl, rfl⟩)
      refine (k1 _).mono ?_
      rintro e w3 ⟨rfl, b3⟩
      have A3 := hid (A2.out.below b3)
      have L3' := hid (q_trans L2.out b3)
      clear b3 k1 A2 L2
      obtain ⟨a0, a1⟩ := A3.out
      have hlt : w.heap.size < w3.heap.size := A3.out.lt
      have L3 := hid (q_alloc L3'.out (.cells #[.int .i64 k.1, .int .i64 k.2] 23))
      clear L3'
      go_wp2_with (go_at_call 11; refine (num_any _ _).mono ?_; rintro e w' ⟨rfl, rfl⟩)
      clear a0 a1
      have k2 := fun W => key_is (e0 := 0) hi hm (key_in ⟨hc0, hc⟩) W
      have y2 := fun W => is_cell (w := W) (a := m) (x := c) (by rw [← hm]; exact cell_key ⟨hc0, hc⟩)
      clear hi hm
      go_wp2_with fail
      refine (k2 _).mono ?_
      rintro e w4 ⟨rfl, b4⟩
      have L4 := hid (q_trans L3.out b4)
      clear b4 k2
      go_wp2_with (first | (go_at_call 16; refine (y2 _).mono ?_; rintro e w5 ⟨rfl, b5⟩) | (go_at_call 18; refine (live_any _).mono ?_; rintro e w9 ⟨rfl, b9⟩) | (go_at_call 11; refine (num_any _ _).mono ?_; rintro e w' ⟨rfl, rfl⟩))
      go_ret
      exact ⟨rfl, q_trans (q_trans (q_alloc L4.out _) b5) b9⟩
  case false =>
    have hx := cell_no hok
    have x1 := fun W => is_cell (w := W) hx
    have o1 := fun W => check_no hok W
    clear hok hx
    rcases (by omega : c < 0 ∨ (0 ≤ c ∧ 9216 ≤ c) ∨ (0 ≤ c ∧ c < 9216)) with hc | ⟨hc0, hc⟩ | ⟨hc0, hc⟩
    · go_enter Try.func6, Try.ntmps6
      go_wp2_with fail
      refine (x1 _).mono ?_
      rintro e w1 ⟨rfl, b1⟩
      have A1 := hid ((at_new w k 23).below b1)
      have L1 := hid (q_trans (alloc_below w _) b1)
      clear b1 x1
      obtain ⟨a0, a1⟩ := A1.out
      go_wp2_with fail
      refine (o1 _).mono ?_
      rintro e w3 ⟨rfl, b2⟩
      have L3 := hid (q_trans L1.out b2)
      clear b2 o1 A1 L1 a0 a1
      go_wp2_with (go_at_call 11; refine (num_any _ _).mono ?_; rintro e w' ⟨rfl, rfl⟩)
      have k2 := fun W => key_is (e0 := 2) hi hm (key_out (by omega)) W
      clear hi hm
      go_wp2_with fail
      refine (k2 _).mono ?_
      rintro e w4 ⟨rfl, b4⟩
      have L4 := hid (q_trans L3.out b4)
      clear b4 k2
      go_wp2_with (first | (go_at_call 18; refine (live_any _).mono ?_; rintro e w9 ⟨rfl, b9⟩) | (go_at_call 11; refine (num_any _ _).mono ?_; rintro e w' ⟨rfl, rfl⟩))
      go_ret
      exact ⟨rfl, q_trans (q_alloc L4.out _) b9⟩
    · go_enter Try.func6, Try.ntmps6
      go_wp2_with fail
      refine (x1 _).mono ?_
      rintro e w1 ⟨rfl, b1⟩
      have A1 := hid ((at_new w k 23).below b1)
      have L1 := hid (q_trans (alloc_below w _) b1)
      clear b1 x1
      obtain ⟨a0, a1⟩ := A1.out
      go_wp2_with fail
      refine (o1 _).mono ?_
      rintro e w3 ⟨rfl, b2⟩
      have L3 := hid (q_trans L1.out b2)
      clear b2 o1 A1 L1 a0 a1
      go_wp2_with (go_at_call 11; refine (num_any _ _).mono ?_; rintro e w' ⟨rfl, rfl⟩)
      have k2 := fun W => key_is (e0 := 2) hi hm (key_out (by omega)) W
      clear hi hm
      go_wp2_with fail
      refine (k2 _).mono ?_
      rintro e w4 ⟨rfl, b4⟩
      have L4 := hid (q_trans L3.out b4)
      clear b4 k2
      go_wp2_with (first | (go_at_call 18; refine (live_any _).mono ?_; rintro e w9 ⟨rfl, b9⟩) | (go_at_call 11; refine (num_any _ _).mono ?_; rintro e w' ⟨rfl, rfl⟩))
      go_ret
      exact ⟨rfl, q_trans (q_alloc L4.out _) b9⟩
    · go_enter Try.func6, Try.ntmps6
      go_wp2_with fail
      refine (x1 _).mono ?_
      rintro e w1 ⟨rfl, b1⟩
      have A1 := hid ((at_new w k 23).below b1)
      have L1 := hid (q_trans (alloc_below w _) b1)
      clear b1 x1
      obtain ⟨a0, a1⟩ := A1.out
      go_wp2_with fail
      refine (o1 _).mono ?_
      rintro e w3 ⟨rfl, b2⟩
      have L3 := hid (q_trans L1.out b2)
      clear b2 o1 A1 L1 a0 a1
      go_wp2_with (go_at_call 11; refine (num_any _ _).mono ?_; rintro e w' ⟨rfl, rfl⟩)
      have k2 := fun W => key_is (e0 := 0) hi hm (key_in ⟨hc0, hc⟩) W
      have y2 := fun W => is_cell (w := W) (a := m) (x := c) (by rw [← hm]; exact cell_key ⟨hc0, hc⟩)
      clear hi hm
      go_wp2_with fail
      refine (k2 _).mono ?_
      rintro e w4 ⟨rfl, b4⟩
      have L4 := hid (q_trans L3.out b4)
      clear b4 k2
      go_wp2_with (first | (go_at_call 16; refine (y2 _).mono ?_; rintro e w5 ⟨rfl, b5⟩) | (go_at_call 18; refine (live_any _).mono ?_; rintro e w9 ⟨rfl, b9⟩) | (go_at_call 11; refine (num_any _ _).mono ?_; rintro e w' ⟨rfl, rfl⟩))
      go_ret
      exact ⟨rfl, q_trans (q_trans (q_alloc L4.out _) b5) b9⟩
end Go.Proofs.Ythonibklaijejaa.Or
