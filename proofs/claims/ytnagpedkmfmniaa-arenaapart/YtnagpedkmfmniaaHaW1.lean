/- What num, place, used, Put, Parse, Next do; the document's gen, Put, Parse, Next. -/
import Derived.Test.YtnagpedkmfmniaaHaMath
import Derived.WalkKit
import Derived.WalkLawsBesides
import Derived.Deep.QuietTactic
import Derived.BigQuiet
namespace Go.Proofs.Ytnagpedkmfmniaa.Ha
open Go.RowKit

theorem q_trans {a b c : World} (h : Below a.heap.size a b) (k : Below b.heap.size b c) : Below a.heap.size a c := h.trans (k.mono h.size)
theorem q_alloc {a w : World} (h : Below a.heap.size a w) (o : Obj) : Below a.heap.size a (w.alloc o) := h.alloc h.size o
theorem q_set {a w : World} (h : Below a.heap.size a w) {p : Addr} (hp : a.heap.size ≤ p.block) (u : Value) : Below a.heap.size a (w.setCell p u) := h.setCell hp u
theorem q_drewN {a w : World} (h : Below a.heap.size a w) (n : Nat) : Below a.heap.size a (w.drewN n) := ⟨h.os, h.tape, h.output, h.size, h.block⟩
theorem ret_int {k : IntKind} {a b : Int} (h : a = b) : Ending.returned (.int k a) = .returned (.int k b) := by rw [h]
theorem ret_bool {a b : Bool} (h : a = b) : Ending.returned (.bool a) = .returned (.bool b) := by rw [h]
theorem ret_two {a b a' b' : Int} (h : a = a') (h2 : b = b') : Ending.returned (.tuple #[.int .i64 a, .int .i64 b]) = .returned (.tuple #[.int .i64 a', .int .i64 b']) := by rw [h, h2]
theorem ret_three {a b c a' b' c' : Int} (h : a = a') (h2 : b = b') (h3 : c = c') : Ending.returned (.tuple #[.int .i64 a, .int .i64 b, .int .i64 c]) = .returned (.tuple #[.int .i64 a', .int .i64 b', .int .i64 c']) := by rw [h, h2, h3]
theorem hid {p : Prop} (h : p) : Hid p := h

set_option maxHeartbeats 400000 in
theorem num_any (x : Int) (w : World) :
    Calls Try.prog 14 #[.int .i64 x] w fun e w' => e = .returned (.int .i64 x) ∧ w' = w := by
  go_enter Try.func14, Try.ntmps14
  go_wp2
  go_ret
  exact ⟨rfl, rfl⟩

set_option maxHeartbeats 400000 in
theorem used_any (g : Int) (w : World) :
    Calls Try.prog 61 #[.int .i64 g] w fun e w' => e = .returned (.bool (okG g)) ∧ w' = w := by
  by_cases h1 : 0 ≤ g
  · by_cases h2 : g ≤ 4095
    · have H : Hid (okG g = true) := decide_eq_true ⟨h1, h2⟩
      go_enter Try.func61, Try.ntmps61
      go_wp2
      go_ret
      exact ⟨ret_bool H.out.symm, rfl⟩
    · have H : Hid (okG g = false) := decide_eq_false (by omega)
      go_enter Try.func61, Try.ntmps61
      go_wp2
      go_ret
      exact ⟨ret_bool H.out.symm, rfl⟩
  · have H : Hid (okG g = false) := decide_eq_false (by omega)
    go_enter Try.func61, Try.ntmps61
    go_wp2
    go_ret
    exact ⟨ret_bool H.out.symm, rfl⟩
theorem used_yes {g : Int} (h : 0 ≤ g ∧ g ≤ 4095) (w : World) : Calls Try.prog 61 #[.int .i64 g] w fun e w' => e = .returned (.bool true) ∧ w' = w := by
  have := used_any g w
  rwa [show okG g = true from decide_eq_true h] at this
theorem used_no {g : Int} (h : ¬ (0 ≤ g ∧ g ≤ 4095)) (w : World) : Calls Try.prog 61 #[.int .i64 g] w fun e w' => e = .returned (.bool false) ∧ w' = w := by
  have := used_any g w
  rwa [show okG g = false from decide_eq_false h] at this
set_option maxHeartbeats 400000 in
/-- Next. -/
theorem next_any (g : Int) (w : World) :
    Calls Try.prog 50 #[.int .i64 g] w fun e w' => e = .returned (.int .i64 (nxG g)) ∧ w' = w := by
  by_cases h1 : 0 ≤ g ∧ g ≤ 4095
  · by_cases h2 : g = 4095
    · have HN : Hid (nxG g = -1) := if_neg (by omega)
      have U := hid (used_yes h1)
      have hb : (g == 4095) = true := by simp [h2]
      clear h1 h2
      go_enter Try.func50, Try.ntmps50
      go_wp2_with fail
      refine (U.out _).mono ?_
      rintro e w1 ⟨rfl, hw⟩; rw [hw]; clear hw w1
      go_wp2_with fail
      go_ret
      exact ⟨ret_int HN.out.symm, rfl⟩
    · have HN : Hid (nxG g = g + 1) := if_pos (by omega)
      have U := hid (used_yes h1)
      have hb : (g == 4095) = false := by simp [h2]
      obtain ⟨g1, g2⟩ := h1
      clear h2
      go_enter Try.func50, Try.ntmps50
      go_wp2_with fail
      refine (U.out _).mono ?_
      rintro e w1 ⟨rfl, hw⟩; rw [hw]; clear hw w1
      go_wp2_with fail
      go_ret
      exact ⟨ret_int HN.out.symm, rfl⟩
  · have HN : Hid (nxG g = -1) := if_neg (by omega)
    have U := hid (used_no h1)
    clear h1
    go_enter Try.func50, Try.ntmps50
    go_wp2_with fail
    refine (U.out _).mono ?_
    rintro e w1 ⟨rfl, hw⟩; rw [hw]; clear hw w1
    go_wp2_with fail
    go_ret
    exact ⟨ret_int HN.out.symm, rfl⟩
set_option maxHeartbeats 400000 in
/-- The document's Next. -/
theorem rnext_any (g : Int) (w : World) :
    Calls Try.prog 57 #[.int .i64 g] w fun e w' => e = .returned (.int .i64 (nxG g)) ∧ w' = w := by
  by_cases h1 : 0 ≤ g
  · by_cases h2 : g < 4095
    · have HN : Hid (nxG g = g + 1) := if_pos ⟨h1, h2⟩
      go_enter Try.func57, Try.ntmps57
      go_wp2_with fail
      go_ret
      exact ⟨ret_int HN.out.symm, rfl⟩
    · have HN : Hid (nxG g = -1) := if_neg (by omega)
      go_enter Try.func57, Try.ntmps57
      go_wp2_with fail
      go_ret
      exact ⟨ret_int HN.out.symm, rfl⟩
  · have HN : Hid (nxG g = -1) := if_neg (by omega)
    go_enter Try.func57, Try.ntmps57
    go_wp2_with fail
    go_ret
    exact ⟨ret_int HN.out.symm, rfl⟩
end Go.Proofs.Ytnagpedkmfmniaa.Ha
