/- What num, small, within, Check, Is, step do. -/
import Derived.Test.YtaihabkacjbfjaaChecked
import Derived.Test.YtaihabkacjbfjaaCeMath
import Derived.WalkKit
import Derived.WalkLawsBesides
import Derived.Deep.QuietTactic
import Derived.BigQuiet
namespace Go.Proofs.Ytaihabkacjbfjaa.Ce
open Go.RowKit

theorem q_trans {a b c : World} (h : Below a.heap.size a b) (k : Below b.heap.size b c) : Below a.heap.size a c := h.trans (k.mono h.size)
theorem q_alloc {a w : World} (h : Below a.heap.size a w) (o : Obj) : Below a.heap.size a (w.alloc o) := h.alloc h.size o
theorem q_set {a w : World} (h : Below a.heap.size a w) {p : Addr} (hp : a.heap.size ≤ p.block) (u : Value) : Below a.heap.size a (w.setCell p u) := h.setCell hp u
theorem q_drewN {a w : World} (h : Below a.heap.size a w) (n : Nat) : Below a.heap.size a (w.drewN n) := ⟨h.os, h.tape, h.output, h.size, h.block⟩
theorem ret_int {k : IntKind} {a b : Int} (h : a = b) : Ending.returned (.int k a) = .returned (.int k b) := by rw [h]
theorem ret_bool {a b : Bool} (h : a = b) : Ending.returned (.bool a) = .returned (.bool b) := by rw [h]

set_option maxHeartbeats 400000 in
theorem num_any (x : Int) (w : World) :
    Calls Try.prog 13 #[.int .i64 x] w fun e w' => e = .returned (.int .i64 x) ∧ w' = w := by
  go_enter Try.func13, Try.ntmps13
  go_wp2
  go_ret
  exact ⟨rfl, rfl⟩

set_option maxHeartbeats 400000 in
theorem within_any (c n : Int) (w : World) :
    Calls Try.prog 44 #[.int .i64 c, .int .i64 n] w fun e w' => e = .returned (.bool (inB c n)) ∧ w' = w := by
  by_cases h1 : 0 ≤ c
  · by_cases h2 : c < n
    · have H : Hid (inB c n = true) := inB_iff.2 ⟨h1, h2⟩
      go_enter Try.func44, Try.ntmps44
      go_wp2
      go_ret
      exact ⟨ret_bool H.out.symm, rfl⟩
    · have H : Hid (inB c n = false) := inB_not.2 (by omega)
      go_enter Try.func44, Try.ntmps44
      go_wp2
      go_ret
      exact ⟨ret_bool H.out.symm, rfl⟩
  · have H : Hid (inB c n = false) := inB_not.2 (by omega)
    go_enter Try.func44, Try.ntmps44
    go_wp2
    go_ret
    exact ⟨ret_bool H.out.symm, rfl⟩

/-- The kind's five cases, and the rest, as the walk wants them. -/
theorem kinds (k : Int) : k = 1 ∨ k = 2 ∨ k = 3 ∨ k = 4 ∨ k = 5 ∨ ((k == 1) = false ∧ (k == 2) = false ∧ (k == 3) = false ∧ (k == 4) = false ∧ (k == 5) = false) := by
  by_cases h1 : k = 1
  · exact .inl h1
  by_cases h2 : k = 2
  · exact .inr (.inl h2)
  by_cases h3 : k = 3
  · exact .inr (.inr (.inl h3))
  by_cases h4 : k = 4
  · exact .inr (.inr (.inr (.inl h4)))
  by_cases h5 : k = 5
  · exact .inr (.inr (.inr (.inr (.inl h5))))
  simp [h1, h2, h3, h4, h5]

set_option maxHeartbeats 1000000 in
theorem check_any (o : O) (n : Int) (w : World) :
    Calls Try.prog 39 #[(.agg #[.int .i64 o.k, .int .i64 o.c, .int .i64 o.a, .int .i64 o.v, .int .i64 o.w]), .int .i64 n] w fun e w' => e = .returned (.int .i64 (chk o n)) ∧ Below w.heap.size w w' := by
  obtain ⟨e0, he⟩ : ∃ e0, chk o n = e0 := ⟨_, rfl⟩
  have HE : Hid (chk o n = e0) := he
  rw [he]
  clear he
  have hin : inB o.c n = true ∨ inB o.c n = false := by cases inB o.c n <;> simp
  rcases kinds o.k with h | h | h | h | h | ⟨h1, h2, h3, h4, h5⟩
  · have HK : Hid (o.k = 1) := h
    rcases hin with hi | hi
    all_goals
      go_enter Try.func39, Try.ntmps39
      go_wp2_with (go_at_call 44; refine (within_any _ _ _).mono ?_; rintro e w' ⟨rfl, rfl⟩)
      go_ret
      exact ⟨ret_int (by rw [← HE.out]; simp [chk, okO, kindB, HK.out, hi]), q_alloc (Below.refl _ _) _⟩
  · have HK : Hid (o.k = 2) := h
    rcases hin with hi | hi
    all_goals
      go_enter Try.func39, Try.ntmps39
      go_wp2_with (go_at_call 44; refine (within_any _ _ _).mono ?_; rintro e w' ⟨rfl, rfl⟩)
      go_ret
      exact ⟨ret_int (by rw [← HE.out]; simp [chk, okO, kindB, HK.out, hi]), q_alloc (Below.refl _ _) _⟩
  · have HK : Hid (o.k = 3) := h
    rcases hin with hi | hi
    all_goals
      go_enter Try.func39, Try.ntmps39
      go_wp2_with (go_at_call 44; refine (within_any _ _ _).mono ?_; rintro e w' ⟨rfl, rfl⟩)
      go_ret
      exact ⟨ret_int (by rw [← HE.out]; simp [chk, okO, kindB, HK.out, hi]), q_alloc (Below.refl _ _) _⟩
  · have HK : Hid (o.k = 4) := h
    by_cases hw : o.w < 1
    · have HW : Hid (¬ 1 ≤ o.w) := show ¬ 1 ≤ o.w by omega
      go_enter Try.func39, Try.ntmps39
      go_wp2
      go_ret
      exact ⟨ret_int (by rw [← HE.out]; simp [chk, okO, kindB, HK.out]; intro h1; have := HW.out; omega), q_alloc (Below.refl _ _) _⟩
    · have HW : Hid (1 ≤ o.w) := show 1 ≤ o.w by omega
      rcases hin with hi | hi
      all_goals
        go_enter Try.func39, Try.ntmps39
        go_wp2_with (go_at_call 44; refine (within_any _ _ _).mono ?_; rintro e w' ⟨rfl, rfl⟩)
        go_ret
        exact ⟨ret_int (by rw [← HE.out]; simp [chk, okO, kindB, HK.out, HW.out, hi]), q_alloc (Below.refl _ _) _⟩
  · have HK : Hid (o.k = 5) := h
    by_cases hw : o.w < 1
    · have HW : Hid (¬ 1 ≤ o.w) := show ¬ 1 ≤ o.w by omega
      go_enter Try.func39, Try.ntmps39
      go_wp2
      go_ret
      exact ⟨ret_int (by rw [← HE.out]; simp [chk, okO, kindB, HK.out]; intro h1; have := HW.out; omega), q_alloc (Below.refl _ _) _⟩
    · have HW : Hid (1 ≤ o.w) := show 1 ≤ o.w by omega
      rcases hin with hi | hi
      all_goals
        go_enter Try.func39, Try.ntmps39
        go_wp2_with (go_at_call 44; refine (within_any _ _ _).mono ?_; rintro e w' ⟨rfl, rfl⟩)
        go_ret
        exact ⟨ret_int (by rw [← HE.out]; simp [chk, okO, kindB, HK.out, HW.out, hi]), q_alloc (Below.refl _ _) _⟩
  · have HK : Hid (kindB o = false) := by
      simp only [beq_eq_false_iff_ne] at h1 h2 h3 h4 h5
      exact kindB_not.2 (by omega)
    clear hin
    go_enter Try.func39, Try.ntmps39
    go_wp2
    go_ret
    exact ⟨ret_int (by rw [← HE.out]; simp [chk, okO, HK.out]), q_alloc (Below.refl _ _) _⟩

theorem is_eq {o : O} {n : Int} {b : Bool} (h : b = true ↔ ((1 ≤ o.k ∧ o.k ≤ 5 ∧ (o.k < 4 ∨ 1 ≤ o.w)) ∧ (0 ≤ o.c ∧ o.c < n))) : b = okO o n := by
  rw [Bool.eq_iff_iff, h, okO_iff]

end Go.Proofs.Ytaihabkacjbfjaa.Ce
