/- What Meet and Join do, of numbers that lie in a slice. -/
import Derived.Test.YtepadldbhjbjaaaDoorRtW1
namespace Go.Proofs.YtepadldbhjbjaaaDoor.Rt
open Go.RowKit

/-- THE SLICE'S NUMBERS: they lie where it points. -/
def Lies (w : World) (ao : Option Addr) (l : List Int) : Prop := ∀ j, j < l.length → ∃ a, ao = some a ∧ w.cell? (a.add j) = some (.int .i64 (l.getD j 0))

theorem take_snocI (l : List Int) (k : Nat) (h : k < l.length) : l.take (k + 1) = l.take k ++ [l.getD k 0] := by
  rw [List.take_succ_eq_append_getElem h]; simp [List.getD, h]
theorem meetF_snoc (m : Int) (l : List Int) (x : Int) : meetF m (l ++ [x]) = bits .and .i64 (meetF m l) x := by simp [meetF]
theorem joinF_snoc (m : Int) (l : List Int) (x : Int) : joinF m (l ++ [x]) = bits .or .i64 (joinF m l) x := by simp [joinF]
theorem all_snoc (l : List Int) (x : Int) : (l ++ [x]).all isR = (l.all isR && isR x) := by simp
theorem all_false_at (l : List Int) (k : Nat) (h : k < l.length) (hx : isR (l.getD k 0) = false) : l.all isR = false := by
  rw [List.all_eq_false]
  exact ⟨l[k], List.getElem_mem h, by simpa [List.getD, h] using hx⟩

set_option maxHeartbeats 1000000 in
theorem meet_some (a : Addr) (l : List Int) (cap : Nat) (w : World) (hl : l.length ≤ 9223372036854775807) (hc : ∀ j, j < l.length → w.cell? (a.add j) = some (.int .i64 (l.getD j 0))) :
    Calls Tryd.prog 19 #[.slice (some a) l.length cap] w fun e w' => e = .returned (.tuple #[.int .i64 (meetT l), .int .i64 (listE l)]) ∧ w' = w := by
  have HC : Hid (∀ j, j < l.length → w.cell? (a.add j) = some (.int .i64 (l.getD j 0))) := hc
  clear hc
  go_enter Tryd.func19, Tryd.ntmps19
  go_wp2
  go_loop [4, 9] (fun m i => ∃ k : Nat, k ≤ l.length ∧ i = .int .i64 k ∧ m = .int .i64 (meetF 15 (l.take k)) ∧ Hid ((l.take k).all isR = true)) (fun _ i => l.length - (intOf i).toNat)
  case atStart => exact ⟨0, Nat.zero_le _, rfl, rfl, rfl⟩
  case round =>
    obtain ⟨k, hk, rfl, rfl, hA⟩ := hrel
    by_cases hlt : k < l.length
    · obtain ⟨x, hx⟩ : ∃ x, x = l.getD k 0 := ⟨_, rfl⟩
      have hcx : w.cell? (a.add k) = some (.int .i64 x) := by rw [hx]; exact HC.out k hlt
      have HX : Hid (x = l.getD k 0) := hx
      clear hx
      have HT : Hid (l.take (k + 1) = l.take k ++ [x]) := by rw [HX.out]; exact take_snocI l k hlt
      cases hb : isR x with
      | true =>
        have HS : Hid (meetF 15 (l.take (k + 1)) = bits .and .i64 (meetF 15 (l.take k)) x) := by rw [HT.out]; exact meetF_snoc _ _ _
        have HA : Hid ((l.take (k + 1)).all isR = true) := by rw [HT.out]; show (l.take k ++ [x]).all isR = true; rw [all_snoc, hA.out, hb]; rfl
        go_wp2_with (go_at_call 12; refine (is_any _ _).mono ?_; rintro e w' ⟨rfl, rfl⟩)
        go_round
        case rel => exact ⟨k + 1, by omega, by go_num, by rw [HS.out], HA⟩
        case measure => simp [intOf]; omega
      | false =>
        have HZ : Hid (l.all isR = false) := all_false_at l k hlt (by rw [← HX.out]; exact hb)
        go_wp2_with (go_at_call 12; refine (is_any _ _).mono ?_; rintro e w' ⟨rfl, rfl⟩)
        go_ret2
        exact ⟨by simp [meetT, listE, HZ.out], rfl⟩
    · obtain rfl : k = l.length := by omega
      have HZ : Hid (l.all isR = true) := by have := hA.out; rwa [List.take_length] at this
      have HV : Hid (meetF 15 (l.take l.length) = meetF 15 l) := by rw [List.take_length]; exact rfl
      go_wp2
      go_ret2
      exact ⟨by simp [meetT, listE, HZ.out], rfl⟩
set_option maxHeartbeats 1000000 in
theorem join_some (a : Addr) (l : List Int) (cap : Nat) (w : World) (hl : l.length ≤ 9223372036854775807) (hc : ∀ j, j < l.length → w.cell? (a.add j) = some (.int .i64 (l.getD j 0))) :
    Calls Tryd.prog 21 #[.slice (some a) l.length cap] w fun e w' => e = .returned (.tuple #[.int .i64 (joinT l), .int .i64 (listE l)]) ∧ w' = w := by
  have HC : Hid (∀ j, j < l.length → w.cell? (a.add j) = some (.int .i64 (l.getD j 0))) := hc
  clear hc
  go_enter Tryd.func21, Tryd.ntmps21
  go_wp2
  go_loop [4, 9] (fun m i => ∃ k : Nat, k ≤ l.length ∧ i = .int .i64 k ∧ m = .int .i64 (joinF 0 (l.take k)) ∧ Hid ((l.take k).all isR = true)) (fun _ i => l.length - (intOf i).toNat)
  case atStart => exact ⟨0, Nat.zero_le _, rfl, rfl, rfl⟩
  case round =>
    obtain ⟨k, hk, rfl, rfl, hA⟩ := hrel
    by_cases hlt : k < l.length
    · obtain ⟨x, hx⟩ : ∃ x, x = l.getD k 0 := ⟨_, rfl⟩
      have hcx : w.cell? (a.add k) = some (.int .i64 x) := by rw [hx]; exact HC.out k hlt
      have HX : Hid (x = l.getD k 0) := hx
      clear hx
      have HT : Hid (l.take (k + 1) = l.take k ++ [x]) := by rw [HX.out]; exact take_snocI l k hlt
      cases hb : isR x with
      | true =>
        have HS : Hid (joinF 0 (l.take (k + 1)) = bits .or .i64 (joinF 0 (l.take k)) x) := by rw [HT.out]; exact joinF_snoc _ _ _
        have HA : Hid ((l.take (k + 1)).all isR = true) := by rw [HT.out]; show (l.take k ++ [x]).all isR = true; rw [all_snoc, hA.out, hb]; rfl
        go_wp2_with (go_at_call 12; refine (is_any _ _).mono ?_; rintro e w' ⟨rfl, rfl⟩)
        go_round
        case rel => exact ⟨k + 1, by omega, by go_num, by rw [HS.out], HA⟩
        case measure => simp [intOf]; omega
      | false =>
        have HZ : Hid (l.all isR = false) := all_false_at l k hlt (by rw [← HX.out]; exact hb)
        go_wp2_with (go_at_call 12; refine (is_any _ _).mono ?_; rintro e w' ⟨rfl, rfl⟩)
        go_ret2
        exact ⟨by simp [joinT, listE, HZ.out], rfl⟩
    · obtain rfl : k = l.length := by omega
      have HZ : Hid (l.all isR = true) := by have := hA.out; rwa [List.take_length] at this
      have HV : Hid (joinF 0 (l.take l.length) = joinF 0 l) := by rw [List.take_length]; exact rfl
      go_wp2
      go_ret2
      exact ⟨by simp [joinT, listE, HZ.out], rfl⟩
set_option maxHeartbeats 400000 in
theorem meet_none (ao : Option Addr) (cap : Nat) (w : World) :
    Calls Tryd.prog 19 #[.slice ao 0 cap] w fun e w' => e = .returned (.tuple #[.int .i64 15, .int .i64 0]) ∧ w' = w := by
  go_enter Tryd.func19, Tryd.ntmps19
  go_wp2
  refine wp_loop_rounds 1 ?_
  rw [rounds_succ]
  go_wp2
  go_ret2
  exact ⟨rfl, rfl⟩
set_option maxHeartbeats 400000 in
theorem join_none (ao : Option Addr) (cap : Nat) (w : World) :
    Calls Tryd.prog 21 #[.slice ao 0 cap] w fun e w' => e = .returned (.tuple #[.int .i64 0, .int .i64 0]) ∧ w' = w := by
  go_enter Tryd.func21, Tryd.ntmps21
  go_wp2
  refine wp_loop_rounds 1 ?_
  rw [rounds_succ]
  go_wp2
  go_ret2
  exact ⟨rfl, rfl⟩

/-- MEET, OF WHATEVER NUMBERS. -/
theorem meet_any (ao : Option Addr) (l : List Int) (n cap : Nat) (w : World) (hn : n = l.length) (hl : n ≤ 9223372036854775807) (hc : Lies w ao l) :
    Calls Tryd.prog 19 #[.slice ao n cap] w fun e w' => e = .returned (.tuple #[.int .i64 (meetT l), .int .i64 (listE l)]) ∧ w' = w := by
  subst hn
  cases l with
  | nil => exact meet_none ao cap w
  | cons x r =>
    obtain ⟨a, rfl, _⟩ := hc 0 (by simp)
    exact meet_some a _ cap w hl (fun j hj => by obtain ⟨a', e, h⟩ := hc j hj; cases e; exact h)
theorem join_any (ao : Option Addr) (l : List Int) (n cap : Nat) (w : World) (hn : n = l.length) (hl : n ≤ 9223372036854775807) (hc : Lies w ao l) :
    Calls Tryd.prog 21 #[.slice ao n cap] w fun e w' => e = .returned (.tuple #[.int .i64 (joinT l), .int .i64 (listE l)]) ∧ w' = w := by
  subst hn
  cases l with
  | nil => exact join_none ao cap w
  | cons x r =>
    obtain ⟨a, rfl, _⟩ := hc 0 (by simp)
    exact join_some a _ cap w hl (fun j hj => by obtain ⟨a', e, h⟩ := hc j hj; cases e; exact h)
end Go.Proofs.YtepadldbhjbjaaaDoor.Rt
