/- What num, isSize, Check, Align, Size, end, both, Inside, Meet do; '==' of extents. -/
import Derived.Test.YteohoipkdjhllaaCaMem
import Derived.Laws.StructEq
namespace Go.Proofs.Yteohoipkdjhllaa.Ca
open Go.RowKit

set_option maxHeartbeats 400000 in
theorem num_any (x : Int) (w : World) :
    Calls Try.prog 11 #[.int .i64 x] w fun e w' => e = .returned (.int .i64 x) ∧ w' = w := by
  go_enter Try.func11, Try.ntmps11
  go_wp2
  go_ret
  exact ⟨rfl, rfl⟩
theorem eq2 (a b : X) (w : World) : (Op.equalIn 10000 23 (.agg #[.int .i64 a.1, .int .i64 a.2]) (.agg #[.int .i64 b.1, .int .i64 b.2])).run Try.prog w = .ok (decide (a = b)) w := by
  have u3 := Try.underlying3
  have a3 := Try.isAgg3
  have z3 := Try.sizeOf3
  have hS : Try.prog.underlying 23 = some (.struct (Try.prog.fieldsOf 23)) := by kernel_rfl
  rw [show (10000 : Nat) = 9999 + 1 from rfl, run_equalIn_agg w 9999 23 _ _ hS (by kernel_rfl)]
  simp only [Program.fieldsOf, Try.underlying23]
  go_simp
  by_cases h1 : a.1 = b.1 <;> by_cases h2 : a.2 = b.2 <;> simp [h1, h2, Prod.ext_iff]
theorem eq_yes {a b : X} (h : a = b) (w : World) : (Op.equalIn 10000 23 (.agg #[.int .i64 a.1, .int .i64 a.2]) (.agg #[.int .i64 b.1, .int .i64 b.2])).run Try.prog w = .ok true w := by rw [eq2]; simp [h]
theorem eq_no {a b : X} (h : ¬ a = b) (w : World) : (Op.equalIn 10000 23 (.agg #[.int .i64 a.1, .int .i64 a.2]) (.agg #[.int .i64 b.1, .int .i64 b.2])).run Try.prog w = .ok false w := by rw [eq2]; simp [h]

set_option maxHeartbeats 400000 in
theorem isSize_any (n : Int) (w : World) :
    Calls Try.prog 28 #[.int .i64 n] w fun e w' => e = .returned (.bool (pw n)) ∧ w' = w := by
  by_cases h1 : 1 ≤ n
  · by_cases h2 : n ≤ 1048576
    · have HP := hid (pw_bits h1 h2)
      have hb := pw_bits h1 h2
      go_enter Try.func28, Try.ntmps28
      go_wp2
      go_ret
      exact ⟨ret_bool (by first | rfl | exact HP.out), rfl⟩
    · have H : Hid (pw n = false) := by
        cases hp : pw n with
        | false => rfl
        | true => have := pw_range hp; omega
      go_enter Try.func28, Try.ntmps28
      go_wp2
      go_ret
      exact ⟨ret_bool H.out.symm, rfl⟩
  · have H : Hid (pw n = false) := by
      cases hp : pw n with
      | false => rfl
      | true => have := pw_range hp; omega
    go_enter Try.func28, Try.ntmps28
    go_wp2
    go_ret
    exact ⟨ret_bool H.out.symm, rfl⟩
theorem isSize_is {n : Int} {r : Bool} (h : pw n = r) (w : World) : Calls Try.prog 28 #[.int .i64 n] w fun e w' => e = .returned (.bool r) ∧ w' = w := h ▸ isSize_any n w

set_option maxHeartbeats 1000000 in
theorem check_any (x : X) (w : World) :
    Calls Try.prog 12 #[(.agg #[.int .i64 x.1, .int .i64 x.2])] w fun e w' => e = .returned (.int .i64 (chk x)) ∧ Grows w w' := by
  by_cases h1 : 0 ≤ x.1
  · by_cases h2 : 1 ≤ x.2
    · by_cases h3 : x.2 ≤ 1048576
      · by_cases h4 : x.1 ≤ 1048576 - x.2
        · have H : Hid (chk x = 0) := by unfold Hid chk; rw [if_pos (ok_iff.2 (by omega))]
          go_enter Try.func12, Try.ntmps12
          go_wp2
          go_ret
          exact ⟨ret_int H.out.symm, (Grows.refl _).alloc _⟩
        · have H : Hid (chk x = 2) := by unfold Hid chk; rw [if_neg (by rw [ok_iff]; omega)]
          go_enter Try.func12, Try.ntmps12
          go_wp2
          go_ret
          exact ⟨ret_int H.out.symm, (Grows.refl _).alloc _⟩
      · have H : Hid (chk x = 2) := by unfold Hid chk; rw [if_neg (by rw [ok_iff]; omega)]
        go_enter Try.func12, Try.ntmps12
        go_wp2
        go_ret
        exact ⟨ret_int H.out.symm, (Grows.refl _).alloc _⟩
    · have H : Hid (chk x = 2) := by unfold Hid chk; rw [if_neg (by rw [ok_iff]; omega)]
      go_enter Try.func12, Try.ntmps12
      go_wp2
      go_ret
      exact ⟨ret_int H.out.symm, (Grows.refl _).alloc _⟩
  · have H : Hid (chk x = 2) := by unfold Hid chk; rw [if_neg (by rw [ok_iff]; omega)]
    go_enter Try.func12, Try.ntmps12
    go_wp2
    go_ret
    exact ⟨ret_int H.out.symm, (Grows.refl _).alloc _⟩
theorem check_is {x : X} {r : Bool} (h : okX x = r) (w : World) : Calls Try.prog 12 #[(.agg #[.int .i64 x.1, .int .i64 x.2])] w fun e w' => e = .returned (.int .i64 (if r then 0 else 2)) ∧ Below w.heap.size w w' := by
  refine (check_any x w).mono ?_
  rintro e w' ⟨rfl, g⟩
  exact ⟨by rw [← h]; rfl, g.below⟩
theorem check_yes {x : X} (h : okX x = true) (w : World) : Calls Try.prog 12 #[(.agg #[.int .i64 x.1, .int .i64 x.2])] w fun e w' => e = .returned (.int .i64 0) ∧ Below w.heap.size w w' := check_is h w
theorem check_no {x : X} (h : okX x = false) (w : World) : Calls Try.prog 12 #[(.agg #[.int .i64 x.1, .int .i64 x.2])] w fun e w' => e = .returned (.int .i64 2) ∧ Below w.heap.size w w' := check_is h w

set_option maxHeartbeats 1000000 in
theorem align_any (a s : Int) (w : World) :
    Calls Try.prog 14 #[.int .i64 a, .int .i64 s] w fun e w' => e = .returned (.int .i64 (alV a s)) ∧ w' = w := by
  by_cases h1 : 0 ≤ a
  · by_cases h2 : a ≤ 1048576
    · have ha : atB a = true := at_iff.2 ⟨h1, h2⟩
      cases hp : pw s with
      | true =>
        have HV := hid (al_yes ha hp)
        obtain ⟨p1, p2⟩ := pw_range hp
        have A1 := hid (al_at ha hp)
        have hc := fun W => isSize_is hp W
        have b1 := at_iff.1 (al_at ha hp)
        rw [HV.out] at b1
        obtain ⟨b1, b2⟩ := b1
        obtain ⟨v, hv⟩ : ∃ v, (a + s - 1) / s * s = v := ⟨_, rfl⟩
        have q1 : 0 ≤ (a + s - 1) / s := Int.ediv_nonneg (by omega) (by omega)
        have q2 : (a + s - 1) / s ≤ a + s - 1 := Int.ediv_le_self _ (by omega)
        have ht : Int.tdiv (a + s - 1) s = (a + s - 1) / s := Int.tdiv_eq_ediv_of_nonneg (by omega)
        clear ha hp hv
        go_enter Try.func14, Try.ntmps14
        go_wp2_with (go_at_call 28; refine (hc _).mono ?_; rintro e w1 ⟨rfl, hw⟩; rw [hw]; clear hw w1)
        go_ret
        exact ⟨ret_int (by rw [HV.out]), rfl⟩
      | false =>
        have HV := hid (al_no (a := a) (s := s) (by simp [hp]))
        have hc := fun W => isSize_is hp W
        clear ha hp
        go_enter Try.func14, Try.ntmps14
        go_wp2_with (go_at_call 28; refine (hc _).mono ?_; rintro e w1 ⟨rfl, hw⟩; rw [hw]; clear hw w1)
        go_ret
        exact ⟨ret_int HV.out.symm, rfl⟩
    · have HV := hid (al_no (a := a) (s := s) (by rw [at_not.2 (by omega)]; rfl))
      go_enter Try.func14, Try.ntmps14
      go_wp2
      go_ret
      exact ⟨ret_int HV.out.symm, rfl⟩
  · have HV := hid (al_no (a := a) (s := s) (by rw [at_not.2 (by omega)]; rfl))
    go_enter Try.func14, Try.ntmps14
    go_wp2
    go_ret
    exact ⟨ret_int HV.out.symm, rfl⟩
end Go.Proofs.Yteohoipkdjhllaa.Ca
