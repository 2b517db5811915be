/- live answers true. -/
import Derived.Test.YthhbifcgilkddaaHaW3
namespace Go.Proofs.Ythhbifcgilkddaa.Ha
open Go.RowKit

theorem has1 (w : World) (x : Int) : Has (w.alloc (.cells #[.int .i64 x] 3)) (some ⟨w.heap.size, 0, none⟩) 1 1 [x] := by
  refine ⟨rfl, (fun h => by cases h), Nat.le_refl _, ⟨fun j u hu => ⟨_, rfl, ?_⟩⟩⟩
  match j, hu with
  | 0, hu => simp at hu; subst hu; simp [Addr.add]
  | j + 1, hu => simp at hu
theorem has3 (w : World) (x y z : Int) : Has (w.alloc (.cells #[.int .i64 x, .int .i64 y, .int .i64 z] 3)) (some ⟨w.heap.size, 0, none⟩) 3 3 [x, y, z] := by
  refine ⟨rfl, (fun h => by cases h), Nat.le_refl _, ⟨fun j u hu => ⟨_, rfl, ?_⟩⟩⟩
  match j, hu with
  | 0, hu => simp at hu; subst hu; simp [Addr.add]
  | 1, hu => simp at hu; subst hu; simp [Addr.add]
  | 2, hu => simp at hu; subst hu; simp [Addr.add]
  | j + 3, hu => simp at hu
theorem lv_put (w : World) : Calls Try.prog 9 #[.int .i64 2, .int .i64 3] w fun e w' => e = .returned (.tuple #[.int .i64 194, .int .i64 0]) ∧ w' = w := put_any 2 3 w
theorem lv_parse (w : World) : Calls Try.prog 11 #[.int .i64 194] w fun e w' => e = .returned (.tuple #[.int .i64 2, .int .i64 3, .int .i64 0]) ∧ w' = w := parse_any 194 w
theorem lv_bump (w : World) (ao : Option Addr) (cap : Nat) (H : Has w ao 3 cap [0, 0, 3]) : Calls Try.prog 19 #[.slice ao 3 cap, .int .i64 2] w fun e w' => ∃ ao' cap', e = .returned (.tuple #[.slice ao' 3 cap', .int .i64 0]) ∧ Mine w' w.heap.size ao' 3 cap' [0, 0, 4] ∧ Below w.heap.size w w' := by
  have h := bump_any ao 3 cap [0, 0, 3] 2 w H (by decide)
  rwa [show ofE [0, 0, 3] 2 = 0 from by decide, show bumpL [0, 0, 3] 2 = [0, 0, 4] from by decide] at h
theorem lv_of (w : World) (ao : Option Addr) (cap : Nat) (H : Has w ao 1 cap [-1]) : Calls Try.prog 17 #[.slice ao 1 cap, .int .i64 0] w fun e w' => e = .returned (.tuple #[.int .i64 0, .int .i64 80]) ∧ w' = w := by
  have h := of_any ao 1 cap [-1] 0 w H
  rwa [show ofE [-1] 0 = 80 from by decide, show ofV [-1] 0 = 0 from by decide] at h
theorem lv_is (w : World) (ao : Option Addr) (cap : Nat) (H : Has w ao 3 cap [0, 0, 3]) : Calls Try.prog 22 #[.slice ao 3 cap, .int .i64 194] w fun e w' => e = .returned (.bool true) ∧ w' = w := by
  have h := is_any ao 3 cap [0, 0, 3] 194 w H
  rwa [show isB [0, 0, 3] 194 = true from by decide] at h
theorem lv_not (w : World) (ao : Option Addr) (cap : Nat) (H : Has w ao 3 cap [0, 0, 4]) : Calls Try.prog 22 #[.slice ao 3 cap, .int .i64 194] w fun e w' => e = .returned (.bool false) ∧ w' = w := by
  have h := is_any ao 3 cap [0, 0, 4] 194 w H
  rwa [show isB [0, 0, 4] 194 = false from by decide] at h
theorem lv_last (w : World) : Calls Try.prog 14 #[.int .i64 4095] w fun e w' => e = .returned (.int .i64 (-1)) ∧ w' = w := next_any 4095 w
theorem lv_first (w : World) : Calls Try.prog 14 #[.int .i64 0] w fun e w' => e = .returned (.int .i64 1) ∧ w' = w := next_any 0 w

set_option maxRecDepth 100000 in
set_option maxHeartbeats 2000000 in
theorem live_any (w : World) : Calls Try.prog 16 #[] w fun e w' => e = .returned (.bool true) ∧ Below w.heap.size w w' := by
  go_enter Try.func16, Try.ntmps16
  go_wp2_with fail
  refine (lv_put _).mono ?_
  rintro e w1 ⟨rfl, hw⟩; rw [hw]; clear hw w1
  go_wp2_with fail
  refine (lv_parse _).mono ?_
  rintro e w1 ⟨rfl, hw⟩; rw [hw]; clear hw w1
  go_wp2_with fail
  refine (lv_bump _ _ _ (has3 w 0 0 3)).mono ?_
  rintro e w1 ⟨ao1, cap1, rfl, m1, b1⟩
  have HM1 := hid m1.has
  have HB1 := hid (q_trans (alloc_below w _) b1)
  clear m1 b1
  go_wp2_with fail
  refine (lv_of _ _ _ (has1 w1 (-1))).mono ?_
  rintro e w2 ⟨rfl, hw⟩; rw [hw]; clear hw w2
  have HM2 := hid (HM1.out.below (alloc_below w1 (.cells #[.int .i64 (-1)] 3)))
  have HB2 := hid (q_alloc HB1.out (.cells #[.int .i64 (-1)] 3))
  clear HM1 HB1
  generalize w1.alloc _ = W at HM2 HB2 ⊢
  go_wp2_with fail
  refine (num_any 0 _).mono ?_
  rintro e w2 ⟨rfl, hw⟩; rw [hw]; clear hw w2
  go_wp2_with fail
  refine (num_any 0 _).mono ?_
  rintro e w2 ⟨rfl, hw⟩; rw [hw]; clear hw w2
  go_wp2_with fail
  refine (num_any 0 _).mono ?_
  rintro e w2 ⟨rfl, hw⟩; rw [hw]; clear hw w2
  go_wp2_with fail
  refine (ints_yes ao1 _ 3 cap1 3 [0, 0, 4] _ (by decide) (HM2.out.below (alloc_below _ _)) (has3 W 0 0 4)).mono ?_
  rintro e w3 ⟨rfl, b3⟩
  have HM3 := hid ((HM2.out.below (alloc_below _ _)).below b3)
  have HB3 := hid (q_trans (q_alloc HB2.out _) b3)
  clear HM2 HB2 b3
  go_wp2_with fail
  refine (num_any 80 _).mono ?_
  rintro e w2 ⟨rfl, hw⟩; rw [hw]; clear hw w2
  go_wp2_with fail
  refine (lv_is _ _ _ (has3 w3 0 0 3)).mono ?_
  rintro e w2 ⟨rfl, hw⟩; rw [hw]; clear hw w2
  go_wp2_with fail
  refine (lv_not _ _ _ (HM3.out.below (alloc_below _ _))).mono ?_
  rintro e w2 ⟨rfl, hw⟩; rw [hw]; clear hw w2
  go_wp2_with fail
  refine (lv_last _).mono ?_
  rintro e w2 ⟨rfl, hw⟩; rw [hw]; clear hw w2
  go_wp2_with fail
  refine (lv_first _).mono ?_
  rintro e w2 ⟨rfl, hw⟩; rw [hw]; clear hw w2
  go_wp2_with fail
  go_ret
  exact ⟨rfl, q_alloc HB3.out _⟩
end Go.Proofs.Ythhbifcgilkddaa.Ha
