/- What the document's Name does. -/
import Derived.Test.YtilannincbcgkaaDoorKlW1
namespace Go.Proofs.YtilannincbcgkaaDoor.Kl
open Go.RowKit
open Ad (q_trans q_alloc q_set ret_int ret_bool hid)

set_option maxHeartbeats 400000 in
theorem rname_1 (w : World) : Calls Tryd.prog 18 #[.int .i64 1] w fun e w' => e = .returned (.string (nmS 1)) ∧ Below w.heap.size w w' := by
  go_enter Tryd.func18, Tryd.ntmps18
  go_wp2_with fail
  go_ret
  exact ⟨rfl, q_alloc (Below.refl _ _) _⟩
set_option maxHeartbeats 400000 in
theorem rname_2 (w : World) : Calls Tryd.prog 18 #[.int .i64 2] w fun e w' => e = .returned (.string (nmS 2)) ∧ Below w.heap.size w w' := by
  go_enter Tryd.func18, Tryd.ntmps18
  go_wp2_with fail
  go_ret
  exact ⟨rfl, q_alloc (Below.refl _ _) _⟩
set_option maxHeartbeats 400000 in
theorem rname_3 (w : World) : Calls Tryd.prog 18 #[.int .i64 3] w fun e w' => e = .returned (.string (nmS 3)) ∧ Below w.heap.size w w' := by
  go_enter Tryd.func18, Tryd.ntmps18
  go_wp2_with fail
  go_ret
  exact ⟨rfl, q_alloc (Below.refl _ _) _⟩
set_option maxHeartbeats 400000 in
theorem rname_4 (w : World) : Calls Tryd.prog 18 #[.int .i64 4] w fun e w' => e = .returned (.string (nmS 4)) ∧ Below w.heap.size w w' := by
  go_enter Tryd.func18, Tryd.ntmps18
  go_wp2_with fail
  go_ret
  exact ⟨rfl, q_alloc (Below.refl _ _) _⟩
set_option maxHeartbeats 400000 in
theorem rname_5 (w : World) : Calls Tryd.prog 18 #[.int .i64 5] w fun e w' => e = .returned (.string (nmS 5)) ∧ Below w.heap.size w w' := by
  go_enter Tryd.func18, Tryd.ntmps18
  go_wp2_with fail
  go_ret
  exact ⟨rfl, q_alloc (Below.refl _ _) _⟩
set_option maxHeartbeats 400000 in
theorem rname_6 (w : World) : Calls Tryd.prog 18 #[.int .i64 6] w fun e w' => e = .returned (.string (nmS 6)) ∧ Below w.heap.size w w' := by
  go_enter Tryd.func18, Tryd.ntmps18
  go_wp2_with fail
  go_ret
  exact ⟨rfl, q_alloc (Below.refl _ _) _⟩
set_option maxHeartbeats 400000 in
theorem rname_7 (w : World) : Calls Tryd.prog 18 #[.int .i64 7] w fun e w' => e = .returned (.string (nmS 7)) ∧ Below w.heap.size w w' := by
  go_enter Tryd.func18, Tryd.ntmps18
  go_wp2_with fail
  go_ret
  exact ⟨rfl, q_alloc (Below.refl _ _) _⟩
set_option maxHeartbeats 400000 in
theorem rname_8 (w : World) : Calls Tryd.prog 18 #[.int .i64 8] w fun e w' => e = .returned (.string (nmS 8)) ∧ Below w.heap.size w w' := by
  go_enter Tryd.func18, Tryd.ntmps18
  go_wp2_with fail
  go_ret
  exact ⟨rfl, q_alloc (Below.refl _ _) _⟩
set_option maxHeartbeats 400000 in
theorem rname_9 (w : World) : Calls Tryd.prog 18 #[.int .i64 9] w fun e w' => e = .returned (.string (nmS 9)) ∧ Below w.heap.size w w' := by
  go_enter Tryd.func18, Tryd.ntmps18
  go_wp2_with fail
  go_ret
  exact ⟨rfl, q_alloc (Below.refl _ _) _⟩
set_option maxHeartbeats 400000 in
theorem rname_10 (w : World) : Calls Tryd.prog 18 #[.int .i64 10] w fun e w' => e = .returned (.string (nmS 10)) ∧ Below w.heap.size w w' := by
  go_enter Tryd.func18, Tryd.ntmps18
  go_wp2_with fail
  go_ret
  exact ⟨rfl, q_alloc (Below.refl _ _) _⟩
set_option maxHeartbeats 400000 in
theorem rname_11 (w : World) : Calls Tryd.prog 18 #[.int .i64 11] w fun e w' => e = .returned (.string (nmS 11)) ∧ Below w.heap.size w w' := by
  go_enter Tryd.func18, Tryd.ntmps18
  go_wp2_with fail
  go_ret
  exact ⟨rfl, q_alloc (Below.refl _ _) _⟩
set_option maxHeartbeats 400000 in
theorem rname_12 (w : World) : Calls Tryd.prog 18 #[.int .i64 12] w fun e w' => e = .returned (.string (nmS 12)) ∧ Below w.heap.size w w' := by
  go_enter Tryd.func18, Tryd.ntmps18
  go_wp2_with fail
  go_ret
  exact ⟨rfl, q_alloc (Below.refl _ _) _⟩
set_option maxHeartbeats 400000 in
theorem rname_no (k : Int) (w : World) (h : kdB k = false) : Calls Tryd.prog 18 #[.int .i64 k] w fun e w' => e = .returned (.string ⟨#[]⟩) ∧ Below w.heap.size w w' := by
  have hr := inB_not.1 h
  by_cases h1 : k < 1
  · clear hr h
    go_enter Tryd.func18, Tryd.ntmps18
    go_wp2_with fail
    go_ret
    exact ⟨rfl, q_alloc (Below.refl _ _) _⟩
  · have h2 : 13 ≤ k := by omega
    clear hr h
    go_enter Tryd.func18, Tryd.ntmps18
    go_wp2_with fail
    go_ret
    exact ⟨rfl, q_alloc (Below.refl _ _) _⟩
theorem rname_any (k : Int) (w : World) : Calls Tryd.prog 18 #[.int .i64 k] w fun e w' => e = .returned (.string (nmT k)) ∧ Below w.heap.size w w' := by
  cases h : kdB k with
  | false =>
    rw [show nmT k = ⟨#[]⟩ by simp [nmT, h]]
    exact rname_no k w h
  | true =>
    rw [show nmT k = nmS k.toNat by simp [nmT, h]]
    have hr := inB_iff.1 h
    have : k = 1 ∨ k = 2 ∨ k = 3 ∨ k = 4 ∨ k = 5 ∨ k = 6 ∨ k = 7 ∨ k = 8 ∨ k = 9 ∨ k = 10 ∨ k = 11 ∨ k = 12 := by omega
    rcases this with rfl | rfl | rfl | rfl | rfl | rfl | rfl | rfl | rfl | rfl | rfl | rfl
    · exact rname_1 w
    · exact rname_2 w
    · exact rname_3 w
    · exact rname_4 w
    · exact rname_5 w
    · exact rname_6 w
    · exact rname_7 w
    · exact rname_8 w
    · exact rname_9 w
    · exact rname_10 w
    · exact rname_11 w
    · exact rname_12 w
end Go.Proofs.YtilannincbcgkaaDoor.Kl
