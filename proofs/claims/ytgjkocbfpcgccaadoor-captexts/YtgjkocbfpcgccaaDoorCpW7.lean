/- live answers true, in every world whose tables are the program's. -/
import Derived.Test.YtgjkocbfpcgccaaDoorCpW6
namespace Go.Proofs.YtgjkocbfpcgccaaDoor.Cp
open Go.RowKit

set_option maxHeartbeats 400000 in
theorem frame_any (w : World) :
    Calls Tryd.prog 40 #[] w fun e w' => e = .returned (.agg #[.int .i64 3, .int .i64 3, .int .i64 0, .int .i64 2, .int .i64 1]) ∧ Below w.heap.size w w' := by
  go_enter Tryd.func40, Tryd.ntmps40
  go_wp2
  refine bodyPost_ret (v := .agg #[.int .i64 3, .int .i64 3, .int .i64 0, .int .i64 2, .int .i64 1]) (by simp [results, Tryd.results40, go_sem]) rfl ⟨rfl, ?_⟩
  repeat (first | exact q_alloc (Below.refl _ _) _ | refine q_set ?_ (by simp) _)

def litT : ByteArray := ⟨#[102, 114, 97, 109, 101, 32, 50, 46, 49, 32, 114, 45, 45, 45]⟩
theorem lv_word (w : World) (hT : Tabs w) : Calls Tryd.prog 9 #[.agg #[.int .i64 3, .int .i64 3, .int .i64 0, .int .i64 2, .int .i64 1]] w fun e w' => e = .returned (.tuple #[.int .u64 17213423667, .int .i64 0]) ∧ Below w.heap.size w w' := by
  have h := word_any ⟨3, 3, 0, 2, 1⟩ w hT
  rw [show wordT ⟨3, 3, 0, 2, 1⟩ = 17213423667 by kernel_rfl, show chkE ⟨3, 3, 0, 2, 1⟩ = 0 by kernel_rfl] at h
  exact h
theorem lv_parse (w : World) (hT : Tabs w) : Calls Tryd.prog 11 #[.int .u64 17213423667] w fun e w' => e = .returned (.tuple #[.agg #[.int .i64 3, .int .i64 3, .int .i64 0, .int .i64 2, .int .i64 1], .int .i64 0]) ∧ Below w.heap.size w w' := by
  have h := parse_any 17213423667 w ⟨by omega, by omega⟩ hT
  rw [show parC 17213423667 = ⟨3, 3, 0, 2, 1⟩ by kernel_rfl, show parE 17213423667 = 0 by kernel_rfl] at h
  exact h
theorem lv_derive (w : World) (hT : Tabs w) : Calls Tryd.prog 19 #[.agg #[.int .i64 3, .int .i64 3, .int .i64 0, .int .i64 2, .int .i64 1], .int .i64 1, .int .i64 0] w fun e w' => e = .returned (.tuple #[.agg #[.int .i64 3, .int .i64 1, .int .i64 0, .int .i64 2, .int .i64 1], .int .i64 0]) ∧ Below w.heap.size w w' := by
  have h := derive_any ⟨3, 3, 0, 2, 1⟩ 1 0 w hT
  rw [show drvC ⟨3, 3, 0, 2, 1⟩ 1 0 = ⟨3, 1, 0, 2, 1⟩ by kernel_rfl, show drvE ⟨3, 3, 0, 2, 1⟩ 1 0 = 0 by kernel_rfl] at h
  exact h
theorem lv_derive2 (w : World) (hT : Tabs w) : Calls Tryd.prog 19 #[.agg #[.int .i64 3, .int .i64 3, .int .i64 0, .int .i64 2, .int .i64 1], .int .i64 8, .int .i64 0] w fun e w' => e = .returned (.tuple #[.agg #[.int .i64 0, .int .i64 0, .int .i64 0, .int .i64 0, .int .i64 0], .int .i64 20]) ∧ Below w.heap.size w w' := by
  have h := derive_any ⟨3, 3, 0, 2, 1⟩ 8 0 w hT
  rw [show drvC ⟨3, 3, 0, 2, 1⟩ 8 0 = ⟨0, 0, 0, 0, 0⟩ by kernel_rfl, show drvE ⟨3, 3, 0, 2, 1⟩ 8 0 = 20 by kernel_rfl] at h
  exact h
theorem lv_text (w : World) (hT : Tabs w) : Calls Tryd.prog 16 #[.agg #[.int .i64 3, .int .i64 1, .int .i64 0, .int .i64 2, .int .i64 1]] w fun e w' => e = .returned (.string litT) ∧ Below w.heap.size w w' := by
  have h := text_any ⟨3, 1, 0, 2, 1⟩ w hT
  rw [show textC ⟨3, 1, 0, 2, 1⟩ = litT by decide +kernel] at h
  exact h
theorem lv_names (w : World) : Calls Tryd.prog 23 #[.agg #[.int .i64 3, .int .i64 3, .int .i64 0, .int .i64 2, .int .i64 1], .agg #[.int .i64 3, .int .i64 1, .int .i64 0, .int .i64 2, .int .i64 1]] w fun e w' => e = .returned (.bool true) ∧ Below w.heap.size w w' := by
  have h := names_any ⟨3, 3, 0, 2, 1⟩ ⟨3, 1, 0, 2, 1⟩ w
  rw [show namB ⟨3, 3, 0, 2, 1⟩ ⟨3, 1, 0, 2, 1⟩ = true by kernel_rfl] at h
  exact h
theorem lv_check (w : World) (hT : Tabs w) : Calls Tryd.prog 14 #[.agg #[.int .i64 9, .int .i64 0, .int .i64 0, .int .i64 0, .int .i64 0]] w fun e w' => e = .returned (.int .i64 30) ∧ Below w.heap.size w w' := by
  have h := check_any ⟨9, 0, 0, 0, 0⟩ w hT
  rw [show chkE ⟨9, 0, 0, 0, 0⟩ = 30 by kernel_rfl] at h
  exact h

set_option maxRecDepth 100000 in
set_option maxHeartbeats 1000000 in
theorem live_any (w : World) (hT : Tabs w) : Calls Tryd.prog 18 #[] w fun e w' => e = .returned (.bool true) ∧ Below w.heap.size w w' := by
  have HT : Hid (Tabs w) := hT
  clear hT
  have hlit : (litT.toList == [102, 114, 97, 109, 101, 32, 50, 46, 49, 32, 114, 45, 45, 45]) = true := by kernel_rfl
  have hm1 : mayB ⟨3, 1, 0, 2, 1⟩ 1 = true := by kernel_rfl
  have hm2 : mayB ⟨3, 1, 0, 2, 1⟩ 2 = false := by kernel_rfl
  have he := eq5 ⟨3, 3, 0, 2, 1⟩ ⟨3, 3, 0, 2, 1⟩
  rw [show eqK ⟨3, 3, 0, 2, 1⟩ ⟨3, 3, 0, 2, 1⟩ = true by kernel_rfl] at he
  dsimp only at he
  go_enter Tryd.func18, Tryd.ntmps18
  go_wp2_with fail
  refine (frame_any _).mono ?_
  rintro e w1 ⟨rfl, b1⟩
  go_wp2_with fail
  refine (lv_word _ (HT.out.below b1)).mono ?_
  rintro e w2 ⟨rfl, b2⟩
  replace b2 := q_trans b1 b2
  clear b1
  go_wp2_with fail
  refine (lv_parse _ (HT.out.below b2)).mono ?_
  rintro e w3 ⟨rfl, b3⟩
  replace b3 := q_trans b2 b3
  clear b2
  have HI3 : Hid (In (w3.alloc (.cells #[.int .i64 3, .int .i64 3, .int .i64 0, .int .i64 2, .int .i64 1] 23)) w3.heap.size ⟨3, 3, 0, 2, 1⟩) := in_new w3 ⟨3, 3, 0, 2, 1⟩ 23
  have HB3 : Hid (Below w.heap.size w (w3.alloc (.cells #[.int .i64 3, .int .i64 3, .int .i64 0, .int .i64 2, .int .i64 1] 23))) := q_alloc b3 _
  clear b3
  go_wp2_with fail
  refine (frame_any _).mono ?_
  rintro e w4 ⟨rfl, b4⟩
  have HB4 : Hid (Below w.heap.size w w4) := q_trans HB3.out b4
  have HI4 : Hid (In w4 w3.heap.size ⟨3, 3, 0, 2, 1⟩) := HI3.out.below b4
  clear b4
  go_wp2_with fail
  refine (lv_derive _ (HT.out.below HB4.out)).mono ?_
  rintro e w5 ⟨rfl, b5⟩
  have HB5 : Hid (Below w.heap.size w (w5.alloc (.cells #[.int .i64 3, .int .i64 1, .int .i64 0, .int .i64 2, .int .i64 1] 23))) := q_alloc (q_trans HB4.out b5) _
  have HI5 : Hid (In (w5.alloc (.cells #[.int .i64 3, .int .i64 1, .int .i64 0, .int .i64 2, .int .i64 1] 23)) w3.heap.size ⟨3, 3, 0, 2, 1⟩) := (HI4.out.below b5).below (q_alloc (Below.refl _ _) _)
  have HJ5 : Hid (In (w5.alloc (.cells #[.int .i64 3, .int .i64 1, .int .i64 0, .int .i64 2, .int .i64 1] 23)) w5.heap.size ⟨3, 1, 0, 2, 1⟩) := in_new w5 ⟨3, 1, 0, 2, 1⟩ 23
  clear b5
  go_wp2_with fail
  refine (frame_any _).mono ?_
  rintro e w6 ⟨rfl, b6⟩
  have HB6 : Hid (Below w.heap.size w w6) := q_trans HB5.out b6
  have HI6 : Hid (In w6 w3.heap.size ⟨3, 3, 0, 2, 1⟩) := HI5.out.below b6
  have HJ6 : Hid (In w6 w5.heap.size ⟨3, 1, 0, 2, 1⟩) := HJ5.out.below b6
  clear b6
  go_wp2_with fail
  refine (lv_derive2 _ (HT.out.below HB6.out)).mono ?_
  rintro e w7 ⟨rfl, b7⟩
  have b8 : Below w7.heap.size w7 (w7.alloc (.cells #[.int .i64 0, .int .i64 0, .int .i64 0, .int .i64 0, .int .i64 0] 23)) := q_alloc (Below.refl _ _) _
  have HB8 := q_trans (q_trans HB6.out b7) b8
  have HI8 := (HI6.out.below b7).below b8
  have HJ8 := (HJ6.out.below b7).below b8
  clear b7 b8 HB3 HB4 HB5 HB6 HI3 HI4 HI5 HI6 HJ5 HJ6
  go_wp2_with fail
  obtain ⟨W, hW⟩ : ∃ W, w7.alloc (.cells #[.int .i64 0, .int .i64 0, .int .i64 0, .int .i64 0, .int .i64 0] 23) = W := ⟨_, rfl⟩
  rw [hW] at HB8 HI8 HJ8 ⊢
  obtain ⟨c0, c1, c2, c3, c4⟩ := HI8.always
  obtain ⟨d0, d1, d2, d3, d4⟩ := HJ8.always
  have HB : Hid (Below w.heap.size w W) := HB8
  have HTL : Hid (∀ g : Later W, Tabs g.now) := fun g => HT.out.below (q_trans HB.out g.low)
  have hne : Nonempty (Later W) := ⟨⟨W, Below.refl _ _⟩⟩
  clear HB8 HI8 HJ8
  refine wp_region_later (by kernel_rfl) (by kernel_rfl) ?_
  repeat (go_big_quiet_step (first | (go_at_call 13; exact later_same (num_any _ _)) | (go_at_call 40; exact later_call (frame_any _)) | (go_at_call 16; exact later_call (lv_text _ (HTL.out _))) | (go_at_call 21; exact later_call (may_any ⟨_, _, _, _, _⟩ _ _ (HTL.out _))) | (go_at_call 23; exact later_call (lv_names _)) | (go_at_call 14; exact later_call (lv_check _ (HTL.out _)))))
  refine wpQuiet_nil ?_
  rintro w9 ⟨⟨_, b9⟩, rfl⟩
  go_wp2_with fail
  go_ret
  exact ⟨rfl, q_trans HB.out b9⟩
end Go.Proofs.YtgjkocbfpcgccaaDoor.Cp
