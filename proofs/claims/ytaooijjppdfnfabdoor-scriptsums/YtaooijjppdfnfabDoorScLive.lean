/- live answers true. -/
import Derived.Test.YtaooijjppdfnfabDoorScRParse
import Derived.Test.YtaooijjppdfnfabDoorScFill
import Derived.Test.YtaooijjppdfnfabDoorScWindow
namespace Go.Proofs.YtaooijjppdfnfabDoor.Sc
open Go.RowKit

theorem lv_yes : parP [48, 32, 49, 32, 49] = some [0, 1, 1] := parP_is.2 (by decide +kernel)
theorem lv_no : parP [48, 32, 32, 49] = none := by decide +kernel
theorem lv_put : putT [0, 1, 1] = [48, 32, 49, 32, 49] := by decide +kernel
theorem lv_gap : Gap [0, 1, 1] 2 2 := by
  refine ⟨fun c s t hc hn hs ht hf => ?_, .inr ⟨0, 1, 3, by omega, by omega, by omega, by simp, fun j h1 h2 => ?_, rfl⟩⟩
  · simp only [List.length_cons, List.length_nil] at ht
    by_cases h : t - s ≤ 2
    · exact h
    · have h0 := hf 0 (by omega) (by omega)
      have h1 := hf 1 (by omega) (by omega)
      simp [List.getD] at h0 h1
      omega
  · have : j = 1 ∨ j = 2 := by omega
    rcases this with rfl | rfl <;> decide
theorem row_three (w : World) (a b c : Int) : Row (w.alloc (.cells #[.int .i64 a, .int .i64 b, .int .i64 c] 3)) (some ⟨w.heap.size, 0, none⟩) (vals [a, b, c]) := by
  refine ⟨fun j u hu => ⟨_, rfl, ?_⟩⟩
  match j, hu with
  | 0, hu => simp at hu; subst hu; simp [Addr.add]
  | 1, hu => simp at hu; subst hu; simp [Addr.add]
  | 2, hu => simp at hu; subst hu; simp [Addr.add]
theorem row_four (w : World) (a b c d : Int) : Row (w.alloc (.cells #[.int .i64 a, .int .i64 b, .int .i64 c, .int .i64 d] 3)) (some ⟨w.heap.size, 0, none⟩) (vals [a, b, c, d]) := by
  refine ⟨fun j u hu => ⟨_, rfl, ?_⟩⟩
  match j, hu with
  | 0, hu => simp at hu; subst hu; simp [Addr.add]
  | 1, hu => simp at hu; subst hu; simp [Addr.add]
  | 2, hu => simp at hu; subst hu; simp [Addr.add]
  | 3, hu => simp at hu; subst hu; simp [Addr.add]

section
variable {w : World} {ao : Option Addr} {cap : Nat}
theorem lv_same (h : Row w ao (vals [0, 1, 1])) : Calls Tryd.prog 10 #[.slice ao 3 cap, .slice (some ⟨w.heap.size, 0, none⟩) 3 3] (w.alloc (.cells #[.int .i64 0, .int .i64 1, .int .i64 1] 3)) fun e w' => e = .returned (.bool true) ∧ Below w.heap.size w w' := by
  refine (same_any ao _ [0, 1, 1] [0, 1, 1] 3 3 cap 3 _ rfl rfl (by decide) (by decide) (h.below (alloc_below w _)) (row_three w 0 1 1)).mono ?_
  rintro e w' ⟨rfl, hb⟩
  exact ⟨rfl, q_trans (alloc_below w _) hb⟩
theorem lv_same4 (h : Row w ao (vals [0, 1, 0, 1])) : Calls Tryd.prog 10 #[.slice ao 4 cap, .slice (some ⟨w.heap.size, 0, none⟩) 4 4] (w.alloc (.cells #[.int .i64 0, .int .i64 1, .int .i64 0, .int .i64 1] 3)) fun e w' => e = .returned (.bool true) ∧ Below w.heap.size w w' := by
  refine (same_any ao _ [0, 1, 0, 1] [0, 1, 0, 1] 4 4 cap 4 _ rfl rfl (by decide) (by decide) (h.below (alloc_below w _)) (row_four w 0 1 0 1)).mono ?_
  rintro e w' ⟨rfl, hb⟩
  exact ⟨rfl, q_trans (alloc_below w _) hb⟩
theorem lv_puts (h : Row w ao (vals [0, 1, 1])) : Calls Tryd.prog 11 #[.slice ao 3 cap] w fun e w' => e = .returned (.string ⟨#[48, 32, 49, 32, 49]⟩) ∧ Below w.heap.size w w' := by
  have := put_any ao [0, 1, 1] 3 cap w rfl (by decide) h
  rw [lv_put] at this
  exact this
theorem lv_fair2 (h : Row w ao (vals [0, 1, 1])) : Calls Tryd.prog 12 #[.slice ao 3 cap, .int .i64 2, .int .i64 2] w fun e w' => e = .returned (.bool false) ∧ Below w.heap.size w w' := fair_any ao [0, 1, 1] 3 cap 2 2 2 w rfl (by decide : 3 ≤ 1000000) h lv_gap
theorem lv_fair3 (h : Row w ao (vals [0, 1, 1])) : Calls Tryd.prog 12 #[.slice ao 3 cap, .int .i64 2, .int .i64 3] w fun e w' => e = .returned (.bool true) ∧ Below w.heap.size w w' := fair_any ao [0, 1, 1] 3 cap 2 3 2 w rfl (by decide : 3 ≤ 1000000) h lv_gap
theorem lv_window (h : Row w ao (vals [0, 1, 1])) : Calls Tryd.prog 13 #[.slice ao 3 cap, .int .i64 2] w fun e w' => e = .returned (.int .i64 3) ∧ Below w.heap.size w w' := window_any ao [0, 1, 1] 3 cap 2 2 w rfl (by decide) h lv_gap
theorem lv_count (h : Row w ao (vals [0, 1, 1])) : Calls Tryd.prog 7 #[.slice ao 3 cap, .int .i64 1] w fun e w' => e = .returned (.int .i64 2) ∧ w' = w := count_any ao [0, 1, 1] 3 cap 1 w rfl (by decide) h
theorem lv_check (h : Row w ao (vals [0, 1, 1])) : Calls Tryd.prog 5 #[.slice ao 3 cap, .int .i64 1] w fun e w' => e = .returned (.int .i64 2) ∧ w' = w := check_any ao [0, 1, 1] 3 cap 1 w rfl (by decide) h
theorem lv_rounds : Calls Tryd.prog 14 #[.int .i64 2, .int .i64 2] w fun e w' => ∃ ao cap, e = .returned (.slice ao 4 cap) ∧ Mine w' w.heap.size ao cap [0, 1, 0, 1] ∧ Below w.heap.size w w' := rounds_any 2 2 w
end

set_option maxRecDepth 100000 in
set_option maxHeartbeats 1000000 in
theorem live_any (w : World) (HE : Hid (Errs w)) : Calls Tryd.prog 6 #[] w fun e w' => e = .returned (.bool true) ∧ Below w.heap.size w w' := by
  go_enter Tryd.func6, Tryd.ntmps6
  go_wp2_with fail
  refine (parse_yes ⟨#[48, 32, 49, 32, 49]⟩ [0, 1, 1] w (by decide) HE.out lv_yes).mono ?_
  rintro e w1 ⟨ao, cap, rfl, hm, b1⟩
  have HR := hid (Mine.row hm)
  have HB1 := hid b1
  have HE1 := hid (HE.out.below b1)
  clear hm b1
  go_wp2_with fail
  refine (parse_no ⟨#[48, 32, 32, 49]⟩ w1 (by decide) HE1.out lv_no).mono ?_
  rintro e w2 ⟨rfl, b2⟩
  have HR2 := hid (HR.out.below b2)
  have HB2 := hid (q_trans HB1.out b2)
  clear b2 HR HE1
  go_wp2_with (go_at_call 4; refine (num_any _ _).mono ?_; rintro e w' ⟨rfl, rfl⟩)
  refine (lv_same HR2.out).mono ?_
  rintro e w3 ⟨rfl, b3⟩
  have HR3 := hid (HR2.out.below b3)
  have HB3 := hid (q_trans HB2.out b3)
  clear b3 HR2 HB2
  go_wp2_with (go_at_call 4; refine (num_any _ _).mono ?_; rintro e w' ⟨rfl, rfl⟩)
  refine (lv_puts HR3.out).mono ?_
  rintro e w4 ⟨rfl, b4⟩
  have HR4 := hid (HR3.out.below b4)
  have HB4 := hid (q_trans HB3.out b4)
  clear b4 HR3 HB3
  go_wp2_with fail
  refine (lv_fair2 HR4.out).mono ?_
  rintro e w5 ⟨rfl, b5⟩
  have HR5 := hid (HR4.out.below b5)
  have HB5 := hid (q_trans HB4.out b5)
  clear b5 HR4 HB4
  go_wp2_with fail
  refine (lv_fair3 HR5.out).mono ?_
  rintro e w6 ⟨rfl, b6⟩
  have HR6 := hid (HR5.out.below b6)
  have HB6 := hid (q_trans HB5.out b6)
  clear b6 HR5 HB5
  go_wp2_with fail
  refine (lv_window HR6.out).mono ?_
  rintro e w7 ⟨rfl, b7⟩
  have HR7 := hid (HR6.out.below b7)
  have HB7 := hid (q_trans HB6.out b7)
  clear b7 HR6 HB6
  go_wp2_with fail
  refine (lv_count HR7.out).mono ?_
  rintro e w8 ⟨rfl, rfl⟩
  go_wp2_with fail
  refine lv_rounds.mono ?_
  rintro e w9 ⟨ao9, cap9, rfl, hm9, b9⟩
  have HR9 := hid (HR7.out.below b9)
  have HB9 := hid (q_trans HB7.out b9)
  have HS9 := hid (Mine.row hm9)
  clear b9 hm9 HR7 HB7
  go_wp2_with fail
  refine (lv_same4 HS9.out).mono ?_
  rintro e w10 ⟨rfl, b10⟩
  have HR10 := hid (HR9.out.below b10)
  have HB10 := hid (q_trans HB9.out b10)
  clear b10 HR9 HB9 HS9
  go_wp2_with fail
  refine (lv_check HR10.out).mono ?_
  rintro e w11 ⟨rfl, rfl⟩
  go_wp2_with (go_at_call 4; refine (num_any _ _).mono ?_; rintro e w' ⟨rfl, rfl⟩)
  go_ret
  exact ⟨rfl, HB10.out⟩
end Go.Proofs.YtaooijjppdfnfabDoor.Sc
