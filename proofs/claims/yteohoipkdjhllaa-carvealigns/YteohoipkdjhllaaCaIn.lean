/- What Inside, Meet do: the program's, the document's. -/
import Derived.Test.YteohoipkdjhllaaCaRef1
namespace Go.Proofs.Yteohoipkdjhllaa.Ca
open Go.RowKit

section
variable {w : World}
theorem is_end {x : X} (h : okX x = true) : Calls Try.prog 31 #[(.agg #[.int .i64 x.1, .int .i64 x.2])] w fun e w' => e = .returned (.int .i64 (x.1 + x.2)) ∧ Below w.heap.size w w' := end_any x w h
theorem is_both {a b : X} {r : Bool} (h : (okX a && okX b) = r) : Calls Try.prog 30 #[(.agg #[.int .i64 a.1, .int .i64 a.2]), (.agg #[.int .i64 b.1, .int .i64 b.2])] w fun e w' => e = .returned (.bool r) ∧ Below w.heap.size w w' := h ▸ both_any a b w
theorem is_ris {x : X} {r : Bool} (h : okX x = r) : Calls Try.prog 13 #[(.agg #[.int .i64 x.1, .int .i64 x.2])] w fun e w' => e = .returned (.bool r) ∧ Below w.heap.size w w' := ris_is h w
theorem later_num (x : Int) {g : Later w} : Calls Try.prog 11 #[.int .i64 x] g.now fun e w'' => e = .returned (.int .i64 x) ∧ ∃ g' : Later w, w'' = g'.now :=
  (num_any x g.now).mono fun _ _ ⟨he, hb⟩ => ⟨he, g, hb⟩
end
theorem in_no {a b : X} (h : (okX a && okX b) = false) : inB a b = false := by unfold inB; rw [h]; rfl
theorem me_no {a b : X} (h : (okX a && okX b) = false) : meB a b = false := by unfold meB; rw [h]; rfl
/-- Two boxes, one behind the other. -/
theorem at_two (w : World) (a b : X) (t : TypeId) : AtX ((w.alloc (.cells #[.int .i64 a.1, .int .i64 a.2] t)).alloc (.cells #[.int .i64 b.1, .int .i64 b.2] t)) ⟨w.heap.size, 0, none⟩ a ∧ AtX ((w.alloc (.cells #[.int .i64 a.1, .int .i64 a.2] t)).alloc (.cells #[.int .i64 b.1, .int .i64 b.2] t)) ⟨w.heap.size + 1, 0, none⟩ b :=
  ⟨(at_new w a t).below (alloc_below _ _), at_new2 w a b t⟩
set_option maxRecDepth 100000 in
set_option maxHeartbeats 2000000 in
theorem inside_any (a b : X) (w : World) :
    Calls Try.prog 16 #[(.agg #[.int .i64 a.1, .int .i64 a.2]), (.agg #[.int .i64 b.1, .int .i64 b.2])] w fun e w' => e = .returned (.bool (inB a b)) ∧ Below w.heap.size w w' := by
  cases hab : (okX a && okX b) with
  | false =>
    have HR := hid (in_no hab)
    have CB := fun (W : World) => is_both (w := W) hab
    clear hab
    go_enter Try.func16, Try.ntmps16
    go_wp2_with fail
    have A0 := hid (at_two w a b 23)
    have B0 := hid (q_alloc (alloc_below w (.cells #[.int .i64 a.1, .int .i64 a.2] 23)) (.cells #[.int .i64 b.1, .int .i64 b.2] 23))
    generalize ((w.alloc (.cells #[.int .i64 a.1, .int .i64 a.2] 23)).alloc (.cells #[.int .i64 b.1, .int .i64 b.2] 23)) = W at A0 B0 ⊢
    obtain ⟨f0, f1⟩ := A0.out.1.always
    obtain ⟨f2, f3⟩ := A0.out.2.always
    have hne : Nonempty (Later W) := ⟨⟨W, Below.refl _ _⟩⟩
    refine wp_region_later (by kernel_rfl) (by kernel_rfl) ?_
    repeat (go_big_quiet_step (first | (go_at_call 30; exact later_call (CB _))))
    refine wpQuiet_nil ?_
    rintro w6 ⟨⟨_, b6⟩, rfl⟩
    go_wp2_with fail
    go_ret
    exact ⟨ret_bool HR.out.symm, q_trans B0.out b6⟩
  | true =>
    have hoa : okX a = true := by revert hab; cases okX a <;> simp
    have hob : okX b = true := by revert hab; cases okX b <;> simp
    by_cases k1 : b.1 ≤ a.1
    · by_cases k2 : a.1 + a.2 ≤ b.1 + b.2
      · have HR : Hid (inB a b = true) := by unfold Hid; simp [inB, hoa, hob, k1, k2]
        have CB := fun (W : World) => is_both (w := W) hab
        have HA := hid hoa
        have HB := hid hob
        have d1 : decide (b.1 ≤ a.1) = true := by simp [k1]
        have d2 : decide (a.1 + a.2 ≤ b.1 + b.2) = true := by simp [k2]
        clear hoa hob hab
        go_enter Try.func16, Try.ntmps16
        go_wp2_with fail
        have A0 := hid (at_two w a b 23)
        have B0 := hid (q_alloc (alloc_below w (.cells #[.int .i64 a.1, .int .i64 a.2] 23)) (.cells #[.int .i64 b.1, .int .i64 b.2] 23))
        generalize ((w.alloc (.cells #[.int .i64 a.1, .int .i64 a.2] 23)).alloc (.cells #[.int .i64 b.1, .int .i64 b.2] 23)) = W at A0 B0 ⊢
        obtain ⟨f0, f1⟩ := A0.out.1.always
        obtain ⟨f2, f3⟩ := A0.out.2.always
        have hne : Nonempty (Later W) := ⟨⟨W, Below.refl _ _⟩⟩
        refine wp_region_later (by kernel_rfl) (by kernel_rfl) ?_
        repeat (go_big_quiet_step (first | (go_at_call 30; exact later_call (CB _)) | (go_at_call 31; exact later_call (is_end (by first | exact HA.out | exact HB.out)))))
        refine wpQuiet_nil ?_
        rintro w6 ⟨⟨_, b6⟩, rfl⟩
        go_wp2_with fail
        go_ret
        exact ⟨ret_bool HR.out.symm, q_trans B0.out b6⟩
      · have HR : Hid (inB a b = false) := by unfold Hid; simp [inB, hoa, hob, k1, k2]
        have CB := fun (W : World) => is_both (w := W) hab
        have HA := hid hoa
        have HB := hid hob
        have d1 : decide (b.1 ≤ a.1) = true := by simp [k1]
        have d2 : decide (a.1 + a.2 ≤ b.1 + b.2) = false := by simp [k2]
        clear hoa hob hab k2
        go_enter Try.func16, Try.ntmps16
        go_wp2_with fail
        have A0 := hid (at_two w a b 23)
        have B0 := hid (q_alloc (alloc_below w (.cells #[.int .i64 a.1, .int .i64 a.2] 23)) (.cells #[.int .i64 b.1, .int .i64 b.2] 23))
        generalize ((w.alloc (.cells #[.int .i64 a.1, .int .i64 a.2] 23)).alloc (.cells #[.int .i64 b.1, .int .i64 b.2] 23)) = W at A0 B0 ⊢
        obtain ⟨f0, f1⟩ := A0.out.1.always
        obtain ⟨f2, f3⟩ := A0.out.2.always
        have hne : Nonempty (Later W) := ⟨⟨W, Below.refl _ _⟩⟩
        refine wp_region_later (by kernel_rfl) (by kernel_rfl) ?_
        repeat (go_big_quiet_step (first | (go_at_call 30; exact later_call (CB _)) | (go_at_call 31; exact later_call (is_end (by first | exact HA.out | exact HB.out)))))
        refine wpQuiet_nil ?_
        rintro w6 ⟨⟨_, b6⟩, rfl⟩
        go_wp2_with fail
        go_ret
        exact ⟨ret_bool HR.out.symm, q_trans B0.out b6⟩
    · have HR : Hid (inB a b = false) := by unfold Hid; simp [inB, hoa, hob, k1]
      have CB := fun (W : World) => is_both (w := W) hab
      have HA := hid hoa
      have HB := hid hob
      have d1 : decide (b.1 ≤ a.1) = false := by simp [k1]
      clear hoa hob hab k1
      go_enter Try.func16, Try.ntmps16
      go_wp2_with fail
      have A0 := hid (at_two w a b 23)
      have B0 := hid (q_alloc (alloc_below w (.cells #[.int .i64 a.1, .int .i64 a.2] 23)) (.cells #[.int .i64 b.1, .int .i64 b.2] 23))
      generalize ((w.alloc (.cells #[.int .i64 a.1, .int .i64 a.2] 23)).alloc (.cells #[.int .i64 b.1, .int .i64 b.2] 23)) = W at A0 B0 ⊢
      obtain ⟨f0, f1⟩ := A0.out.1.always
      obtain ⟨f2, f3⟩ := A0.out.2.always
      have hne : Nonempty (Later W) := ⟨⟨W, Below.refl _ _⟩⟩
      refine wp_region_later (by kernel_rfl) (by kernel_rfl) ?_
      repeat (go_big_quiet_step (first | (go_at_call 30; exact later_call (CB _)) | (go_at_call 31; exact later_call (is_end (by first | exact HA.out | exact HB.out)))))
      refine wpQuiet_nil ?_
      rintro w6 ⟨⟨_, b6⟩, rfl⟩
      go_wp2_with fail
      go_ret
      exact ⟨ret_bool HR.out.symm, q_trans B0.out b6⟩
set_option maxRecDepth 100000 in
set_option maxHeartbeats 2000000 in
theorem meet_any (a b : X) (w : World) :
    Calls Try.prog 18 #[(.agg #[.int .i64 a.1, .int .i64 a.2]), (.agg #[.int .i64 b.1, .int .i64 b.2])] w fun e w' => e = .returned (.bool (meB a b)) ∧ Below w.heap.size w w' := by
  cases hab : (okX a && okX b) with
  | false =>
    have HR := hid (me_no hab)
    have CB := fun (W : World) => is_both (w := W) hab
    clear hab
    go_enter Try.func18, Try.ntmps18
    go_wp2_with fail
    have A0 := hid (at_two w a b 23)
    have B0 := hid (q_alloc (alloc_below w (.cells #[.int .i64 a.1, .int .i64 a.2] 23)) (.cells #[.int .i64 b.1, .int .i64 b.2] 23))
    generalize ((w.alloc (.cells #[.int .i64 a.1, .int .i64 a.2] 23)).alloc (.cells #[.int .i64 b.1, .int .i64 b.2] 23)) = W at A0 B0 ⊢
    obtain ⟨f0, f1⟩ := A0.out.1.always
    obtain ⟨f2, f3⟩ := A0.out.2.always
    have hne : Nonempty (Later W) := ⟨⟨W, Below.refl _ _⟩⟩
    refine wp_region_later (by kernel_rfl) (by kernel_rfl) ?_
    repeat (go_big_quiet_step (first | (go_at_call 30; exact later_call (CB _))))
    refine wpQuiet_nil ?_
    rintro w6 ⟨⟨_, b6⟩, rfl⟩
    go_wp2_with fail
    go_ret
    exact ⟨ret_bool HR.out.symm, q_trans B0.out b6⟩
  | true =>
    have hoa : okX a = true := by revert hab; cases okX a <;> simp
    have hob : okX b = true := by revert hab; cases okX b <;> simp
    by_cases k1 : a.1 < b.1 + b.2
    · by_cases k2 : b.1 < a.1 + a.2
      · have HR : Hid (meB a b = true) := by unfold Hid; simp [meB, hoa, hob, k1, k2]
        have CB := fun (W : World) => is_both (w := W) hab
        have HA := hid hoa
        have HB := hid hob
        have d1 : decide (a.1 < b.1 + b.2) = true := by simp [k1]
        have d2 : decide (b.1 < a.1 + a.2) = true := by simp [k2]
        clear hoa hob hab
        go_enter Try.func18, Try.ntmps18
        go_wp2_with fail
        have A0 := hid (at_two w a b 23)
        have B0 := hid (q_alloc (alloc_below w (.cells #[.int .i64 a.1, .int .i64 a.2] 23)) (.cells #[.int .i64 b.1, .int .i64 b.2] 23))
        generalize ((w.alloc (.cells #[.int .i64 a.1, .int .i64 a.2] 23)).alloc (.cells #[.int .i64 b.1, .int .i64 b.2] 23)) = W at A0 B0 ⊢
        obtain ⟨f0, f1⟩ := A0.out.1.always
        obtain ⟨f2, f3⟩ := A0.out.2.always
        have hne : Nonempty (Later W) := ⟨⟨W, Below.refl _ _⟩⟩
        refine wp_region_later (by kernel_rfl) (by kernel_rfl) ?_
        repeat (go_big_quiet_step (first | (go_at_call 30; exact later_call (CB _)) | (go_at_call 31; exact later_call (is_end (by first | exact HA.out | exact HB.out)))))
        refine wpQuiet_nil ?_
        rintro w6 ⟨⟨_, b6⟩, rfl⟩
        go_wp2_with fail
        go_ret
        exact ⟨ret_bool HR.out.symm, q_trans B0.out b6⟩
      · have HR : Hid (meB a b = false) := by unfold Hid; simp [meB, hoa, hob, k1, k2]
        have CB := fun (W : World) => is_both (w := W) hab
        have HA := hid hoa
        have HB := hid hob
        have d1 : decide (a.1 < b.1 + b.2) = true := by simp [k1]
        have d2 : decide (b.1 < a.1 + a.2) = false := by simp [k2]
        clear hoa hob hab k2
        go_enter Try.func18, Try.ntmps18
        go_wp2_with fail
        have A0 := hid (at_two w a b 23)
        have B0 := hid (q_alloc (alloc_below w (.cells #[.int .i64 a.1, .int .i64 a.2] 23)) (.cells #[.int .i64 b.1, .int .i64 b.2] 23))
        generalize ((w.alloc (.cells #[.int .i64 a.1, .int .i64 a.2] 23)).alloc (.cells #[.int .i64 b.1, .int .i64 b.2] 23)) = W at A0 B0 ⊢
        obtain ⟨f0, f1⟩ := A0.out.1.always
        obtain ⟨f2, f3⟩ := A0.out.2.always
        have hne : Nonempty (Later W) := ⟨⟨W, Below.refl _ _⟩⟩
        refine wp_region_later (by kernel_rfl) (by kernel_rfl) ?_
        repeat (go_big_quiet_step (first | (go_at_call 30; exact later_call (CB _)) | (go_at_call 31; exact later_call (is_end (by first | exact HA.out | exact HB.out)))))
        refine wpQuiet_nil ?_
        rintro w6 ⟨⟨_, b6⟩, rfl⟩
        go_wp2_with fail
        go_ret
        exact ⟨ret_bool HR.out.symm, q_trans B0.out b6⟩
    · have HR : Hid (meB a b = false) := by unfold Hid; simp [meB, hoa, hob, k1]
      have CB := fun (W : World) => is_both (w := W) hab
      have HA := hid hoa
      have HB := hid hob
      have d1 : decide (a.1 < b.1 + b.2) = false := by simp [k1]
      clear hoa hob hab k1
      go_enter Try.func18, Try.ntmps18
      go_wp2_with fail
      have A0 := hid (at_two w a b 23)
      have B0 := hid (q_alloc (alloc_below w (.cells #[.int .i64 a.1, .int .i64 a.2] 23)) (.cells #[.int .i64 b.1, .int .i64 b.2] 23))
      generalize ((w.alloc (.cells #[.int .i64 a.1, .int .i64 a.2] 23)).alloc (.cells #[.int .i64 b.1, .int .i64 b.2] 23)) = W at A0 B0 ⊢
      obtain ⟨f0, f1⟩ := A0.out.1.always
      obtain ⟨f2, f3⟩ := A0.out.2.always
      have hne : Nonempty (Later W) := ⟨⟨W, Below.refl _ _⟩⟩
      refine wp_region_later (by kernel_rfl) (by kernel_rfl) ?_
      repeat (go_big_quiet_step (first | (go_at_call 30; exact later_call (CB _)) | (go_at_call 31; exact later_call (is_end (by first | exact HA.out | exact HB.out)))))
      refine wpQuiet_nil ?_
      rintro w6 ⟨⟨_, b6⟩, rfl⟩
      go_wp2_with fail
      go_ret
      exact ⟨ret_bool HR.out.symm, q_trans B0.out b6⟩
set_option maxRecDepth 100000 in
set_option maxHeartbeats 2000000 in
theorem rinside_any (a b : X) (w : World) :
    Calls Try.prog 17 #[(.agg #[.int .i64 a.1, .int .i64 a.2]), (.agg #[.int .i64 b.1, .int .i64 b.2])] w fun e w' => e = .returned (.bool (inB a b)) ∧ Below w.heap.size w w' := by
  cases hoa : okX a with
  | false =>
    have HR := hid (in_no (a := a) (b := b) (by rw [hoa]; rfl))
    have HA := hid hoa
    clear hoa
    go_enter Try.func17, Try.ntmps17
    go_wp2_with fail
    have A0 := hid (at_two w a b 23)
    have B0 := hid (q_alloc (alloc_below w (.cells #[.int .i64 a.1, .int .i64 a.2] 23)) (.cells #[.int .i64 b.1, .int .i64 b.2] 23))
    generalize ((w.alloc (.cells #[.int .i64 a.1, .int .i64 a.2] 23)).alloc (.cells #[.int .i64 b.1, .int .i64 b.2] 23)) = W at A0 B0 ⊢
    refine (is_ris HA.out).mono ?_
    rintro e w1 ⟨rfl, b1⟩
    have A1 := hid (A0.out.1.below b1)
    have A2 := hid (A0.out.2.below b1)
    have B1 := hid (q_trans B0.out b1)
    obtain ⟨f2, f3⟩ := A2.out
    clear b1 A0 B0
    go_wp2_with fail
    go_ret
    exact ⟨ret_bool HR.out.symm, B1.out⟩
  | true =>
    cases hob : okX b with
    | false =>
      have HR := hid (in_no (a := a) (b := b) (by rw [hob]; simp))
      have HA := hid hoa
      have HB := hid hob
      clear hoa hob
      go_enter Try.func17, Try.ntmps17
      go_wp2_with fail
      have A0 := hid (at_two w a b 23)
      have B0 := hid (q_alloc (alloc_below w (.cells #[.int .i64 a.1, .int .i64 a.2] 23)) (.cells #[.int .i64 b.1, .int .i64 b.2] 23))
      generalize ((w.alloc (.cells #[.int .i64 a.1, .int .i64 a.2] 23)).alloc (.cells #[.int .i64 b.1, .int .i64 b.2] 23)) = W at A0 B0 ⊢
      refine (is_ris HA.out).mono ?_
      rintro e w1 ⟨rfl, b1⟩
      have A1 := hid (A0.out.1.below b1)
      have A2 := hid (A0.out.2.below b1)
      have B1 := hid (q_trans B0.out b1)
      obtain ⟨f2, f3⟩ := A2.out
      clear b1 A0 B0
      go_wp2_with fail
      clear f2 f3
      refine (is_ris HB.out).mono ?_
      rintro e w2 ⟨rfl, b2⟩
      have B2 := hid (q_trans B1.out b2)
      obtain ⟨f0, f1⟩ := A1.out.below b2
      obtain ⟨f2, f3⟩ := A2.out.below b2
      clear b2 A1 A2 B1
      go_wp2_with fail
      go_ret
      exact ⟨ret_bool HR.out.symm, B2.out⟩
    | true =>
      obtain ⟨a1, a2, a3⟩ := ok_iff.1 hoa
      obtain ⟨b1, b2, b3⟩ := ok_iff.1 hob
      have HA := hid hoa
      have HB := hid hob
      by_cases k1 : b.1 ≤ a.1
      · by_cases k2 : a.1 + a.2 ≤ b.1 + b.2
        · have HR : Hid (inB a b = true) := by unfold Hid; simp [inB, hoa, hob, k1, k2]
          have d1 : decide (b.1 ≤ a.1) = true := by simp [k1]
          have d2 : decide (a.1 + a.2 ≤ b.1 + b.2) = true := by simp [k2]
          clear hoa hob
          go_enter Try.func17, Try.ntmps17
          go_wp2_with fail
          have A0 := hid (at_two w a b 23)
          have B0 := hid (q_alloc (alloc_below w (.cells #[.int .i64 a.1, .int .i64 a.2] 23)) (.cells #[.int .i64 b.1, .int .i64 b.2] 23))
          generalize ((w.alloc (.cells #[.int .i64 a.1, .int .i64 a.2] 23)).alloc (.cells #[.int .i64 b.1, .int .i64 b.2] 23)) = W at A0 B0 ⊢
          refine (is_ris HA.out).mono ?_
          rintro e w1 ⟨rfl, b1⟩
          have A1 := hid (A0.out.1.below b1)
          have A2 := hid (A0.out.2.below b1)
          have B1 := hid (q_trans B0.out b1)
          obtain ⟨f2, f3⟩ := A2.out
          clear b1 A0 B0
          go_wp2_with fail
          clear f2 f3
          refine (is_ris HB.out).mono ?_
          rintro e w2 ⟨rfl, b2⟩
          have B2 := hid (q_trans B1.out b2)
          obtain ⟨f0, f1⟩ := A1.out.below b2
          obtain ⟨f2, f3⟩ := A2.out.below b2
          clear b2 A1 A2 B1
          go_wp2_with fail
          go_ret
          exact ⟨ret_bool HR.out.symm, B2.out⟩
        · have HR : Hid (inB a b = false) := by unfold Hid; simp [inB, hoa, hob, k1, k2]
          have d1 : decide (b.1 ≤ a.1) = true := by simp [k1]
          have d2 : decide (a.1 + a.2 ≤ b.1 + b.2) = false := by simp [k2]
          clear hoa hob k2
          go_enter Try.func17, Try.ntmps17
          go_wp2_with fail
          have A0 := hid (at_two w a b 23)
          have B0 := hid (q_alloc (alloc_below w (.cells #[.int .i64 a.1, .int .i64 a.2] 23)) (.cells #[.int .i64 b.1, .int .i64 b.2] 23))
          generalize ((w.alloc (.cells #[.int .i64 a.1, .int .i64 a.2] 23)).alloc (.cells #[.int .i64 b.1, .int .i64 b.2] 23)) = W at A0 B0 ⊢
          refine (is_ris HA.out).mono ?_
          rintro e w1 ⟨rfl, b1⟩
          have A1 := hid (A0.out.1.below b1)
          have A2 := hid (A0.out.2.below b1)
          have B1 := hid (q_trans B0.out b1)
          obtain ⟨f2, f3⟩ := A2.out
          clear b1 A0 B0
          go_wp2_with fail
          clear f2 f3
          refine (is_ris HB.out).mono ?_
          rintro e w2 ⟨rfl, b2⟩
          have B2 := hid (q_trans B1.out b2)
          obtain ⟨f0, f1⟩ := A1.out.below b2
          obtain ⟨f2, f3⟩ := A2.out.below b2
          clear b2 A1 A2 B1
          go_wp2_with fail
          go_ret
          exact ⟨ret_bool HR.out.symm, B2.out⟩
      · have HR : Hid (inB a b = false) := by unfold Hid; simp [inB, hoa, hob, k1]
        have d1 : decide (b.1 ≤ a.1) = false := by simp [k1]
        clear hoa hob k1
        go_enter Try.func17, Try.ntmps17
        go_wp2_with fail
        have A0 := hid (at_two w a b 23)
        have B0 := hid (q_alloc (alloc_below w (.cells #[.int .i64 a.1, .int .i64 a.2] 23)) (.cells #[.int .i64 b.1, .int .i64 b.2] 23))
        generalize ((w.alloc (.cells #[.int .i64 a.1, .int .i64 a.2] 23)).alloc (.cells #[.int .i64 b.1, .int .i64 b.2] 23)) = W at A0 B0 ⊢
        refine (is_ris HA.out).mono ?_
        rintro e w1 ⟨rfl, b1⟩
        have A1 := hid (A0.out.1.below b1)
        have A2 := hid (A0.out.2.below b1)
        have B1 := hid (q_trans B0.out b1)
        obtain ⟨f2, f3⟩ := A2.out
        clear b1 A0 B0
        go_wp2_with fail
        clear f2 f3
        refine (is_ris HB.out).mono ?_
        rintro e w2 ⟨rfl, b2⟩
        have B2 := hid (q_trans B1.out b2)
        obtain ⟨f0, f1⟩ := A1.out.below b2
        obtain ⟨f2, f3⟩ := A2.out.below b2
        clear b2 A1 A2 B1
        go_wp2_with fail
        go_ret
        exact ⟨ret_bool HR.out.symm, B2.out⟩
set_option maxRecDepth 100000 in
set_option maxHeartbeats 2000000 in
theorem rmeet_any (a b : X) (w : World) :
    Calls Try.prog 19 #[(.agg #[.int .i64 a.1, .int .i64 a.2]), (.agg #[.int .i64 b.1, .int .i64 b.2])] w fun e w' => e = .returned (.bool (meB a b)) ∧ Below w.heap.size w w' := by
  cases hoa : okX a with
  | false =>
    have HR := hid (me_no (a := a) (b := b) (by rw [hoa]; rfl))
    have HA := hid hoa
    clear hoa
    go_enter Try.func19, Try.ntmps19
    go_wp2_with fail
    have A0 := hid (at_two w a b 23)
    have B0 := hid (q_alloc (alloc_below w (.cells #[.int .i64 a.1, .int .i64 a.2] 23)) (.cells #[.int .i64 b.1, .int .i64 b.2] 23))
    generalize ((w.alloc (.cells #[.int .i64 a.1, .int .i64 a.2] 23)).alloc (.cells #[.int .i64 b.1, .int .i64 b.2] 23)) = W at A0 B0 ⊢
    refine (is_ris HA.out).mono ?_
    rintro e w1 ⟨rfl, b1⟩
    have A1 := hid (A0.out.1.below b1)
    have A2 := hid (A0.out.2.below b1)
    have B1 := hid (q_trans B0.out b1)
    obtain ⟨f2, f3⟩ := A2.out
    clear b1 A0 B0
    go_wp2_with fail
    go_ret
    exact ⟨ret_bool HR.out.symm, B1.out⟩
  | true =>
    cases hob : okX b with
    | false =>
      have HR := hid (me_no (a := a) (b := b) (by rw [hob]; simp))
      have HA := hid hoa
      have HB := hid hob
      clear hoa hob
      go_enter Try.func19, Try.ntmps19
      go_wp2_with fail
      have A0 := hid (at_two w a b 23)
      have B0 := hid (q_alloc (alloc_below w (.cells #[.int .i64 a.1, .int .i64 a.2] 23)) (.cells #[.int .i64 b.1, .int .i64 b.2] 23))
      generalize ((w.alloc (.cells #[.int .i64 a.1, .int .i64 a.2] 23)).alloc (.cells #[.int .i64 b.1, .int .i64 b.2] 23)) = W at A0 B0 ⊢
      refine (is_ris HA.out).mono ?_
      rintro e w1 ⟨rfl, b1⟩
      have A1 := hid (A0.out.1.below b1)
      have A2 := hid (A0.out.2.below b1)
      have B1 := hid (q_trans B0.out b1)
      obtain ⟨f2, f3⟩ := A2.out
      clear b1 A0 B0
      go_wp2_with fail
      clear f2 f3
      refine (is_ris HB.out).mono ?_
      rintro e w2 ⟨rfl, b2⟩
      have B2 := hid (q_trans B1.out b2)
      obtain ⟨f0, f1⟩ := A1.out.below b2
      obtain ⟨f2, f3⟩ := A2.out.below b2
      clear b2 A1 A2 B1
      go_wp2_with fail
      go_ret
      exact ⟨ret_bool HR.out.symm, B2.out⟩
    | true =>
      obtain ⟨a1, a2, a3⟩ := ok_iff.1 hoa
      obtain ⟨b1, b2, b3⟩ := ok_iff.1 hob
      have HA := hid hoa
      have HB := hid hob
      by_cases k1 : a.1 < b.1 + b.2
      · by_cases k2 : b.1 < a.1 + a.2
        · have HR : Hid (meB a b = true) := by unfold Hid; simp [meB, hoa, hob, k1, k2]
          have d1 : decide (a.1 < b.1 + b.2) = true := by simp [k1]
          have d2 : decide (b.1 < a.1 + a.2) = true := by simp [k2]
          clear hoa hob
          go_enter Try.func19, Try.ntmps19
          go_wp2_with fail
          have A0 := hid (at_two w a b 23)
          have B0 := hid (q_alloc (alloc_below w (.cells #[.int .i64 a.1, .int .i64 a.2] 23)) (.cells #[.int .i64 b.1, .int .i64 b.2] 23))
          generalize ((w.alloc (.cells #[.int .i64 a.1, .int .i64 a.2] 23)).alloc (.cells #[.int .i64 b.1, .int .i64 b.2] 23)) = W at A0 B0 ⊢
          refine (is_ris HA.out).mono ?_
          rintro e w1 ⟨rfl, b1⟩
          have A1 := hid (A0.out.1.below b1)
          have A2 := hid (A0.out.2.below b1)
          have B1 := hid (q_trans B0.out b1)
          obtain ⟨f2, f3⟩ := A2.out
          clear b1 A0 B0
          go_wp2_with fail
          clear f2 f3
          refine (is_ris HB.out).mono ?_
          rintro e w2 ⟨rfl, b2⟩
          have B2 := hid (q_trans B1.out b2)
          obtain ⟨f0, f1⟩ := A1.out.below b2
          obtain ⟨f2, f3⟩ := A2.out.below b2
          clear b2 A1 A2 B1
          go_wp2_with fail
          go_ret
          exact ⟨ret_bool HR.out.symm, B2.out⟩
        · have HR : Hid (meB a b = false) := by unfold Hid; simp [meB, hoa, hob, k1, k2]
          have d1 : decide (a.1 < b.1 + b.2) = true := by simp [k1]
          have d2 : decide (b.1 < a.1 + a.2) = false := by simp [k2]
          clear hoa hob k2
          go_enter Try.func19, Try.ntmps19
          go_wp2_with fail
          have A0 := hid (at_two w a b 23)
          have B0 := hid (q_alloc (alloc_below w (.cells #[.int .i64 a.1, .int .i64 a.2] 23)) (.cells #[.int .i64 b.1, .int .i64 b.2] 23))
          generalize ((w.alloc (.cells #[.int .i64 a.1, .int .i64 a.2] 23)).alloc (.cells #[.int .i64 b.1, .int .i64 b.2] 23)) = W at A0 B0 ⊢
          refine (is_ris HA.out).mono ?_
          rintro e w1 ⟨rfl, b1⟩
          have A1 := hid (A0.out.1.below b1)
          have A2 := hid (A0.out.2.below b1)
          have B1 := hid (q_trans B0.out b1)
          obtain ⟨f2, f3⟩ := A2.out
          clear b1 A0 B0
          go_wp2_with fail
          clear f2 f3
          refine (is_ris HB.out).mono ?_
          rintro e w2 ⟨rfl, b2⟩
          have B2 := hid (q_trans B1.out b2)
          obtain ⟨f0, f1⟩ := A1.out.below b2
          obtain ⟨f2, f3⟩ := A2.out.below b2
          clear b2 A1 A2 B1
          go_wp2_with fail
          go_ret
          exact ⟨ret_bool HR.out.symm, B2.out⟩
      · have HR : Hid (meB a b = false) := by unfold Hid; simp [meB, hoa, hob, k1]
        have d1 : decide (a.1 < b.1 + b.2) = false := by simp [k1]
        clear hoa hob k1
        go_enter Try.func19, Try.ntmps19
        go_wp2_with fail
        have A0 := hid (at_two w a b 23)
        have B0 := hid (q_alloc (alloc_below w (.cells #[.int .i64 a.1, .int .i64 a.2] 23)) (.cells #[.int .i64 b.1, .int .i64 b.2] 23))
        generalize ((w.alloc (.cells #[.int .i64 a.1, .int .i64 a.2] 23)).alloc (.cells #[.int .i64 b.1, .int .i64 b.2] 23)) = W at A0 B0 ⊢
        refine (is_ris HA.out).mono ?_
        rintro e w1 ⟨rfl, b1⟩
        have A1 := hid (A0.out.1.below b1)
        have A2 := hid (A0.out.2.below b1)
        have B1 := hid (q_trans B0.out b1)
        obtain ⟨f2, f3⟩ := A2.out
        clear b1 A0 B0
        go_wp2_with fail
        clear f2 f3
        refine (is_ris HB.out).mono ?_
        rintro e w2 ⟨rfl, b2⟩
        have B2 := hid (q_trans B1.out b2)
        obtain ⟨f0, f1⟩ := A1.out.below b2
        obtain ⟨f2, f3⟩ := A2.out.below b2
        clear b2 A1 A2 B1
        go_wp2_with fail
        go_ret
        exact ⟨ret_bool HR.out.symm, B2.out⟩
end Go.Proofs.Yteohoipkdjhllaa.Ca
