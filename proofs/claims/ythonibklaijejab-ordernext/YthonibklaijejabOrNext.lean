/- OrderNext holds. -/
import Derived.Test.YthonibklaijejabOrSay
namespace Go.Proofs.Ythonibklaijejab.Or
open Go.RowKit

section
variable {o s p q x : Int} {r : Bool} {w : World}
theorem cell2 (h : cellK (o, s) = x) : Calls Try.prog 9 #[.agg #[.int .i64 o, .int .i64 s]] w fun e w' => e = .returned (.int .i64 x) ∧ Below w.heap.size w w' := is_cell (a := (o, s)) (x := x) h
theorem less2 (h : ltK (o, s) (p, q) = r) : Calls Try.prog 8 #[.agg #[.int .i64 o, .int .i64 s], .agg #[.int .i64 p, .int .i64 q]] w fun e w' => e = .returned (.bool r) ∧ Below w.heap.size w w' := less_is (a := (o, s)) (b := (p, q)) (r := r) h w
theorem check2 (h : chk (o, s) = x) : Calls Try.prog 6 #[.agg #[.int .i64 o, .int .i64 s]] w fun e w' => e = .returned (.int .i64 x) ∧ Below w.heap.size w w' := by
  refine (check_any (o, s) w).mono ?_
  rintro e w' ⟨rfl, g⟩
  exact ⟨by rw [h], g.below⟩
end
theorem chk_yes {k : K} (h : okK k = true) : chk k = 0 := by simp [chk, h]
theorem chk_no {k : K} (h : okK k = false) : chk k = 2 := by simp [chk, h]
set_option maxRecDepth 100000 in
set_option maxHeartbeats 2000000 in
theorem next_out (o s : Int) (w : World) (h : chk (o, s) = 2 ∨ (chk (o, s) = 0 ∧ s < 0)) :
    Calls Try.prog 3 #[.int .i64 o, .int .i64 s] w fun e w' => e = .returned (.bool true) ∧ Below w.heap.size w w' := by
  rcases h with h | ⟨h, h'⟩
  all_goals
    have HC := hid h
    clear h
    go_enter Try.func3, Try.ntmps3
    go_wp2_with fail
    refine (key_any _ _ _).mono ?_
    rintro e w1 ⟨rfl, b1⟩
    have L1 := hid b1
    clear b1
    go_wp2_with fail
    refine (check2 HC.out).mono ?_
    rintro e w2 ⟨rfl, b2⟩
    have L2 := hid (q_trans (q_alloc L1.out _) b2)
    clear b2 L1
    go_wp2_with (first | (go_at_call 7; refine (live_any _).mono ?_; rintro e w9 ⟨rfl, b9⟩) | (go_at_call 5; refine (num_any _ _).mono ?_; rintro e w' ⟨rfl, rfl⟩))
    go_ret
    exact ⟨rfl, q_trans L2.out b9⟩
set_option maxRecDepth 100000 in
set_option maxHeartbeats 4000000 in
theorem next_in (o s c : Int) (w : World) (h0 : 0 ≤ o) (h1 : o ≤ 1023) (h2 : 0 ≤ s) (h3 : s ≤ 7) (hc : (o = 1023 ∧ c = 2) ∨ (o < 1023 ∧ c = 0)) :
    Calls Try.prog 3 #[.int .i64 o, .int .i64 s] w fun e w' => e = .returned (.bool true) ∧ Below w.heap.size w w' := by
  have ok1 : okK (o, s) = true := ok_iff.2 (by simp only; omega)
  have ok2 : okK (o, -1) = true := ok_iff.2 (by simp only; omega)
  have hx := cell_ok ok1
  have hy := cell_ok ok2
  have KC := hid (chk_yes ok1)
  have KL1 : Hid (ltK (o, -1) (o, s) = true) := lt_iff.2 (.inr ⟨rfl, by simp only; omega⟩)
  have KL2 : Hid (ltK (o, s) (o + 1, -1) = true) := lt_iff.2 (by simp only; omega)
  obtain ⟨x, hx'⟩ : ∃ x, cellK (o, s) = x := ⟨_, rfl⟩
  obtain ⟨y, hy'⟩ : ∃ y, cellK (o, -1) = y := ⟨_, rfl⟩
  obtain ⟨z, hz'⟩ : ∃ z, cellK (o + 1, -1) = z := ⟨_, rfl⟩
  have KX := hid hx'
  have KY := hid hy'
  have KZ := hid hz'
  rw [hx'] at hx
  rw [hy'] at hy
  simp only at hx hy
  have e1 : x - y = s + 1 := by omega
  have r1 : -100000 ≤ x := by omega
  have r2 : x ≤ 100000 := by omega
  have r3 : -100000 ≤ y := by omega
  have r4 : y ≤ 100000 := by omega
  have KN : Hid (chk (o + 1, -1) = c) := by
    rcases hc with ⟨ho, rfl⟩ | ⟨ho, rfl⟩
    · exact chk_no (ok_not.2 (by simp only; omega))
    · exact chk_yes (ok_iff.2 (by simp only; omega))
  have KE : Hid (c = 0 → z - x = 8 - s ∧ -100000 ≤ z ∧ z ≤ 100000) := by
    intro e
    have hz := cell_ok (k := (o + 1, -1)) (ok_iff.2 (by simp only; omega))
    rw [hz'] at hz
    simp only at hz
    omega
  have KD : Hid (c = 2 ∨ c = 0) := by unfold Hid; omega
  clear ok1 ok2 hx hy hx' hy' hz' hc
  go_enter Try.func3, Try.ntmps3
  go_wp2_with fail
  refine (key_any _ _ _).mono ?_
  rintro e w1 ⟨rfl, b1⟩
  have L1 := hid b1
  clear b1
  go_wp2_with fail
  refine (check2 KC.out).mono ?_
  rintro e w2 ⟨rfl, b2⟩
  have A2 := hid ((at_new w1 (o, s) 23).below b2)
  have L2 := hid (q_trans (q_alloc L1.out (.cells #[.int .i64 o, .int .i64 s] 23)) b2)
  clear b2 L1
  go_wp2_with (go_at_call 5; refine (num_any _ _).mono ?_; rintro e w' ⟨rfl, hw⟩; rw [hw]; clear hw w')
  obtain ⟨f0, f1⟩ := A2.out.always
  simp only at f0 f1
  have hne : Nonempty (Later w2) := ⟨⟨w2, Below.refl _ _⟩⟩
  refine wp_region_later (by kernel_rfl) (by kernel_rfl) ?_
  repeat (go_big_quiet_step ((first | (go_at_call 4; exact later_call (key_any _ _ _)) | (go_at_call 8; exact later_call (less2 KL1.out)) | (go_at_call 9; exact later_call (cell2 (by first | exact KX.out | exact KY.out))))))
  refine wpQuiet_nil ?_
  rintro w3 ⟨⟨_, b3⟩, rfl⟩
  have A3 := hid (A2.out.below b3)
  have L3 := hid (q_trans L2.out b3)
  clear f0 f1 hne b3 A2 L2
  go_wp2_with fail
  refine (key_any _ _ _).mono ?_
  rintro e w4 ⟨rfl, b4⟩
  have A4 := hid ((A3.out.below b4).below (alloc_below w4 (.cells #[.int .i64 (o + 1), .int .i64 (-1)] 23)))
  have L4 := hid (q_alloc (q_trans L3.out b4) (.cells #[.int .i64 (o + 1), .int .i64 (-1)] 23))
  have B4 := hid (at_new w4 (o + 1, -1) 23)
  clear b4 A3 L3
  go_wp2_with fail
  generalize hW : w4.alloc _ = W
  rw [hW] at A4 L4 B4
  clear hW
  obtain ⟨f0, f1⟩ := A4.out.always
  obtain ⟨f2, f3⟩ := B4.out.always
  simp only at f0 f1 f2 f3
  have hne : Nonempty (Later W) := ⟨⟨W, Below.refl _ _⟩⟩
  rcases KD.out with rfl | rfl
  · clear KE
    refine wp_region_later (by kernel_rfl) (by kernel_rfl) ?_
    repeat (go_big_quiet_step ((first | (go_at_call 8; exact later_call (less2 KL2.out)) | (go_at_call 6; exact later_call (check2 KN.out)) | (go_at_call 5; exact later_num _) | (go_at_call 7; exact later_call (live_any _)))))
    refine wpQuiet_nil ?_
    rintro w5 ⟨⟨_, b5⟩, rfl⟩
    have L5 := hid (q_trans L4.out b5)
    clear f0 f1 f2 f3 hne b5
    go_wp2_with fail
    go_ret
    exact ⟨rfl, L5.out⟩
  · obtain ⟨e2, r5, r6⟩ := KE.out rfl
    clear KE
    refine wp_region_later (by kernel_rfl) (by kernel_rfl) ?_
    repeat (go_big_quiet_step ((first | (go_at_call 8; exact later_call (less2 KL2.out)) | (go_at_call 6; exact later_call (check2 KN.out)) | (go_at_call 5; exact later_num _) | (go_at_call 9; exact later_call (cell2 (by first | exact KX.out | exact KZ.out))) | (go_at_call 7; exact later_call (live_any _)))))
    refine wpQuiet_nil ?_
    rintro w5 ⟨⟨_, b5⟩, rfl⟩
    have L5 := hid (q_trans L4.out b5)
    clear f0 f1 f2 f3 hne b5
    go_wp2_with fail
    go_ret
    exact ⟨rfl, L5.out⟩
/-- OrderNext ANSWERS true. -/
theorem next_any (o s : Int) (w : World) (_ : InI o) (_ : InI s) :
    Calls Try.prog 3 #[.int .i64 o, .int .i64 s] w fun e w' => e = .returned (.bool true) ∧ Below w.heap.size w w' := by
  cases hok : okK (o, s) with
  | false => exact next_out o s w (.inl (chk_no hok))
  | true =>
    have h := ok_iff.1 hok
    simp only at h
    by_cases hs : s < 0
    · exact next_out o s w (.inr ⟨chk_yes hok, hs⟩)
    · by_cases ho : o = 1023
      · exact next_in o s 2 w h.1 h.2.1 (by omega) h.2.2.2 (.inl ⟨ho, rfl⟩)
      · exact next_in o s 0 w h.1 h.2.1 (by omega) h.2.2.2 (.inr ⟨by omega, rfl⟩)
end Go.Proofs.Ythonibklaijejab.Or
