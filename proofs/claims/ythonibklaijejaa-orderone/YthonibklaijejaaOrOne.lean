/- OrderOne holds. -/
import Derived.Test.YthonibklaijejaaOrSay
namespace Go.Proofs.Ythonibklaijejaa.Or
open Go.RowKit

theorem cells_lt {a b : K} (ha : 0 ≤ cellK a) (hb : 0 ≤ cellK b) : ltK a b = decide (cellK a < cellK b) := by
  have oa : okK a = true := by cases h : okK a with | true => rfl | false => rw [cell_no h] at ha; omega
  have ob : okK b = true := by cases h : okK b with | true => rfl | false => rw [cell_no h] at hb; omega
  rw [cell_ok oa, cell_ok ob]
  rw [ok_iff] at oa ob
  cases h : ltK a b with
  | true =>
    rw [lt_iff] at h
    rw [eq_comm, decide_eq_true_eq]
    omega
  | false =>
    rw [lt_not] at h
    rw [eq_comm, decide_eq_false_iff_not]
    omega
/-- One of three. -/
theorem three (a b : K) : (a = b ∧ ltK a b = false ∧ ltK b a = false) ∨ (¬ a = b ∧ ltK a b = true ∧ ltK b a = false) ∨ (¬ a = b ∧ ltK a b = false ∧ ltK b a = true) := by
  by_cases h : a = b
  · subst h
    exact .inl ⟨rfl, lt_irr a, lt_irr a⟩
  · cases h1 : ltK a b with
    | true => exact .inr (.inl ⟨h, rfl, lt_anti h1⟩)
    | false =>
      cases h2 : ltK b a with
      | true => exact .inr (.inr ⟨h, rfl, rfl⟩)
      | false => exact absurd (lt_tot h1 h2) h
/-- What the last statement asks of two cells. -/
theorem cells_say (a b : K) : (cellK a < 0) ∨ (0 ≤ cellK a ∧ cellK b < 0) ∨ (0 ≤ cellK a ∧ 0 ≤ cellK b ∧ ltK a b = decide (cellK a < cellK b)) := by
  by_cases h1 : 0 ≤ cellK a
  · by_cases h2 : 0 ≤ cellK b
    · exact .inr (.inr ⟨h1, h2, cells_lt h1 h2⟩)
    · exact .inr (.inl ⟨h1, by omega⟩)
  · exact .inl (by omega)
/-- Three keys in three boxes. -/
structure Box3 (w : World) (p : Nat) (a b c : K) : Prop where
  a0 : w.cell? ⟨p, 0, none⟩ = some (.int .i64 a.1)
  a1 : w.cell? ⟨p, 1, none⟩ = some (.int .i64 a.2)
  b0 : w.cell? ⟨p + 1, 0, none⟩ = some (.int .i64 b.1)
  b1 : w.cell? ⟨p + 1, 1, none⟩ = some (.int .i64 b.2)
  c0 : w.cell? ⟨p + 1 + 1, 0, none⟩ = some (.int .i64 c.1)
  c1 : w.cell? ⟨p + 1 + 1, 1, none⟩ = some (.int .i64 c.2)
theorem Box3.below {w w' : World} {p : Nat} {a b c : K} (h : Box3 w p a b c) (hb : Below w.heap.size w w') : Box3 w' p a b c :=
  ⟨(hb.cell (World.block_lt_of_cell? w _ h.a0)).trans h.a0, (hb.cell (World.block_lt_of_cell? w _ h.a1)).trans h.a1, (hb.cell (World.block_lt_of_cell? w _ h.b0)).trans h.b0, (hb.cell (World.block_lt_of_cell? w _ h.b1)).trans h.b1, (hb.cell (World.block_lt_of_cell? w _ h.c0)).trans h.c0, (hb.cell (World.block_lt_of_cell? w _ h.c1)).trans h.c1⟩
theorem box3_new (w : World) (a b c : K) (t : TypeId) : Box3 (((w.alloc (.cells #[.int .i64 a.1, .int .i64 a.2] t)).alloc (.cells #[.int .i64 b.1, .int .i64 b.2] t)).alloc (.cells #[.int .i64 c.1, .int .i64 c.2] t)) w.heap.size a b c := by
  have h1 := ((at_new w a t).below (alloc_below _ (.cells #[.int .i64 b.1, .int .i64 b.2] t))).below (alloc_below _ (.cells #[.int .i64 c.1, .int .i64 c.2] t))
  have h2 := (at_new2 w a b t).below (alloc_below _ (.cells #[.int .i64 c.1, .int .i64 c.2] t))
  have h3 := at_new ((w.alloc (.cells #[.int .i64 a.1, .int .i64 a.2] t)).alloc (.cells #[.int .i64 b.1, .int .i64 b.2] t)) c t
  rw [show ((w.alloc (.cells #[.int .i64 a.1, .int .i64 a.2] t)).alloc (.cells #[.int .i64 b.1, .int .i64 b.2] t)).heap.size = w.heap.size + 1 + 1 by simp] at h3
  exact ⟨h1.c0, h1.c1, h2.c0, h2.c1, h3.c0, h3.c1⟩
set_option maxRecDepth 100000 in
set_option maxHeartbeats 4000000 in
theorem one_any (a b c : K) (w : World) :
    Calls Try.prog 5 #[(.agg #[.int .i64 a.1, .int .i64 a.2]), (.agg #[.int .i64 b.1, .int .i64 b.2]), (.agg #[.int .i64 c.1, .int .i64 c.2])] w fun e w' => e = .returned (.bool true) ∧ Below w.heap.size w w' := by
  have hsay := cells_say a b
  obtain ⟨x, hx⟩ : ∃ x, cellK a = x := ⟨_, rfl⟩
  obtain ⟨y, hy⟩ : ∃ y, cellK b = y := ⟨_, rfl⟩
  rw [hx, hy] at hsay
  have HX := hid hx
  have HY := hid hy
  have HSAY := hid hsay
  have HTR : Hid (ltK a b = true → ltK b c = true → ltK a c = true) := lt_tr
  clear hx hy hsay
  rcases three a b with ⟨h0, h1, h2⟩ | ⟨h0, h1, h2⟩ | ⟨h0, h1, h2⟩
  · have he := eq_yes h0
    clear h0
    go_enter Try.func5, Try.ntmps5
    go_wp2_with fail
    generalize hW : World.alloc _ _ = W
    have H1 : Hid (Box3 W w.heap.size a b c) := by rw [← hW]; exact box3_new w a b c _
    have L1 : Hid (Below w.heap.size w W) := by rw [← hW]; exact q_alloc (q_alloc (alloc_below w _) _) _
    clear hW
    obtain ⟨a0, a1, b0, b1, c0, c1⟩ := H1.out
    have f0 : ∀ g : Later W, g.now.cell? ⟨w.heap.size, 0, none⟩ = some (.int .i64 a.1) := fun g => g.cell a0
    have f1 : ∀ g : Later W, g.now.cell? ⟨w.heap.size, 1, none⟩ = some (.int .i64 a.2) := fun g => g.cell a1
    have f2 : ∀ g : Later W, g.now.cell? ⟨w.heap.size + 1, 0, none⟩ = some (.int .i64 b.1) := fun g => g.cell b0
    have f3 : ∀ g : Later W, g.now.cell? ⟨w.heap.size + 1, 1, none⟩ = some (.int .i64 b.2) := fun g => g.cell b1
    have hne : Nonempty (Later W) := ⟨⟨W, Below.refl _ _⟩⟩
    refine wp_region_later (by kernel_rfl) (by kernel_rfl) ?_
    repeat (go_big_quiet_step ((go_at_call 14; exact later_call (less_is (by first | exact h1 | exact h2) _))))
    refine wpQuiet_nil ?_
    rintro w2 ⟨⟨_, b2⟩, rfl⟩
    have H2 := hid (H1.out.below b2)
    have L2 := hid (q_trans L1.out b2)
    clear f0 f1 f2 f3 hne b2 a0 a1 b0 b1 c0 c1 H1 L1 he
    obtain ⟨a0, a1, b0, b1, c0, c1⟩ := H2.out
    go_wp2_with fail
    refine (less_is h1 _).mono ?_
    rintro e w5 ⟨rfl, bb⟩
    have H5 := hid (H2.out.below bb)
    have L5 := hid (q_trans L2.out bb)
    clear bb a0 a1 b0 b1 c0 c1 H2 L2
    obtain ⟨a0, a1, b0, b1, c0, c1⟩ := H5.out
    go_wp2_with fail
    have f0 : ∀ g : Later w5, g.now.cell? ⟨w.heap.size, 0, none⟩ = some (.int .i64 a.1) := fun g => g.cell a0
    have f1 : ∀ g : Later w5, g.now.cell? ⟨w.heap.size, 1, none⟩ = some (.int .i64 a.2) := fun g => g.cell a1
    have f2 : ∀ g : Later w5, g.now.cell? ⟨w.heap.size + 1, 0, none⟩ = some (.int .i64 b.1) := fun g => g.cell b0
    have f3 : ∀ g : Later w5, g.now.cell? ⟨w.heap.size + 1, 1, none⟩ = some (.int .i64 b.2) := fun g => g.cell b1
    have hne : Nonempty (Later w5) := ⟨⟨w5, Below.refl _ _⟩⟩
    refine wp_region_later (by kernel_rfl) (by kernel_rfl) ?_
    repeat (go_big_quiet_step ((go_at_call 16; exact later_call (is_cell (by first | exact HX.out | exact HY.out)))))
    refine wpQuiet_nil ?_
    rintro w6 ⟨⟨_, b6⟩, rfl⟩
    have H6 := hid (H5.out.below b6)
    have L6 := hid (q_trans L5.out b6)
    clear f0 f1 f2 f3 hne b6 a0 a1 b0 b1 c0 c1 H5 L5
    obtain ⟨a0, a1, b0, b1, c0, c1⟩ := H6.out
    rcases HSAY.out with hA | ⟨hA, hB⟩ | ⟨hA, hB, hC⟩
    · go_wp2_with (go_at_call 18; refine (live_any _).mono ?_; rintro e w9 ⟨rfl, b9⟩)
      go_ret
      exact ⟨rfl, q_trans L6.out b9⟩
    · go_wp2_with (go_at_call 18; refine (live_any _).mono ?_; rintro e w9 ⟨rfl, b9⟩)
      go_ret
      exact ⟨rfl, q_trans L6.out b9⟩
    · have hD : ¬ x < y := of_decide_eq_false (hC.symm.trans h1)
      clear hC
      go_wp2_with fail
      refine (less_is h1 _).mono ?_
      rintro e w7 ⟨rfl, b7⟩
      have L7 := hid (q_trans L6.out b7)
      clear b7 a0 a1 b0 b1 c0 c1
      go_wp2_with (go_at_call 18; refine (live_any _).mono ?_; rintro e w9 ⟨rfl, b9⟩)
      go_ret
      exact ⟨by simp; omega, q_trans L7.out b9⟩
  · have he := eq_no h0
    clear h0
    go_enter Try.func5, Try.ntmps5
    go_wp2_with fail
    generalize hW : World.alloc _ _ = W
    have H1 : Hid (Box3 W w.heap.size a b c) := by rw [← hW]; exact box3_new w a b c _
    have L1 : Hid (Below w.heap.size w W) := by rw [← hW]; exact q_alloc (q_alloc (alloc_below w _) _) _
    clear hW
    obtain ⟨a0, a1, b0, b1, c0, c1⟩ := H1.out
    have f0 : ∀ g : Later W, g.now.cell? ⟨w.heap.size, 0, none⟩ = some (.int .i64 a.1) := fun g => g.cell a0
    have f1 : ∀ g : Later W, g.now.cell? ⟨w.heap.size, 1, none⟩ = some (.int .i64 a.2) := fun g => g.cell a1
    have f2 : ∀ g : Later W, g.now.cell? ⟨w.heap.size + 1, 0, none⟩ = some (.int .i64 b.1) := fun g => g.cell b0
    have f3 : ∀ g : Later W, g.now.cell? ⟨w.heap.size + 1, 1, none⟩ = some (.int .i64 b.2) := fun g => g.cell b1
    have hne : Nonempty (Later W) := ⟨⟨W, Below.refl _ _⟩⟩
    refine wp_region_later (by kernel_rfl) (by kernel_rfl) ?_
    repeat (go_big_quiet_step ((go_at_call 14; exact later_call (less_is (by first | exact h1 | exact h2) _))))
    refine wpQuiet_nil ?_
    rintro w2 ⟨⟨_, b2⟩, rfl⟩
    have H2 := hid (H1.out.below b2)
    have L2 := hid (q_trans L1.out b2)
    clear f0 f1 f2 f3 hne b2 a0 a1 b0 b1 c0 c1 H1 L1 he
    obtain ⟨a0, a1, b0, b1, c0, c1⟩ := H2.out
    go_wp2_with fail
    refine (less_is h1 _).mono ?_
    rintro e w3 ⟨rfl, bb⟩
    have H3 := hid (H2.out.below bb)
    have L3 := hid (q_trans L2.out bb)
    clear bb a0 a1 b0 b1 c0 c1 H2 L2
    obtain ⟨a0, a1, b0, b1, c0, c1⟩ := H3.out
    go_wp2_with fail
    cases h3 : ltK b c with
    | false =>
      refine (less_is h3 _).mono ?_
      rintro e w5 ⟨rfl, bb⟩
      have H5 := hid (H3.out.below bb)
      have L5 := hid (q_trans L3.out bb)
      clear bb a0 a1 b0 b1 c0 c1 H3 L3
      obtain ⟨a0, a1, b0, b1, c0, c1⟩ := H5.out
      go_wp2_with fail
      have f0 : ∀ g : Later w5, g.now.cell? ⟨w.heap.size, 0, none⟩ = some (.int .i64 a.1) := fun g => g.cell a0
      have f1 : ∀ g : Later w5, g.now.cell? ⟨w.heap.size, 1, none⟩ = some (.int .i64 a.2) := fun g => g.cell a1
      have f2 : ∀ g : Later w5, g.now.cell? ⟨w.heap.size + 1, 0, none⟩ = some (.int .i64 b.1) := fun g => g.cell b0
      have f3 : ∀ g : Later w5, g.now.cell? ⟨w.heap.size + 1, 1, none⟩ = some (.int .i64 b.2) := fun g => g.cell b1
      have hne : Nonempty (Later w5) := ⟨⟨w5, Below.refl _ _⟩⟩
      refine wp_region_later (by kernel_rfl) (by kernel_rfl) ?_
      repeat (go_big_quiet_step ((go_at_call 16; exact later_call (is_cell (by first | exact HX.out | exact HY.out)))))
      refine wpQuiet_nil ?_
      rintro w6 ⟨⟨_, b6⟩, rfl⟩
      have H6 := hid (H5.out.below b6)
      have L6 := hid (q_trans L5.out b6)
      clear f0 f1 f2 f3 hne b6 a0 a1 b0 b1 c0 c1 H5 L5
      obtain ⟨a0, a1, b0, b1, c0, c1⟩ := H6.out
      rcases HSAY.out with hA | ⟨hA, hB⟩ | ⟨hA, hB, hC⟩
      · go_wp2_with (go_at_call 18; refine (live_any _).mono ?_; rintro e w9 ⟨rfl, b9⟩)
        go_ret
        exact ⟨rfl, q_trans L6.out b9⟩
      · go_wp2_with (go_at_call 18; refine (live_any _).mono ?_; rintro e w9 ⟨rfl, b9⟩)
        go_ret
        exact ⟨rfl, q_trans L6.out b9⟩
      · have hD : x < y := of_decide_eq_true (hC.symm.trans h1)
        clear hC
        go_wp2_with fail
        refine (less_is h1 _).mono ?_
        rintro e w7 ⟨rfl, b7⟩
        have L7 := hid (q_trans L6.out b7)
        clear b7 a0 a1 b0 b1 c0 c1
        go_wp2_with (go_at_call 18; refine (live_any _).mono ?_; rintro e w9 ⟨rfl, b9⟩)
        go_ret
        exact ⟨rfl, q_trans L7.out b9⟩
    | true =>
      have h4 := HTR.out h1 h3
      refine (less_is h3 _).mono ?_
      rintro e w4 ⟨rfl, bb⟩
      have H4 := hid (H3.out.below bb)
      have L4 := hid (q_trans L3.out bb)
      clear bb a0 a1 b0 b1 c0 c1 H3 L3
      obtain ⟨a0, a1, b0, b1, c0, c1⟩ := H4.out
      go_wp2_with fail
      refine (less_is h4 _).mono ?_
      rintro e w5 ⟨rfl, bb⟩
      have H5 := hid (H4.out.below bb)
      have L5 := hid (q_trans L4.out bb)
      clear bb a0 a1 b0 b1 c0 c1 H4 L4
      obtain ⟨a0, a1, b0, b1, c0, c1⟩ := H5.out
      go_wp2_with fail
      have f0 : ∀ g : Later w5, g.now.cell? ⟨w.heap.size, 0, none⟩ = some (.int .i64 a.1) := fun g => g.cell a0
      have f1 : ∀ g : Later w5, g.now.cell? ⟨w.heap.size, 1, none⟩ = some (.int .i64 a.2) := fun g => g.cell a1
      have f2 : ∀ g : Later w5, g.now.cell? ⟨w.heap.size + 1, 0, none⟩ = some (.int .i64 b.1) := fun g => g.cell b0
      have f3 : ∀ g : Later w5, g.now.cell? ⟨w.heap.size + 1, 1, none⟩ = some (.int .i64 b.2) := fun g => g.cell b1
      have hne : Nonempty (Later w5) := ⟨⟨w5, Below.refl _ _⟩⟩
      refine wp_region_later (by kernel_rfl) (by kernel_rfl) ?_
      repeat (go_big_quiet_step ((go_at_call 16; exact later_call (is_cell (by first | exact HX.out | exact HY.out)))))
      refine wpQuiet_nil ?_
      rintro w6 ⟨⟨_, b6⟩, rfl⟩
      have H6 := hid (H5.out.below b6)
      have L6 := hid (q_trans L5.out b6)
      clear f0 f1 f2 f3 hne b6 a0 a1 b0 b1 c0 c1 H5 L5
      obtain ⟨a0, a1, b0, b1, c0, c1⟩ := H6.out
      rcases HSAY.out with hA | ⟨hA, hB⟩ | ⟨hA, hB, hC⟩
      · go_wp2_with (go_at_call 18; refine (live_any _).mono ?_; rintro e w9 ⟨rfl, b9⟩)
        go_ret
        exact ⟨rfl, q_trans L6.out b9⟩
      · go_wp2_with (go_at_call 18; refine (live_any _).mono ?_; rintro e w9 ⟨rfl, b9⟩)
        go_ret
        exact ⟨rfl, q_trans L6.out b9⟩
      · have hD : x < y := of_decide_eq_true (hC.symm.trans h1)
        clear hC
        go_wp2_with fail
        refine (less_is h1 _).mono ?_
        rintro e w7 ⟨rfl, b7⟩
        have L7 := hid (q_trans L6.out b7)
        clear b7 a0 a1 b0 b1 c0 c1
        go_wp2_with (go_at_call 18; refine (live_any _).mono ?_; rintro e w9 ⟨rfl, b9⟩)
        go_ret
        exact ⟨rfl, q_trans L7.out b9⟩
  · have he := eq_no h0
    clear h0
    go_enter Try.func5, Try.ntmps5
    go_wp2_with fail
    generalize hW : World.alloc _ _ = W
    have H1 : Hid (Box3 W w.heap.size a b c) := by rw [← hW]; exact box3_new w a b c _
    have L1 : Hid (Below w.heap.size w W) := by rw [← hW]; exact q_alloc (q_alloc (alloc_below w _) _) _
    clear hW
    obtain ⟨a0, a1, b0, b1, c0, c1⟩ := H1.out
    have f0 : ∀ g : Later W, g.now.cell? ⟨w.heap.size, 0, none⟩ = some (.int .i64 a.1) := fun g => g.cell a0
    have f1 : ∀ g : Later W, g.now.cell? ⟨w.heap.size, 1, none⟩ = some (.int .i64 a.2) := fun g => g.cell a1
    have f2 : ∀ g : Later W, g.now.cell? ⟨w.heap.size + 1, 0, none⟩ = some (.int .i64 b.1) := fun g => g.cell b0
    have f3 : ∀ g : Later W, g.now.cell? ⟨w.heap.size + 1, 1, none⟩ = some (.int .i64 b.2) := fun g => g.cell b1
    have hne : Nonempty (Later W) := ⟨⟨W, Below.refl _ _⟩⟩
    refine wp_region_later (by kernel_rfl) (by kernel_rfl) ?_
    repeat (go_big_quiet_step ((go_at_call 14; exact later_call (less_is (by first | exact h1 | exact h2) _))))
    refine wpQuiet_nil ?_
    rintro w2 ⟨⟨_, b2⟩, rfl⟩
    have H2 := hid (H1.out.below b2)
    have L2 := hid (q_trans L1.out b2)
    clear f0 f1 f2 f3 hne b2 a0 a1 b0 b1 c0 c1 H1 L1 he
    obtain ⟨a0, a1, b0, b1, c0, c1⟩ := H2.out
    go_wp2_with fail
    refine (less_is h1 _).mono ?_
    rintro e w5 ⟨rfl, bb⟩
    have H5 := hid (H2.out.below bb)
    have L5 := hid (q_trans L2.out bb)
    clear bb a0 a1 b0 b1 c0 c1 H2 L2
    obtain ⟨a0, a1, b0, b1, c0, c1⟩ := H5.out
    go_wp2_with fail
    have f0 : ∀ g : Later w5, g.now.cell? ⟨w.heap.size, 0, none⟩ = some (.int .i64 a.1) := fun g => g.cell a0
    have f1 : ∀ g : Later w5, g.now.cell? ⟨w.heap.size, 1, none⟩ = some (.int .i64 a.2) := fun g => g.cell a1
    have f2 : ∀ g : Later w5, g.now.cell? ⟨w.heap.size + 1, 0, none⟩ = some (.int .i64 b.1) := fun g => g.cell b0
    have f3 : ∀ g : Later w5, g.now.cell? ⟨w.heap.size + 1, 1, none⟩ = some (.int .i64 b.2) := fun g => g.cell b1
    have hne : Nonempty (Later w5) := ⟨⟨w5, Below.refl _ _⟩⟩
    refine wp_region_later (by kernel_rfl) (by kernel_rfl) ?_
    repeat (go_big_quiet_step ((go_at_call 16; exact later_call (is_cell (by first | exact HX.out | exact HY.out)))))
    refine wpQuiet_nil ?_
    rintro w6 ⟨⟨_, b6⟩, rfl⟩
    have H6 := hid (H5.out.below b6)
    have L6 := hid (q_trans L5.out b6)
    clear f0 f1 f2 f3 hne b6 a0 a1 b0 b1 c0 c1 H5 L5
    obtain ⟨a0, a1, b0, b1, c0, c1⟩ := H6.out
    rcases HSAY.out with hA | ⟨hA, hB⟩ | ⟨hA, hB, hC⟩
    · go_wp2_with (go_at_call 18; refine (live_any _).mono ?_; rintro e w9 ⟨rfl, b9⟩)
      go_ret
      exact ⟨rfl, q_trans L6.out b9⟩
    · go_wp2_with (go_at_call 18; refine (live_any _).mono ?_; rintro e w9 ⟨rfl, b9⟩)
      go_ret
      exact ⟨rfl, q_trans L6.out b9⟩
    · have hD : ¬ x < y := of_decide_eq_false (hC.symm.trans h1)
      clear hC
      go_wp2_with fail
      refine (less_is h1 _).mono ?_
      rintro e w7 ⟨rfl, b7⟩
      have L7 := hid (q_trans L6.out b7)
      clear b7 a0 a1 b0 b1 c0 c1
      go_wp2_with (go_at_call 18; refine (live_any _).mono ?_; rintro e w9 ⟨rfl, b9⟩)
      go_ret
      exact ⟨by simp; omega, q_trans L7.out b9⟩
end Go.Proofs.Ythonibklaijejaa.Or
