/- CapNames answers true. -/
import Derived.Test.YtgjkocbfpcgccaaDoorCpBack
namespace Go.Proofs.YtgjkocbfpcgccaaDoor.Cp
open Go.RowKit

theorem namB_comm (c d : K) : namB c d = namB d c := by
  unfold namB
  rw [show (c.t == d.t) = (d.t == c.t) from Bool.beq_comm, show (c.o == d.o) = (d.o == c.o) from Bool.beq_comm, show (c.g == d.g) = (d.g == c.g) from Bool.beq_comm]
  cases noneB c <;> cases noneB d <;> simp
theorem namB_zero (c : K) : namB c ⟨0, 0, 0, 0, 0⟩ = false := by simp [namB, noneB]
theorem mayB_zero : mayB ⟨0, 0, 0, 0, 0⟩ 0 = false := by kernel_rfl
theorem namB_same {c e : K} (hc : noneB c = false) (he : noneB e = false) (h0 : c.t = e.t) (h1 : c.o = e.o) (h2 : c.g = e.g) : namB c e = true := by simp [namB, hc, he, h0, h1, h2]
theorem namB_move {c e d : K} (hc : noneB c = false) (he : noneB e = false) (h0 : c.t = e.t) (h1 : c.o = e.o) (h2 : c.g = e.g) : namB e d = namB c d := by simp [namB, hc, he, h0, h1, h2]

theorem three_new (w : World) (c d e : K) : In (((w.alloc (.cells #[.int .i64 c.t, .int .i64 c.r, .int .i64 c.b, .int .i64 c.o, .int .i64 c.g] 23)).alloc (.cells #[.int .i64 d.t, .int .i64 d.r, .int .i64 d.b, .int .i64 d.o, .int .i64 d.g] 23)).alloc (.cells #[.int .i64 e.t, .int .i64 e.r, .int .i64 e.b, .int .i64 e.o, .int .i64 e.g] 23)) w.heap.size c ∧ In (((w.alloc (.cells #[.int .i64 c.t, .int .i64 c.r, .int .i64 c.b, .int .i64 c.o, .int .i64 c.g] 23)).alloc (.cells #[.int .i64 d.t, .int .i64 d.r, .int .i64 d.b, .int .i64 d.o, .int .i64 d.g] 23)).alloc (.cells #[.int .i64 e.t, .int .i64 e.r, .int .i64 e.b, .int .i64 e.o, .int .i64 e.g] 23)) (w.heap.size + 1) d ∧ In (((w.alloc (.cells #[.int .i64 c.t, .int .i64 c.r, .int .i64 c.b, .int .i64 c.o, .int .i64 c.g] 23)).alloc (.cells #[.int .i64 d.t, .int .i64 d.r, .int .i64 d.b, .int .i64 d.o, .int .i64 d.g] 23)).alloc (.cells #[.int .i64 e.t, .int .i64 e.r, .int .i64 e.b, .int .i64 e.o, .int .i64 e.g] 23)) (w.heap.size + 1 + 1) e ∧ Below w.heap.size w (((w.alloc (.cells #[.int .i64 c.t, .int .i64 c.r, .int .i64 c.b, .int .i64 c.o, .int .i64 c.g] 23)).alloc (.cells #[.int .i64 d.t, .int .i64 d.r, .int .i64 d.b, .int .i64 d.o, .int .i64 d.g] 23)).alloc (.cells #[.int .i64 e.t, .int .i64 e.r, .int .i64 e.b, .int .i64 e.o, .int .i64 e.g] 23)) := by
  obtain ⟨i1, i2, i3⟩ := two_new w c d
  refine ⟨i1.below (q_alloc (Below.refl _ _) _), i2.below (q_alloc (Below.refl _ _) _), ?_, q_alloc i3 _⟩
  have h := in_new ((w.alloc (.cells #[.int .i64 c.t, .int .i64 c.r, .int .i64 c.b, .int .i64 c.o, .int .i64 c.g] 23)).alloc (.cells #[.int .i64 d.t, .int .i64 d.r, .int .i64 d.b, .int .i64 d.o, .int .i64 d.g] 23)) e 23
  rw [show ((w.alloc (.cells #[.int .i64 c.t, .int .i64 c.r, .int .i64 c.b, .int .i64 c.o, .int .i64 c.g] 23)).alloc (.cells #[.int .i64 d.t, .int .i64 d.r, .int .i64 d.b, .int .i64 d.o, .int .i64 d.g] 23)).heap.size = w.heap.size + 1 + 1 by simp] at h
  exact h

theorem names_v {c d : K} {v : Bool} (h : namB c d = v) (w : World) :
    Calls Tryd.prog 23 #[(.agg #[.int .i64 c.t, .int .i64 c.r, .int .i64 c.b, .int .i64 c.o, .int .i64 c.g]), (.agg #[.int .i64 d.t, .int .i64 d.r, .int .i64 d.b, .int .i64 d.o, .int .i64 d.g])] w fun e w' => e = .returned (.bool v) ∧ Below w.heap.size w w' := by
  have := names_any c d w
  rwa [h] at this

/-- What the walk knows of a world at a region. -/
structure At3 (w W : World) (c d e : K) : Prop where
  i1 : In W w.heap.size c
  i2 : In W (w.heap.size + 1) d
  i3 : In W (w.heap.size + 1 + 1) e
  low : Below w.heap.size w W
theorem At3.below {w W W' : World} {c d e : K} (h : At3 w W c d e) (hb : Below W.heap.size W W') : At3 w W' c d e := ⟨h.i1.below hb, h.i2.below hb, h.i3.below hb, q_trans h.low hb⟩

set_option maxRecDepth 100000 in
set_option maxHeartbeats 1000000 in
theorem names_walk (c d : K) (r b : Int) (w : World) (hT : Tabs w) :
    Calls Tryd.prog 7 #[(.agg #[.int .i64 c.t, .int .i64 c.r, .int .i64 c.b, .int .i64 c.o, .int .i64 c.g]), (.agg #[.int .i64 d.t, .int .i64 d.r, .int .i64 d.b, .int .i64 d.o, .int .i64 d.g]), .int .i64 r, .int .i64 b] w fun e w' => e = .returned (.bool true) ∧ Below w.heap.size w w' := by
  have HT : Hid (Tabs w) := hT
  have H3 : At3 w (((w.alloc (.cells #[.int .i64 c.t, .int .i64 c.r, .int .i64 c.b, .int .i64 c.o, .int .i64 c.g] 23)).alloc (.cells #[.int .i64 d.t, .int .i64 d.r, .int .i64 d.b, .int .i64 d.o, .int .i64 d.g] 23)).alloc (.cells #[.int .i64 c.t, .int .i64 r, .int .i64 b, .int .i64 c.o, .int .i64 c.g] 23)) c d ⟨c.t, r, b, c.o, c.g⟩ := by
    obtain ⟨i1, i2, i3, i4⟩ := three_new w c d ⟨c.t, r, b, c.o, c.g⟩
    exact ⟨i1, i2, i3, i4⟩
  have HA : Hid _ := H3
  clear hT H3
  go_enter Tryd.func7, Tryd.ntmps7
  go_wp2_with fail
  obtain ⟨W, hW⟩ : ∃ W, (((w.alloc (.cells #[.int .i64 c.t, .int .i64 c.r, .int .i64 c.b, .int .i64 c.o, .int .i64 c.g] 23)).alloc (.cells #[.int .i64 d.t, .int .i64 d.r, .int .i64 d.b, .int .i64 d.o, .int .i64 d.g] 23)).alloc (.cells #[.int .i64 c.t, .int .i64 r, .int .i64 b, .int .i64 c.o, .int .i64 c.g] 23)) = W := ⟨_, rfl⟩
  rw [hW] at HA ⊢
  clear hW
  obtain ⟨c0, c1, c2, c3, c4⟩ := HA.out.i1.always
  obtain ⟨d0, d1, d2, d3, d4⟩ := HA.out.i2.always
  have HTL : Hid (∀ g : Later W, Tabs g.now) := fun g => HT.out.below (q_trans HA.out.low g.low)
  have hne : Nonempty (Later W) := ⟨⟨W, Below.refl _ _⟩⟩
  have n1 : namB ⟨d.t, d.r, d.b, d.o, d.g⟩ ⟨c.t, c.r, c.b, c.o, c.g⟩ = namB ⟨c.t, c.r, c.b, c.o, c.g⟩ ⟨d.t, d.r, d.b, d.o, d.g⟩ := namB_comm d c
  have n2 := namB_zero ⟨c.t, c.r, c.b, c.o, c.g⟩
  have n3 := mayB_zero
  obtain ⟨nb, hnb⟩ : ∃ nb, namB ⟨c.t, c.r, c.b, c.o, c.g⟩ ⟨d.t, d.r, d.b, d.o, d.g⟩ = nb := ⟨_, rfl⟩
  rw [hnb] at n1
  refine wp_region_later (by kernel_rfl) (by kernel_rfl) ?_
  repeat (go_big_quiet_step (first | (go_at_call 23; exact later_call (names_any ⟨_, _, _, _, _⟩ ⟨_, _, _, _, _⟩ _)) | (go_at_call 21; exact later_call (may_any ⟨_, _, _, _, _⟩ _ _ (HTL.out _))) | (go_at_call 18; exact later_call (live_any _ (HTL.out _)))))
  refine wpQuiet_nil ?_
  rintro w2 ⟨⟨_, b2⟩, rfl⟩
  have HA2 : Hid (At3 w w2 c d ⟨c.t, r, b, c.o, c.g⟩) := HA.out.below b2
  clear b2 c0 c1 c2 c3 c4 d0 d1 d2 d3 d4 HTL hne n1 n2 n3
  go_wp2_with fail
  obtain ⟨c0, c1, c2, c3, c4⟩ := HA2.out.i1.always
  obtain ⟨d0, d1, d2, d3, d4⟩ := HA2.out.i2.always
  obtain ⟨e0, e1, e2, e3, e4⟩ := HA2.out.i3.always
  dsimp only at e0 e1 e2 e3 e4
  have HTL : Hid (∀ g : Later w2, Tabs g.now) := fun g => HT.out.below (q_trans HA2.out.low g.low)
  have hne : Nonempty (Later w2) := ⟨⟨w2, Below.refl _ _⟩⟩
  have hz1 := eq5z c
  have hz2 := eq5z ⟨c.t, r, b, c.o, c.g⟩
  dsimp only at hz2
  cases hc : noneB c with
  | true =>
    rw [hc] at hz1
    refine wp_region_later (by kernel_rfl) (by kernel_rfl) ?_
    repeat (go_big_quiet_step (first | (go_at_call 23; exact later_call (names_any ⟨_, _, _, _, _⟩ ⟨_, _, _, _, _⟩ _)) | (go_at_call 21; exact later_call (may_any ⟨_, _, _, _, _⟩ _ _ (HTL.out _))) | (go_at_call 18; exact later_call (live_any _ (HTL.out _)))))
    refine wpQuiet_nil ?_
    rintro w3 ⟨⟨_, b3⟩, rfl⟩
    go_wp2_with fail
    go_ret
    exact ⟨rfl, q_trans HA2.out.low b3⟩
  | false =>
    rw [hc] at hz1
    cases he : noneB ⟨c.t, r, b, c.o, c.g⟩ with
    | true =>
      rw [he] at hz2
      refine wp_region_later (by kernel_rfl) (by kernel_rfl) ?_
      repeat (go_big_quiet_step (first | (go_at_call 23; exact later_call (names_any ⟨_, _, _, _, _⟩ ⟨_, _, _, _, _⟩ _)) | (go_at_call 21; exact later_call (may_any ⟨_, _, _, _, _⟩ _ _ (HTL.out _))) | (go_at_call 18; exact later_call (live_any _ (HTL.out _)))))
      refine wpQuiet_nil ?_
      rintro w3 ⟨⟨_, b3⟩, rfl⟩
      go_wp2_with fail
      go_ret
      exact ⟨rfl, q_trans HA2.out.low b3⟩
    | false =>
      rw [he] at hz2
      have n4 : namB c ⟨c.t, r, b, c.o, c.g⟩ = true := namB_same hc he rfl rfl rfl
      have n5 : namB ⟨c.t, r, b, c.o, c.g⟩ d = nb := (namB_move hc he rfl rfl rfl).trans hnb
      have M1 : Hid (∀ W : World, Calls Tryd.prog 23 #[(.agg #[.int .i64 c.t, .int .i64 c.r, .int .i64 c.b, .int .i64 c.o, .int .i64 c.g]), .agg #[.int .i64 c.t, .int .i64 r, .int .i64 b, .int .i64 c.o, .int .i64 c.g]] W fun e w' => e = .returned (.bool true) ∧ Below W.heap.size W w') := fun W => names_v n4 W
      have M2 : Hid (∀ W : World, Calls Tryd.prog 23 #[.agg #[.int .i64 c.t, .int .i64 r, .int .i64 b, .int .i64 c.o, .int .i64 c.g], (.agg #[.int .i64 d.t, .int .i64 d.r, .int .i64 d.b, .int .i64 d.o, .int .i64 d.g])] W fun e w' => e = .returned (.bool nb) ∧ Below W.heap.size W w') := fun W => names_v n5 W
      have M3 : Hid (∀ W : World, Calls Tryd.prog 23 #[(.agg #[.int .i64 c.t, .int .i64 c.r, .int .i64 c.b, .int .i64 c.o, .int .i64 c.g]), (.agg #[.int .i64 d.t, .int .i64 d.r, .int .i64 d.b, .int .i64 d.o, .int .i64 d.g])] W fun e w' => e = .returned (.bool nb) ∧ Below W.heap.size W w') := fun W => names_v (c := c) (d := d) hnb W
      clear n4 n5 hnb
      refine wp_region_later (by kernel_rfl) (by kernel_rfl) ?_
      repeat (go_big_quiet_step (fail))
      go_big_quiet_step (exact later_call (M1.out _))
      repeat (go_big_quiet_step (fail))
      go_big_quiet_step (exact later_call (M2.out _))
      repeat (go_big_quiet_step (fail))
      go_big_quiet_step (exact later_call (M3.out _))
      repeat (go_big_quiet_step ((go_at_call 18; exact later_call (live_any _ (HTL.out _)))))
      refine wpQuiet_nil ?_
      rintro w3 ⟨⟨_, b3⟩, rfl⟩
      go_wp2_with fail
      go_ret
      exact ⟨rfl, q_trans HA2.out.low b3⟩
end Go.Proofs.YtgjkocbfpcgccaaDoor.Cp
