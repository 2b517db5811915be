/- CapTexts answers true. -/
import Derived.Test.YtgjkocbfpcgccaaDoorCpBack
import Derived.Test.YtgjkocbfpcgccaaDoorCpTextM
namespace Go.Proofs.YtgjkocbfpcgccaaDoor.Cp
open Go.RowKit

/-- The two capabilities lie in their blocks. -/
structure At2 (w W : World) (c d : K) : Prop where
  i1 : In W w.heap.size c
  i2 : In W (w.heap.size + 1) d
  low : Below w.heap.size w W
theorem At2.below {w W W' : World} {c d : K} (h : At2 w W c d) (hb : Below W.heap.size W W') : At2 w W' c d := ⟨h.i1.below hb, h.i2.below hb, q_trans h.low hb⟩

set_option maxRecDepth 100000 in
set_option maxHeartbeats 600000 in
theorem texts_both (c d : K) (w : World) (hT : Tabs w) (h1 : okB c = true) (h2 : okB d = true) (q : Bool) (hq : eqK c d = q) :
    Calls Tryd.prog 8 #[(.agg #[.int .i64 c.t, .int .i64 c.r, .int .i64 c.b, .int .i64 c.o, .int .i64 c.g]), (.agg #[.int .i64 d.t, .int .i64 d.r, .int .i64 d.b, .int .i64 d.o, .int .i64 d.g])] w fun e w' => e = .returned (.bool true) ∧ Below w.heap.size w w' := by
  have HT : Hid (Tabs w) := hT
  obtain ⟨i1, i2, i3⟩ := two_new w c d
  have HA : Hid (At2 w ((w.alloc (.cells #[.int .i64 c.t, .int .i64 c.r, .int .i64 c.b, .int .i64 c.o, .int .i64 c.g] 23)).alloc (.cells #[.int .i64 d.t, .int .i64 d.r, .int .i64 d.b, .int .i64 d.o, .int .i64 d.g] 23)) c d) := ⟨i1, i2, i3⟩
  clear i1 i2 i3 hT
  have C1 : Hid (∀ W : World, Tabs W → Calls Tryd.prog 14 #[(.agg #[.int .i64 c.t, .int .i64 c.r, .int .i64 c.b, .int .i64 c.o, .int .i64 c.g])] W fun e w' => e = .returned (.int .i64 0) ∧ Below W.heap.size W w') := fun W hW => check_c h1 W hW
  have C2 : Hid (∀ W : World, Tabs W → Calls Tryd.prog 14 #[(.agg #[.int .i64 d.t, .int .i64 d.r, .int .i64 d.b, .int .i64 d.o, .int .i64 d.g])] W fun e w' => e = .returned (.int .i64 0) ∧ Below W.heap.size W w') := fun W hW => check_c h2 W hW
  have he := eq5 c d
  rw [hq] at he
  have hst : ((textC c).toList == (textC d).toList) = q := by
    rw [ByteArray.toList_eq, ByteArray.toList_eq]
    cases q with
    | true =>
      have e : c = d := eqK_iff.1 hq
      rw [e]
      exact beq_self_eq_true _
    | false =>
      refine beq_eq_false_iff_ne.2 fun e => ?_
      have e2 : textC c = textC d := ByteArray.ext (Array.toList_inj.1 e)
      rw [eqK_iff.2 (text_inj h1 h2 e2)] at hq
      cases hq
  have hem : ((textC c).toList == ([] : List UInt8)) = false := by
    rw [ByteArray.toList_eq]
    refine beq_eq_false_iff_ne.2 fun e => text_ne h1 ?_
    exact ByteArray.ext (Array.toList_inj.1 e)
  clear h1 h2 hq
  obtain ⟨s, hs⟩ : ∃ s, textC c = s := ⟨_, rfl⟩
  obtain ⟨t, ht⟩ : ∃ t, textC d = t := ⟨_, rfl⟩
  have T1 : Hid (∀ W : World, Tabs W → Calls Tryd.prog 16 #[(.agg #[.int .i64 c.t, .int .i64 c.r, .int .i64 c.b, .int .i64 c.o, .int .i64 c.g])] W fun e w' => e = .returned (.string s) ∧ Below W.heap.size W w') := fun W hW => hs ▸ text_any c W hW
  have T2 : Hid (∀ W : World, Tabs W → Calls Tryd.prog 16 #[(.agg #[.int .i64 d.t, .int .i64 d.r, .int .i64 d.b, .int .i64 d.o, .int .i64 d.g])] W fun e w' => e = .returned (.string t) ∧ Below W.heap.size W w') := fun W hW => ht ▸ text_any d W hW
  rw [hs, ht] at hst
  rw [hs] at hem
  clear hs ht
  go_enter Tryd.func8, Tryd.ntmps8
  go_wp2_with fail
  obtain ⟨W, hW⟩ : ∃ W, ((w.alloc (.cells #[.int .i64 c.t, .int .i64 c.r, .int .i64 c.b, .int .i64 c.o, .int .i64 c.g] 23)).alloc (.cells #[.int .i64 d.t, .int .i64 d.r, .int .i64 d.b, .int .i64 d.o, .int .i64 d.g] 23)) = W := ⟨_, rfl⟩
  rw [hW] at HA ⊢
  clear hW
  obtain ⟨c0, c1, c2, c3, c4⟩ := HA.out.i1.always
  obtain ⟨d0, d1, d2, d3, d4⟩ := HA.out.i2.always
  have HTL : Hid (∀ g : Later W, Tabs g.now) := fun g => HT.out.below (q_trans HA.out.low g.low)
  have hne : Nonempty (Later W) := ⟨⟨W, Below.refl _ _⟩⟩
  refine wp_region_later (by kernel_rfl) (by kernel_rfl) ?_
  repeat (go_big_quiet_step (fail))
  go_big_quiet_step (exact later_call (C1.out _ (HTL.out _)))
  go_big_quiet_step (exact later_same (num_any _ _))
  repeat (go_big_quiet_step (fail))
  go_big_quiet_step (exact later_call (C2.out _ (HTL.out _)))
  go_big_quiet_step (exact later_same (num_any _ _))
  repeat (go_big_quiet_step (fail))
  refine wpQuiet_nil ?_
  rintro w2 ⟨⟨_, b2⟩, rfl⟩
  have HA2 : Hid (At2 w w2 c d) := HA.out.below b2
  clear b2 c0 c1 c2 c3 c4 d0 d1 d2 d3 d4 HTL hne
  go_wp2_with fail
  obtain ⟨c0, c1, c2, c3, c4⟩ := HA2.out.i1.always
  obtain ⟨d0, d1, d2, d3, d4⟩ := HA2.out.i2.always
  have HTL : Hid (∀ g : Later w2, Tabs g.now) := fun g => HT.out.below (q_trans HA2.out.low g.low)
  have hne : Nonempty (Later w2) := ⟨⟨w2, Below.refl _ _⟩⟩
  refine wp_region_later (by kernel_rfl) (by kernel_rfl) ?_
  repeat (go_big_quiet_step (fail))
  go_big_quiet_step (exact later_call (T1.out _ (HTL.out _)))
  repeat (go_big_quiet_step (fail))
  go_big_quiet_step (exact later_call (T2.out _ (HTL.out _)))
  repeat (go_big_quiet_step (fail))
  go_big_quiet_step (exact later_call (T1.out _ (HTL.out _)))
  repeat (go_big_quiet_step ((go_at_call 18; exact later_call (live_any _ (HTL.out _)))))
  refine wpQuiet_nil ?_
  rintro w3 ⟨⟨_, b3⟩, rfl⟩
  go_wp2_with fail
  go_ret
  exact ⟨rfl, q_trans HA2.out.low b3⟩

set_option maxRecDepth 100000 in
set_option maxHeartbeats 600000 in
theorem texts_yn (c d : K) (w : World) (hT : Tabs w) (h1 : okB c = true) (h2 : okB d = false) :
    Calls Tryd.prog 8 #[(.agg #[.int .i64 c.t, .int .i64 c.r, .int .i64 c.b, .int .i64 c.o, .int .i64 c.g]), (.agg #[.int .i64 d.t, .int .i64 d.r, .int .i64 d.b, .int .i64 d.o, .int .i64 d.g])] w fun e w' => e = .returned (.bool true) ∧ Below w.heap.size w w' := by
  have HT : Hid (Tabs w) := hT
  obtain ⟨i1, i2, i3⟩ := two_new w c d
  have HA : Hid (At2 w ((w.alloc (.cells #[.int .i64 c.t, .int .i64 c.r, .int .i64 c.b, .int .i64 c.o, .int .i64 c.g] 23)).alloc (.cells #[.int .i64 d.t, .int .i64 d.r, .int .i64 d.b, .int .i64 d.o, .int .i64 d.g] 23)) c d) := ⟨i1, i2, i3⟩
  clear i1 i2 i3 hT
  have C1 : Hid (∀ W : World, Tabs W → Calls Tryd.prog 14 #[(.agg #[.int .i64 c.t, .int .i64 c.r, .int .i64 c.b, .int .i64 c.o, .int .i64 c.g])] W fun e w' => e = .returned (.int .i64 0) ∧ Below W.heap.size W w') := fun W hW => by
    have := check_any c W hW
    rwa [show chkE c = 0 by simp [chkE, h1]] at this
  have C2 : Hid (∀ W : World, Tabs W → Calls Tryd.prog 14 #[(.agg #[.int .i64 d.t, .int .i64 d.r, .int .i64 d.b, .int .i64 d.o, .int .i64 d.g])] W fun e w' => e = .returned (.int .i64 30) ∧ Below W.heap.size W w') := fun W hW => by
    have := check_any d W hW
    rwa [show chkE d = 30 by simp [chkE, h2]] at this
  clear h1 h2
  go_enter Tryd.func8, Tryd.ntmps8
  go_wp2_with fail
  obtain ⟨W, hW⟩ : ∃ W, ((w.alloc (.cells #[.int .i64 c.t, .int .i64 c.r, .int .i64 c.b, .int .i64 c.o, .int .i64 c.g] 23)).alloc (.cells #[.int .i64 d.t, .int .i64 d.r, .int .i64 d.b, .int .i64 d.o, .int .i64 d.g] 23)) = W := ⟨_, rfl⟩
  rw [hW] at HA ⊢
  clear hW
  obtain ⟨c0, c1, c2, c3, c4⟩ := HA.out.i1.always
  obtain ⟨d0, d1, d2, d3, d4⟩ := HA.out.i2.always
  have HTL : Hid (∀ g : Later W, Tabs g.now) := fun g => HT.out.below (q_trans HA.out.low g.low)
  have hne : Nonempty (Later W) := ⟨⟨W, Below.refl _ _⟩⟩
  refine wp_region_later (by kernel_rfl) (by kernel_rfl) ?_
  repeat (go_big_quiet_step (fail))
  go_big_quiet_step (exact later_call (C1.out _ (HTL.out _)))
  go_big_quiet_step (exact later_same (num_any _ _))
  repeat (go_big_quiet_step (fail))
  go_big_quiet_step (exact later_call (C2.out _ (HTL.out _)))
  go_big_quiet_step (exact later_same (num_any _ _))
  repeat (go_big_quiet_step (fail))
  refine wpQuiet_nil ?_
  rintro w2 ⟨⟨_, b2⟩, rfl⟩
  have HA2 : Hid (At2 w w2 c d) := HA.out.below b2
  clear b2 c0 c1 c2 c3 c4 d0 d1 d2 d3 d4 HTL hne
  obtain ⟨c0, c1, c2, c3, c4⟩ := HA2.out.i1
  go_wp2_with fail
  refine (C1.out _ (HT.out.below HA2.out.low)).mono ?_
  rintro e w3 ⟨rfl, b3⟩
  have HA3 : Hid (At2 w w3 c d) := HA2.out.below b3
  clear b3 c0 c1 c2 c3 c4
  obtain ⟨c0, c1, c2, c3, c4⟩ := HA3.out.i1
  go_wp2_with (first | (go_at_call 13; refine (num_any _ _).mono ?_; rintro e w5 ⟨rfl, rfl⟩) | (go_at_call 18; refine (live_any _ (HT.out.below HA3.out.low)).mono ?_; rintro e w6 ⟨rfl, b6⟩))
  go_ret
  exact ⟨rfl, q_trans HA3.out.low b6⟩

set_option maxRecDepth 100000 in
set_option maxHeartbeats 600000 in
theorem texts_ny (c d : K) (w : World) (hT : Tabs w) (h1 : okB c = false) (h2 : okB d = true) :
    Calls Tryd.prog 8 #[(.agg #[.int .i64 c.t, .int .i64 c.r, .int .i64 c.b, .int .i64 c.o, .int .i64 c.g]), (.agg #[.int .i64 d.t, .int .i64 d.r, .int .i64 d.b, .int .i64 d.o, .int .i64 d.g])] w fun e w' => e = .returned (.bool true) ∧ Below w.heap.size w w' := by
  have HT : Hid (Tabs w) := hT
  obtain ⟨i1, i2, i3⟩ := two_new w c d
  have HA : Hid (At2 w ((w.alloc (.cells #[.int .i64 c.t, .int .i64 c.r, .int .i64 c.b, .int .i64 c.o, .int .i64 c.g] 23)).alloc (.cells #[.int .i64 d.t, .int .i64 d.r, .int .i64 d.b, .int .i64 d.o, .int .i64 d.g] 23)) c d) := ⟨i1, i2, i3⟩
  clear i1 i2 i3 hT
  have C1 : Hid (∀ W : World, Tabs W → Calls Tryd.prog 14 #[(.agg #[.int .i64 c.t, .int .i64 c.r, .int .i64 c.b, .int .i64 c.o, .int .i64 c.g])] W fun e w' => e = .returned (.int .i64 30) ∧ Below W.heap.size W w') := fun W hW => by
    have := check_any c W hW
    rwa [show chkE c = 30 by simp [chkE, h1]] at this
  have C2 : Hid (∀ W : World, Tabs W → Calls Tryd.prog 14 #[(.agg #[.int .i64 d.t, .int .i64 d.r, .int .i64 d.b, .int .i64 d.o, .int .i64 d.g])] W fun e w' => e = .returned (.int .i64 0) ∧ Below W.heap.size W w') := fun W hW => by
    have := check_any d W hW
    rwa [show chkE d = 0 by simp [chkE, h2]] at this
  have T1 : Hid (∀ W : World, Tabs W → Calls Tryd.prog 16 #[(.agg #[.int .i64 c.t, .int .i64 c.r, .int .i64 c.b, .int .i64 c.o, .int .i64 c.g])] W fun e w' => e = .returned (.string ⟨#[]⟩) ∧ Below W.heap.size W w') := fun W hW => text_bad c W hW h1
  clear h1 h2
  go_enter Tryd.func8, Tryd.ntmps8
  go_wp2_with fail
  obtain ⟨W, hW⟩ : ∃ W, ((w.alloc (.cells #[.int .i64 c.t, .int .i64 c.r, .int .i64 c.b, .int .i64 c.o, .int .i64 c.g] 23)).alloc (.cells #[.int .i64 d.t, .int .i64 d.r, .int .i64 d.b, .int .i64 d.o, .int .i64 d.g] 23)) = W := ⟨_, rfl⟩
  rw [hW] at HA ⊢
  clear hW
  obtain ⟨c0, c1, c2, c3, c4⟩ := HA.out.i1.always
  obtain ⟨d0, d1, d2, d3, d4⟩ := HA.out.i2.always
  have HTL : Hid (∀ g : Later W, Tabs g.now) := fun g => HT.out.below (q_trans HA.out.low g.low)
  have hne : Nonempty (Later W) := ⟨⟨W, Below.refl _ _⟩⟩
  refine wp_region_later (by kernel_rfl) (by kernel_rfl) ?_
  repeat (go_big_quiet_step (fail))
  go_big_quiet_step (exact later_call (C1.out _ (HTL.out _)))
  go_big_quiet_step (exact later_same (num_any _ _))
  repeat (go_big_quiet_step (fail))
  go_big_quiet_step (exact later_call (C2.out _ (HTL.out _)))
  go_big_quiet_step (exact later_same (num_any _ _))
  repeat (go_big_quiet_step (fail))
  refine wpQuiet_nil ?_
  rintro w2 ⟨⟨_, b2⟩, rfl⟩
  have HA2 : Hid (At2 w w2 c d) := HA.out.below b2
  clear b2 c0 c1 c2 c3 c4 d0 d1 d2 d3 d4 HTL hne
  obtain ⟨c0, c1, c2, c3, c4⟩ := HA2.out.i1
  go_wp2_with fail
  refine (C1.out _ (HT.out.below HA2.out.low)).mono ?_
  rintro e w3 ⟨rfl, b3⟩
  have HA3 : Hid (At2 w w3 c d) := HA2.out.below b3
  clear b3 c0 c1 c2 c3 c4
  obtain ⟨c0, c1, c2, c3, c4⟩ := HA3.out.i1
  go_wp2_with (go_at_call 13; refine (num_any _ _).mono ?_; rintro e w5 ⟨rfl, rfl⟩)
  refine (T1.out _ (HT.out.below HA3.out.low)).mono ?_
  rintro e w4 ⟨rfl, b4⟩
  have HA4 : Hid (At2 w w4 c d) := HA3.out.below b4
  clear b4 c0 c1 c2 c3 c4
  go_wp2_with (go_at_call 18; refine (live_any _ (HT.out.below HA4.out.low)).mono ?_; rintro e w6 ⟨rfl, b6⟩)
  go_ret
  exact ⟨rfl, q_trans HA4.out.low b6⟩

set_option maxRecDepth 100000 in
set_option maxHeartbeats 600000 in
theorem texts_nn (c d : K) (w : World) (hT : Tabs w) (h1 : okB c = false) (h2 : okB d = false) :
    Calls Tryd.prog 8 #[(.agg #[.int .i64 c.t, .int .i64 c.r, .int .i64 c.b, .int .i64 c.o, .int .i64 c.g]), (.agg #[.int .i64 d.t, .int .i64 d.r, .int .i64 d.b, .int .i64 d.o, .int .i64 d.g])] w fun e w' => e = .returned (.bool true) ∧ Below w.heap.size w w' := by
  have HT : Hid (Tabs w) := hT
  obtain ⟨i1, i2, i3⟩ := two_new w c d
  have HA : Hid (At2 w ((w.alloc (.cells #[.int .i64 c.t, .int .i64 c.r, .int .i64 c.b, .int .i64 c.o, .int .i64 c.g] 23)).alloc (.cells #[.int .i64 d.t, .int .i64 d.r, .int .i64 d.b, .int .i64 d.o, .int .i64 d.g] 23)) c d) := ⟨i1, i2, i3⟩
  clear i1 i2 i3 hT
  have C1 : Hid (∀ W : World, Tabs W → Calls Tryd.prog 14 #[(.agg #[.int .i64 c.t, .int .i64 c.r, .int .i64 c.b, .int .i64 c.o, .int .i64 c.g])] W fun e w' => e = .returned (.int .i64 30) ∧ Below W.heap.size W w') := fun W hW => by
    have := check_any c W hW
    rwa [show chkE c = 30 by simp [chkE, h1]] at this
  have C2 : Hid (∀ W : World, Tabs W → Calls Tryd.prog 14 #[(.agg #[.int .i64 d.t, .int .i64 d.r, .int .i64 d.b, .int .i64 d.o, .int .i64 d.g])] W fun e w' => e = .returned (.int .i64 30) ∧ Below W.heap.size W w') := fun W hW => by
    have := check_any d W hW
    rwa [show chkE d = 30 by simp [chkE, h2]] at this
  have T1 : Hid (∀ W : World, Tabs W → Calls Tryd.prog 16 #[(.agg #[.int .i64 c.t, .int .i64 c.r, .int .i64 c.b, .int .i64 c.o, .int .i64 c.g])] W fun e w' => e = .returned (.string ⟨#[]⟩) ∧ Below W.heap.size W w') := fun W hW => text_bad c W hW h1
  clear h1 h2
  go_enter Tryd.func8, Tryd.ntmps8
  go_wp2_with fail
  obtain ⟨W, hW⟩ : ∃ W, ((w.alloc (.cells #[.int .i64 c.t, .int .i64 c.r, .int .i64 c.b, .int .i64 c.o, .int .i64 c.g] 23)).alloc (.cells #[.int .i64 d.t, .int .i64 d.r, .int .i64 d.b, .int .i64 d.o, .int .i64 d.g] 23)) = W := ⟨_, rfl⟩
  rw [hW] at HA ⊢
  clear hW
  obtain ⟨c0, c1, c2, c3, c4⟩ := HA.out.i1.always
  obtain ⟨d0, d1, d2, d3, d4⟩ := HA.out.i2.always
  have HTL : Hid (∀ g : Later W, Tabs g.now) := fun g => HT.out.below (q_trans HA.out.low g.low)
  have hne : Nonempty (Later W) := ⟨⟨W, Below.refl _ _⟩⟩
  refine wp_region_later (by kernel_rfl) (by kernel_rfl) ?_
  repeat (go_big_quiet_step (fail))
  go_big_quiet_step (exact later_call (C1.out _ (HTL.out _)))
  go_big_quiet_step (exact later_same (num_any _ _))
  repeat (go_big_quiet_step (fail))
  go_big_quiet_step (exact later_call (C2.out _ (HTL.out _)))
  go_big_quiet_step (exact later_same (num_any _ _))
  repeat (go_big_quiet_step (fail))
  refine wpQuiet_nil ?_
  rintro w2 ⟨⟨_, b2⟩, rfl⟩
  have HA2 : Hid (At2 w w2 c d) := HA.out.below b2
  clear b2 c0 c1 c2 c3 c4 d0 d1 d2 d3 d4 HTL hne
  obtain ⟨c0, c1, c2, c3, c4⟩ := HA2.out.i1
  go_wp2_with fail
  refine (C1.out _ (HT.out.below HA2.out.low)).mono ?_
  rintro e w3 ⟨rfl, b3⟩
  have HA3 : Hid (At2 w w3 c d) := HA2.out.below b3
  clear b3 c0 c1 c2 c3 c4
  obtain ⟨c0, c1, c2, c3, c4⟩ := HA3.out.i1
  go_wp2_with (go_at_call 13; refine (num_any _ _).mono ?_; rintro e w5 ⟨rfl, rfl⟩)
  refine (T1.out _ (HT.out.below HA3.out.low)).mono ?_
  rintro e w4 ⟨rfl, b4⟩
  have HA4 : Hid (At2 w w4 c d) := HA3.out.below b4
  clear b4 c0 c1 c2 c3 c4
  go_wp2_with (go_at_call 18; refine (live_any _ (HT.out.below HA4.out.low)).mono ?_; rintro e w6 ⟨rfl, b6⟩)
  go_ret
  exact ⟨rfl, q_trans HA4.out.low b6⟩

theorem texts_walk (c d : K) (w : World) (hT : Tabs w) :
    Calls Tryd.prog 8 #[(.agg #[.int .i64 c.t, .int .i64 c.r, .int .i64 c.b, .int .i64 c.o, .int .i64 c.g]), (.agg #[.int .i64 d.t, .int .i64 d.r, .int .i64 d.b, .int .i64 d.o, .int .i64 d.g])] w fun e w' => e = .returned (.bool true) ∧ Below w.heap.size w w' := by
  cases h1 : okB c with
  | true =>
    cases h2 : okB d with
    | true => exact texts_both c d w hT h1 h2 _ rfl
    | false => exact texts_yn c d w hT h1 h2
  | false =>
    cases h2 : okB d with
    | true => exact texts_ny c d w hT h1 h2
    | false => exact texts_nn c d w hT h1 h2
end Go.Proofs.YtgjkocbfpcgccaaDoor.Cp
