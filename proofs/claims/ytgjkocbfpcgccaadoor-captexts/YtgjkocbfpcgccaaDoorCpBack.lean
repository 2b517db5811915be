/- CapBack answers true. -/
import Derived.Test.YtgjkocbfpcgccaaDoorCpW7
import Derived.Test.YtgjkocbfpcgccaaDoorCpFacts
namespace Go.Proofs.YtgjkocbfpcgccaaDoor.Cp
open Go.RowKit

theorem eqK_no {c d : K} (h : ¬ c = d) : eqK c d = false := by
  cases e : eqK c d with
  | false => rfl
  | true => exact absurd (eqK_iff.1 e) h
theorem word_c {c : K} (h : okB c = true) (W : World) (hW : Tabs W) : Calls Tryd.prog 9 #[(.agg #[.int .i64 c.t, .int .i64 c.r, .int .i64 c.b, .int .i64 c.o, .int .i64 c.g])] W fun e w' => e = .returned (.tuple #[.int .u64 (wordT c), .int .i64 0]) ∧ Below W.heap.size W w' := by
  have := word_any c W hW
  rwa [show chkE c = 0 by simp [chkE, h]] at this
theorem parse_c {c : K} (h : okB c = true) (W : World) (hW : Tabs W) : Calls Tryd.prog 11 #[.int .u64 (wordT c)] W fun e w' => e = .returned (.tuple #[(.agg #[.int .i64 c.t, .int .i64 c.r, .int .i64 c.b, .int .i64 c.o, .int .i64 c.g]), .int .i64 0]) ∧ Below W.heap.size W w' := by
  have := parse_any (wordT c) W (wordT_u64 c) hW
  rwa [parC_word h, parE_word h] at this
theorem check_c {c : K} (h : okB c = true) (W : World) (hW : Tabs W) : Calls Tryd.prog 14 #[(.agg #[.int .i64 c.t, .int .i64 c.r, .int .i64 c.b, .int .i64 c.o, .int .i64 c.g])] W fun e w' => e = .returned (.int .i64 0) ∧ Below W.heap.size W w' := by
  have := check_any c W hW
  rwa [show chkE c = 0 by simp [chkE, h]] at this
theorem two_new (w : World) (c d : K) : In ((w.alloc (.cells #[.int .i64 c.t, .int .i64 c.r, .int .i64 c.b, .int .i64 c.o, .int .i64 c.g] 23)).alloc (.cells #[.int .i64 d.t, .int .i64 d.r, .int .i64 d.b, .int .i64 d.o, .int .i64 d.g] 23)) w.heap.size c ∧ In ((w.alloc (.cells #[.int .i64 c.t, .int .i64 c.r, .int .i64 c.b, .int .i64 c.o, .int .i64 c.g] 23)).alloc (.cells #[.int .i64 d.t, .int .i64 d.r, .int .i64 d.b, .int .i64 d.o, .int .i64 d.g] 23)) (w.heap.size + 1) d ∧ Below w.heap.size w ((w.alloc (.cells #[.int .i64 c.t, .int .i64 c.r, .int .i64 c.b, .int .i64 c.o, .int .i64 c.g] 23)).alloc (.cells #[.int .i64 d.t, .int .i64 d.r, .int .i64 d.b, .int .i64 d.o, .int .i64 d.g] 23)) := by
  refine ⟨(in_new w c 23).below (q_alloc (Below.refl _ _) _), ?_, q_alloc (q_alloc (Below.refl _ _) _) _⟩
  have h := in_new (w.alloc (.cells #[.int .i64 c.t, .int .i64 c.r, .int .i64 c.b, .int .i64 c.o, .int .i64 c.g] 23)) d 23
  rw [show (w.alloc (.cells #[.int .i64 c.t, .int .i64 c.r, .int .i64 c.b, .int .i64 c.o, .int .i64 c.g] 23)).heap.size = w.heap.size + 1 by simp] at h
  exact h

set_option maxRecDepth 100000 in
set_option maxHeartbeats 2000000 in
theorem back_a0 (c d : K) (x : Int) (w : World) (hx : U64 x) (hT : Tabs w) (h1 : okB c = false) (h2 : okB d = true) :
    Calls Tryd.prog 5 #[(.agg #[.int .i64 c.t, .int .i64 c.r, .int .i64 c.b, .int .i64 c.o, .int .i64 c.g]), (.agg #[.int .i64 d.t, .int .i64 d.r, .int .i64 d.b, .int .i64 d.o, .int .i64 d.g]), .int .u64 x] w fun e w' => e = .returned (.bool true) ∧ Below w.heap.size w w' := by
  have HT : Hid (Tabs w) := hT
  have HX : Hid (U64 x) := hx
  obtain ⟨i1, i2, i3⟩ := two_new w c d
  have HI : Hid _ := i1
  have HJ : Hid _ := i2
  have HB0 : Hid _ := i3
  clear hT hx i1 i2 i3
  go_enter Tryd.func5, Tryd.ntmps5
  go_wp2_with fail
  refine ((fun W hW => word_bad c W hW h1) _ (HT.out.below HB0.out)).mono ?_
  rintro e w1 ⟨rfl, b1⟩
  have HB1 : Hid (Below w.heap.size w w1) := q_trans HB0.out b1
  have HI1 : Hid (In w1 w.heap.size c) := HI.out.below b1
  have HJ1 : Hid (In w1 (w.heap.size + 1) d) := HJ.out.below b1
  obtain ⟨d0, d1, d2, d3, d4⟩ := HJ1.out
  clear b1
  go_wp2_with fail
  refine ((word_c h2) _ (HT.out.below HB1.out)).mono ?_
  rintro e w2 ⟨rfl, b2⟩
  have HB2 : Hid (Below w.heap.size w w2) := q_trans HB1.out b2
  have HI2 : Hid (In w2 w.heap.size c) := HI1.out.below b2
  have HJ2 : Hid (In w2 (w.heap.size + 1) d) := HJ1.out.below b2
  clear b2 d0 d1 d2 d3 d4
  go_wp2_with (go_at_call 13; refine (num_any _ _).mono ?_; rintro e w5 ⟨rfl, rfl⟩)
  cases hb : parB x with
  | true =>
    obtain ⟨p, hp⟩ : ∃ p, parC x = p := ⟨_, rfl⟩
    have HP : Hid (∀ W : World, Tabs W → Calls Tryd.prog 11 #[.int .u64 x] W fun e w' => e = .returned (.tuple #[(.agg #[.int .i64 p.t, .int .i64 p.r, .int .i64 p.b, .int .i64 p.o, .int .i64 p.g]), .int .i64 0]) ∧ Below W.heap.size W w') := fun W hW => by
      have := parse_any x W HX.out hW
      rwa [(par_ok hb).2.2.1, hp] at this
    have hok : okB p = true := hp ▸ (par_ok hb).1
    have HK : Hid (okB p = true) := hok
    have HW : Hid (∀ W : World, Tabs W → Calls Tryd.prog 9 #[(.agg #[.int .i64 p.t, .int .i64 p.r, .int .i64 p.b, .int .i64 p.o, .int .i64 p.g])] W fun e w' => e = .returned (.tuple #[.int .u64 x, .int .i64 0]) ∧ Below W.heap.size W w') := fun W hW => by
      have := word_c hok W hW
      rwa [← hp, (par_ok hb).2.1, hp] at this
    clear hok hp hb
    refine (HP.out _ (HT.out.below HB2.out)).mono ?_
    rintro e w7 ⟨rfl, b7⟩
    have HB7 : Hid (Below w.heap.size w (w7.alloc (.cells #[.int .i64 p.t, .int .i64 p.r, .int .i64 p.b, .int .i64 p.o, .int .i64 p.g] 23))) := q_alloc (q_trans HB2.out b7) _
    have HI7 : Hid (In (w7.alloc (.cells #[.int .i64 p.t, .int .i64 p.r, .int .i64 p.b, .int .i64 p.o, .int .i64 p.g] 23)) w7.heap.size p) := in_new w7 p 23
    clear b7
    go_wp2_with (go_at_call 13; refine (num_any _ _).mono ?_; rintro e w5 ⟨rfl, rfl⟩)
    refine (HW.out _ (HT.out.below HB7.out)).mono ?_
    rintro e w8 ⟨rfl, b8⟩
    have HB8 : Hid (Below w.heap.size w w8) := q_trans HB7.out b8
    obtain ⟨p0, p1, p2, p3, p4⟩ := HI7.out.below b8
    clear b8
    go_wp2_with (go_at_call 13; refine (num_any _ _).mono ?_; rintro e w5 ⟨rfl, rfl⟩)
    refine (check_c HK.out _ (HT.out.below HB8.out)).mono ?_
    rintro e w9 ⟨rfl, b9⟩
    have HB9 : Hid (Below w.heap.size w w9) := q_trans HB8.out b9
    clear b9 p0 p1 p2 p3 p4
    go_wp2_with (first | (go_at_call 13; refine (num_any _ _).mono ?_; rintro e w5 ⟨rfl, rfl⟩) | (go_at_call 18; refine (live_any _ (HT.out.below HB9.out)).mono ?_; rintro e w6 ⟨rfl, b6⟩))
    go_ret
    exact ⟨rfl, q_trans HB9.out b6⟩
  | false =>
    have HP : Hid (∀ W : World, Tabs W → Calls Tryd.prog 11 #[.int .u64 x] W fun e w' => e = .returned (.tuple #[.agg #[.int .i64 0, .int .i64 0, .int .i64 0, .int .i64 0, .int .i64 0], .int .i64 30]) ∧ Below W.heap.size W w') := fun W hW => by
      have := parse_any x W HX.out hW
      rwa [(par_no hb).1, (par_no hb).2] at this
    clear hb
    refine (HP.out _ (HT.out.below HB2.out)).mono ?_
    rintro e w7 ⟨rfl, b7⟩
    have HB7 : Hid (Below w.heap.size w (w7.alloc (.cells #[.int .i64 0, .int .i64 0, .int .i64 0, .int .i64 0, .int .i64 0] 23))) := q_alloc (q_trans HB2.out b7) _
    clear b7
    go_wp2_with (first | (go_at_call 13; refine (num_any _ _).mono ?_; rintro e w5 ⟨rfl, rfl⟩) | (go_at_call 18; refine (live_any _ (HT.out.below HB7.out)).mono ?_; rintro e w6 ⟨rfl, b6⟩))
    go_ret
    exact ⟨rfl, q_trans HB7.out b6⟩

set_option maxRecDepth 100000 in
set_option maxHeartbeats 2000000 in
theorem back_a1 (c d : K) (x : Int) (w : World) (hx : U64 x) (hT : Tabs w) (h1 : okB c = false) (h2 : okB d = false) :
    Calls Tryd.prog 5 #[(.agg #[.int .i64 c.t, .int .i64 c.r, .int .i64 c.b, .int .i64 c.o, .int .i64 c.g]), (.agg #[.int .i64 d.t, .int .i64 d.r, .int .i64 d.b, .int .i64 d.o, .int .i64 d.g]), .int .u64 x] w fun e w' => e = .returned (.bool true) ∧ Below w.heap.size w w' := by
  have HT : Hid (Tabs w) := hT
  have HX : Hid (U64 x) := hx
  obtain ⟨i1, i2, i3⟩ := two_new w c d
  have HI : Hid _ := i1
  have HJ : Hid _ := i2
  have HB0 : Hid _ := i3
  clear hT hx i1 i2 i3
  go_enter Tryd.func5, Tryd.ntmps5
  go_wp2_with fail
  refine ((fun W hW => word_bad c W hW h1) _ (HT.out.below HB0.out)).mono ?_
  rintro e w1 ⟨rfl, b1⟩
  have HB1 : Hid (Below w.heap.size w w1) := q_trans HB0.out b1
  have HI1 : Hid (In w1 w.heap.size c) := HI.out.below b1
  have HJ1 : Hid (In w1 (w.heap.size + 1) d) := HJ.out.below b1
  obtain ⟨d0, d1, d2, d3, d4⟩ := HJ1.out
  clear b1
  go_wp2_with fail
  refine ((fun W hW => word_bad d W hW h2) _ (HT.out.below HB1.out)).mono ?_
  rintro e w2 ⟨rfl, b2⟩
  have HB2 : Hid (Below w.heap.size w w2) := q_trans HB1.out b2
  have HI2 : Hid (In w2 w.heap.size c) := HI1.out.below b2
  have HJ2 : Hid (In w2 (w.heap.size + 1) d) := HJ1.out.below b2
  clear b2 d0 d1 d2 d3 d4
  go_wp2_with (go_at_call 13; refine (num_any _ _).mono ?_; rintro e w5 ⟨rfl, rfl⟩)
  cases hb : parB x with
  | true =>
    obtain ⟨p, hp⟩ : ∃ p, parC x = p := ⟨_, rfl⟩
    have HP : Hid (∀ W : World, Tabs W → Calls Tryd.prog 11 #[.int .u64 x] W fun e w' => e = .returned (.tuple #[(.agg #[.int .i64 p.t, .int .i64 p.r, .int .i64 p.b, .int .i64 p.o, .int .i64 p.g]), .int .i64 0]) ∧ Below W.heap.size W w') := fun W hW => by
      have := parse_any x W HX.out hW
      rwa [(par_ok hb).2.2.1, hp] at this
    have hok : okB p = true := hp ▸ (par_ok hb).1
    have HK : Hid (okB p = true) := hok
    have HW : Hid (∀ W : World, Tabs W → Calls Tryd.prog 9 #[(.agg #[.int .i64 p.t, .int .i64 p.r, .int .i64 p.b, .int .i64 p.o, .int .i64 p.g])] W fun e w' => e = .returned (.tuple #[.int .u64 x, .int .i64 0]) ∧ Below W.heap.size W w') := fun W hW => by
      have := word_c hok W hW
      rwa [← hp, (par_ok hb).2.1, hp] at this
    clear hok hp hb
    refine (HP.out _ (HT.out.below HB2.out)).mono ?_
    rintro e w7 ⟨rfl, b7⟩
    have HB7 : Hid (Below w.heap.size w (w7.alloc (.cells #[.int .i64 p.t, .int .i64 p.r, .int .i64 p.b, .int .i64 p.o, .int .i64 p.g] 23))) := q_alloc (q_trans HB2.out b7) _
    have HI7 : Hid (In (w7.alloc (.cells #[.int .i64 p.t, .int .i64 p.r, .int .i64 p.b, .int .i64 p.o, .int .i64 p.g] 23)) w7.heap.size p) := in_new w7 p 23
    clear b7
    go_wp2_with (go_at_call 13; refine (num_any _ _).mono ?_; rintro e w5 ⟨rfl, rfl⟩)
    refine (HW.out _ (HT.out.below HB7.out)).mono ?_
    rintro e w8 ⟨rfl, b8⟩
    have HB8 : Hid (Below w.heap.size w w8) := q_trans HB7.out b8
    obtain ⟨p0, p1, p2, p3, p4⟩ := HI7.out.below b8
    clear b8
    go_wp2_with (go_at_call 13; refine (num_any _ _).mono ?_; rintro e w5 ⟨rfl, rfl⟩)
    refine (check_c HK.out _ (HT.out.below HB8.out)).mono ?_
    rintro e w9 ⟨rfl, b9⟩
    have HB9 : Hid (Below w.heap.size w w9) := q_trans HB8.out b9
    clear b9 p0 p1 p2 p3 p4
    go_wp2_with (first | (go_at_call 13; refine (num_any _ _).mono ?_; rintro e w5 ⟨rfl, rfl⟩) | (go_at_call 18; refine (live_any _ (HT.out.below HB9.out)).mono ?_; rintro e w6 ⟨rfl, b6⟩))
    go_ret
    exact ⟨rfl, q_trans HB9.out b6⟩
  | false =>
    have HP : Hid (∀ W : World, Tabs W → Calls Tryd.prog 11 #[.int .u64 x] W fun e w' => e = .returned (.tuple #[.agg #[.int .i64 0, .int .i64 0, .int .i64 0, .int .i64 0, .int .i64 0], .int .i64 30]) ∧ Below W.heap.size W w') := fun W hW => by
      have := parse_any x W HX.out hW
      rwa [(par_no hb).1, (par_no hb).2] at this
    clear hb
    refine (HP.out _ (HT.out.below HB2.out)).mono ?_
    rintro e w7 ⟨rfl, b7⟩
    have HB7 : Hid (Below w.heap.size w (w7.alloc (.cells #[.int .i64 0, .int .i64 0, .int .i64 0, .int .i64 0, .int .i64 0] 23))) := q_alloc (q_trans HB2.out b7) _
    clear b7
    go_wp2_with (first | (go_at_call 13; refine (num_any _ _).mono ?_; rintro e w5 ⟨rfl, rfl⟩) | (go_at_call 18; refine (live_any _ (HT.out.below HB7.out)).mono ?_; rintro e w6 ⟨rfl, b6⟩))
    go_ret
    exact ⟨rfl, q_trans HB7.out b6⟩

set_option maxRecDepth 100000 in
set_option maxHeartbeats 2000000 in
theorem back_b (c d : K) (x : Int) (w : World) (hx : U64 x) (hT : Tabs w) (h1 : okB c = true) (h2 : okB d = false) :
    Calls Tryd.prog 5 #[(.agg #[.int .i64 c.t, .int .i64 c.r, .int .i64 c.b, .int .i64 c.o, .int .i64 c.g]), (.agg #[.int .i64 d.t, .int .i64 d.r, .int .i64 d.b, .int .i64 d.o, .int .i64 d.g]), .int .u64 x] w fun e w' => e = .returned (.bool true) ∧ Below w.heap.size w w' := by
  have HT : Hid (Tabs w) := hT
  have HX : Hid (U64 x) := hx
  obtain ⟨i1, i2, i3⟩ := two_new w c d
  have HI : Hid _ := i1
  have HJ : Hid _ := i2
  have HB0 : Hid _ := i3
  clear hT hx i1 i2 i3
  go_enter Tryd.func5, Tryd.ntmps5
  go_wp2_with fail
  refine ((word_c h1) _ (HT.out.below HB0.out)).mono ?_
  rintro e w1 ⟨rfl, b1⟩
  have HB1 : Hid (Below w.heap.size w w1) := q_trans HB0.out b1
  have HI1 : Hid (In w1 w.heap.size c) := HI.out.below b1
  have HJ1 : Hid (In w1 (w.heap.size + 1) d) := HJ.out.below b1
  obtain ⟨d0, d1, d2, d3, d4⟩ := HJ1.out
  clear b1
  go_wp2_with fail
  refine ((fun W hW => word_bad d W hW h2) _ (HT.out.below HB1.out)).mono ?_
  rintro e w2 ⟨rfl, b2⟩
  have HB2 : Hid (Below w.heap.size w w2) := q_trans HB1.out b2
  have HI2 : Hid (In w2 w.heap.size c) := HI1.out.below b2
  have HJ2 : Hid (In w2 (w.heap.size + 1) d) := HJ1.out.below b2
  clear b2 d0 d1 d2 d3 d4
  have hcc := eq5 c c
  rw [eqK_iff.2 (rfl : c = c)] at hcc
  go_wp2_with (go_at_call 13; refine (num_any _ _).mono ?_; rintro e w5 ⟨rfl, rfl⟩)
  refine (parse_c h1 _ (HT.out.below HB2.out)).mono ?_
  rintro e w3 ⟨rfl, b3⟩
  have HB3 : Hid (Below w.heap.size w (w3.alloc (.cells #[.int .i64 c.t, .int .i64 c.r, .int .i64 c.b, .int .i64 c.o, .int .i64 c.g] 23))) := q_alloc (q_trans HB2.out b3) _
  have HI3 := HI2.out.below b3
  have HJ3 := HJ2.out.below b3
  have hl1 := HI3.lt
  have hl2 := HJ3.lt
  obtain ⟨c0, c1, c2, c3, c4⟩ := HI3
  obtain ⟨d0, d1, d2, d3, d4⟩ := HJ3
  clear b3
  go_wp2_with (go_at_call 13; refine (num_any _ _).mono ?_; rintro e w5 ⟨rfl, rfl⟩)
  clear c0 c1 c2 c3 c4 d0 d1 d2 d3 d4 hcc
  cases hb : parB x with
  | true =>
    obtain ⟨p, hp⟩ : ∃ p, parC x = p := ⟨_, rfl⟩
    have HP : Hid (∀ W : World, Tabs W → Calls Tryd.prog 11 #[.int .u64 x] W fun e w' => e = .returned (.tuple #[(.agg #[.int .i64 p.t, .int .i64 p.r, .int .i64 p.b, .int .i64 p.o, .int .i64 p.g]), .int .i64 0]) ∧ Below W.heap.size W w') := fun W hW => by
      have := parse_any x W HX.out hW
      rwa [(par_ok hb).2.2.1, hp] at this
    have hok : okB p = true := hp ▸ (par_ok hb).1
    have HK : Hid (okB p = true) := hok
    have HW : Hid (∀ W : World, Tabs W → Calls Tryd.prog 9 #[(.agg #[.int .i64 p.t, .int .i64 p.r, .int .i64 p.b, .int .i64 p.o, .int .i64 p.g])] W fun e w' => e = .returned (.tuple #[.int .u64 x, .int .i64 0]) ∧ Below W.heap.size W w') := fun W hW => by
      have := word_c hok W hW
      rwa [← hp, (par_ok hb).2.1, hp] at this
    clear hok hp hb
    refine (HP.out _ (HT.out.below HB3.out)).mono ?_
    rintro e w7 ⟨rfl, b7⟩
    have HB7 : Hid (Below w.heap.size w (w7.alloc (.cells #[.int .i64 p.t, .int .i64 p.r, .int .i64 p.b, .int .i64 p.o, .int .i64 p.g] 23))) := q_alloc (q_trans HB3.out b7) _
    have HI7 : Hid (In (w7.alloc (.cells #[.int .i64 p.t, .int .i64 p.r, .int .i64 p.b, .int .i64 p.o, .int .i64 p.g] 23)) w7.heap.size p) := in_new w7 p 23
    clear b7
    go_wp2_with (go_at_call 13; refine (num_any _ _).mono ?_; rintro e w5 ⟨rfl, rfl⟩)
    refine (HW.out _ (HT.out.below HB7.out)).mono ?_
    rintro e w8 ⟨rfl, b8⟩
    have HB8 : Hid (Below w.heap.size w w8) := q_trans HB7.out b8
    obtain ⟨p0, p1, p2, p3, p4⟩ := HI7.out.below b8
    clear b8
    go_wp2_with (go_at_call 13; refine (num_any _ _).mono ?_; rintro e w5 ⟨rfl, rfl⟩)
    refine (check_c HK.out _ (HT.out.below HB8.out)).mono ?_
    rintro e w9 ⟨rfl, b9⟩
    have HB9 : Hid (Below w.heap.size w w9) := q_trans HB8.out b9
    clear b9 p0 p1 p2 p3 p4
    go_wp2_with (first | (go_at_call 13; refine (num_any _ _).mono ?_; rintro e w5 ⟨rfl, rfl⟩) | (go_at_call 18; refine (live_any _ (HT.out.below HB9.out)).mono ?_; rintro e w6 ⟨rfl, b6⟩))
    go_ret
    exact ⟨rfl, q_trans HB9.out b6⟩
  | false =>
    have HP : Hid (∀ W : World, Tabs W → Calls Tryd.prog 11 #[.int .u64 x] W fun e w' => e = .returned (.tuple #[.agg #[.int .i64 0, .int .i64 0, .int .i64 0, .int .i64 0, .int .i64 0], .int .i64 30]) ∧ Below W.heap.size W w') := fun W hW => by
      have := parse_any x W HX.out hW
      rwa [(par_no hb).1, (par_no hb).2] at this
    clear hb
    refine (HP.out _ (HT.out.below HB3.out)).mono ?_
    rintro e w7 ⟨rfl, b7⟩
    have HB7 : Hid (Below w.heap.size w (w7.alloc (.cells #[.int .i64 0, .int .i64 0, .int .i64 0, .int .i64 0, .int .i64 0] 23))) := q_alloc (q_trans HB3.out b7) _
    clear b7
    go_wp2_with (first | (go_at_call 13; refine (num_any _ _).mono ?_; rintro e w5 ⟨rfl, rfl⟩) | (go_at_call 18; refine (live_any _ (HT.out.below HB7.out)).mono ?_; rintro e w6 ⟨rfl, b6⟩))
    go_ret
    exact ⟨rfl, q_trans HB7.out b6⟩

set_option maxRecDepth 100000 in
set_option maxHeartbeats 2000000 in
theorem back_c2 (c d : K) (x : Int) (w : World) (hx : U64 x) (hT : Tabs w) (h1 : okB c = true) (h2 : okB d = true) (h3 : ¬ c = d) :
    Calls Tryd.prog 5 #[(.agg #[.int .i64 c.t, .int .i64 c.r, .int .i64 c.b, .int .i64 c.o, .int .i64 c.g]), (.agg #[.int .i64 d.t, .int .i64 d.r, .int .i64 d.b, .int .i64 d.o, .int .i64 d.g]), .int .u64 x] w fun e w' => e = .returned (.bool true) ∧ Below w.heap.size w w' := by
  have HT : Hid (Tabs w) := hT
  have HX : Hid (U64 x) := hx
  obtain ⟨i1, i2, i3⟩ := two_new w c d
  have HI : Hid _ := i1
  have HJ : Hid _ := i2
  have HB0 : Hid _ := i3
  clear hT hx i1 i2 i3
  have hwd : (wordT c == wordT d) = false := beq_eq_false_iff_ne.2 fun e => h3 (word_inj h1 h2 e)
  have hcd := eq5 c d
  rw [eqK_no h3] at hcd
  clear h3
  go_enter Tryd.func5, Tryd.ntmps5
  go_wp2_with fail
  refine ((word_c h1) _ (HT.out.below HB0.out)).mono ?_
  rintro e w1 ⟨rfl, b1⟩
  have HB1 : Hid (Below w.heap.size w w1) := q_trans HB0.out b1
  have HI1 : Hid (In w1 w.heap.size c) := HI.out.below b1
  have HJ1 : Hid (In w1 (w.heap.size + 1) d) := HJ.out.below b1
  obtain ⟨d0, d1, d2, d3, d4⟩ := HJ1.out
  clear b1
  go_wp2_with fail
  refine ((word_c h2) _ (HT.out.below HB1.out)).mono ?_
  rintro e w2 ⟨rfl, b2⟩
  have HB2 : Hid (Below w.heap.size w w2) := q_trans HB1.out b2
  have HI2 : Hid (In w2 w.heap.size c) := HI1.out.below b2
  have HJ2 : Hid (In w2 (w.heap.size + 1) d) := HJ1.out.below b2
  clear b2 d0 d1 d2 d3 d4
  have hcc := eq5 c c
  rw [eqK_iff.2 (rfl : c = c)] at hcc
  go_wp2_with (go_at_call 13; refine (num_any _ _).mono ?_; rintro e w5 ⟨rfl, rfl⟩)
  refine (parse_c h1 _ (HT.out.below HB2.out)).mono ?_
  rintro e w3 ⟨rfl, b3⟩
  have HB3 : Hid (Below w.heap.size w (w3.alloc (.cells #[.int .i64 c.t, .int .i64 c.r, .int .i64 c.b, .int .i64 c.o, .int .i64 c.g] 23))) := q_alloc (q_trans HB2.out b3) _
  have HI3 := HI2.out.below b3
  have HJ3 := HJ2.out.below b3
  have hl1 := HI3.lt
  have hl2 := HJ3.lt
  obtain ⟨c0, c1, c2, c3, c4⟩ := HI3
  obtain ⟨d0, d1, d2, d3, d4⟩ := HJ3
  clear b3
  go_wp2_with (go_at_call 13; refine (num_any _ _).mono ?_; rintro e w5 ⟨rfl, rfl⟩)
  clear c0 c1 c2 c3 c4 d0 d1 d2 d3 d4 hcc
  cases hb : parB x with
  | true =>
    obtain ⟨p, hp⟩ : ∃ p, parC x = p := ⟨_, rfl⟩
    have HP : Hid (∀ W : World, Tabs W → Calls Tryd.prog 11 #[.int .u64 x] W fun e w' => e = .returned (.tuple #[(.agg #[.int .i64 p.t, .int .i64 p.r, .int .i64 p.b, .int .i64 p.o, .int .i64 p.g]), .int .i64 0]) ∧ Below W.heap.size W w') := fun W hW => by
      have := parse_any x W HX.out hW
      rwa [(par_ok hb).2.2.1, hp] at this
    have hok : okB p = true := hp ▸ (par_ok hb).1
    have HK : Hid (okB p = true) := hok
    have HW : Hid (∀ W : World, Tabs W → Calls Tryd.prog 9 #[(.agg #[.int .i64 p.t, .int .i64 p.r, .int .i64 p.b, .int .i64 p.o, .int .i64 p.g])] W fun e w' => e = .returned (.tuple #[.int .u64 x, .int .i64 0]) ∧ Below W.heap.size W w') := fun W hW => by
      have := word_c hok W hW
      rwa [← hp, (par_ok hb).2.1, hp] at this
    clear hok hp hb
    refine (HP.out _ (HT.out.below HB3.out)).mono ?_
    rintro e w7 ⟨rfl, b7⟩
    have HB7 : Hid (Below w.heap.size w (w7.alloc (.cells #[.int .i64 p.t, .int .i64 p.r, .int .i64 p.b, .int .i64 p.o, .int .i64 p.g] 23))) := q_alloc (q_trans HB3.out b7) _
    have HI7 : Hid (In (w7.alloc (.cells #[.int .i64 p.t, .int .i64 p.r, .int .i64 p.b, .int .i64 p.o, .int .i64 p.g] 23)) w7.heap.size p) := in_new w7 p 23
    clear b7
    go_wp2_with (go_at_call 13; refine (num_any _ _).mono ?_; rintro e w5 ⟨rfl, rfl⟩)
    refine (HW.out _ (HT.out.below HB7.out)).mono ?_
    rintro e w8 ⟨rfl, b8⟩
    have HB8 : Hid (Below w.heap.size w w8) := q_trans HB7.out b8
    obtain ⟨p0, p1, p2, p3, p4⟩ := HI7.out.below b8
    clear b8
    go_wp2_with (go_at_call 13; refine (num_any _ _).mono ?_; rintro e w5 ⟨rfl, rfl⟩)
    refine (check_c HK.out _ (HT.out.below HB8.out)).mono ?_
    rintro e w9 ⟨rfl, b9⟩
    have HB9 : Hid (Below w.heap.size w w9) := q_trans HB8.out b9
    clear b9 p0 p1 p2 p3 p4
    go_wp2_with (first | (go_at_call 13; refine (num_any _ _).mono ?_; rintro e w5 ⟨rfl, rfl⟩) | (go_at_call 18; refine (live_any _ (HT.out.below HB9.out)).mono ?_; rintro e w6 ⟨rfl, b6⟩))
    go_ret
    exact ⟨rfl, q_trans HB9.out b6⟩
  | false =>
    have HP : Hid (∀ W : World, Tabs W → Calls Tryd.prog 11 #[.int .u64 x] W fun e w' => e = .returned (.tuple #[.agg #[.int .i64 0, .int .i64 0, .int .i64 0, .int .i64 0, .int .i64 0], .int .i64 30]) ∧ Below W.heap.size W w') := fun W hW => by
      have := parse_any x W HX.out hW
      rwa [(par_no hb).1, (par_no hb).2] at this
    clear hb
    refine (HP.out _ (HT.out.below HB3.out)).mono ?_
    rintro e w7 ⟨rfl, b7⟩
    have HB7 : Hid (Below w.heap.size w (w7.alloc (.cells #[.int .i64 0, .int .i64 0, .int .i64 0, .int .i64 0, .int .i64 0] 23))) := q_alloc (q_trans HB3.out b7) _
    clear b7
    go_wp2_with (first | (go_at_call 13; refine (num_any _ _).mono ?_; rintro e w5 ⟨rfl, rfl⟩) | (go_at_call 18; refine (live_any _ (HT.out.below HB7.out)).mono ?_; rintro e w6 ⟨rfl, b6⟩))
    go_ret
    exact ⟨rfl, q_trans HB7.out b6⟩

set_option maxRecDepth 100000 in
set_option maxHeartbeats 2000000 in
theorem back_c1 (c : K) (x : Int) (w : World) (hx : U64 x) (hT : Tabs w) (h1 : okB c = true) :
    Calls Tryd.prog 5 #[(.agg #[.int .i64 c.t, .int .i64 c.r, .int .i64 c.b, .int .i64 c.o, .int .i64 c.g]), (.agg #[.int .i64 c.t, .int .i64 c.r, .int .i64 c.b, .int .i64 c.o, .int .i64 c.g]), .int .u64 x] w fun e w' => e = .returned (.bool true) ∧ Below w.heap.size w w' := by
  have HT : Hid (Tabs w) := hT
  have HX : Hid (U64 x) := hx
  obtain ⟨i1, i2, i3⟩ := two_new w c c
  have HI : Hid _ := i1
  have HJ : Hid _ := i2
  have HB0 : Hid _ := i3
  clear hT hx i1 i2 i3
  go_enter Tryd.func5, Tryd.ntmps5
  go_wp2_with fail
  refine ((word_c h1) _ (HT.out.below HB0.out)).mono ?_
  rintro e w1 ⟨rfl, b1⟩
  have HB1 : Hid (Below w.heap.size w w1) := q_trans HB0.out b1
  have HI1 : Hid (In w1 w.heap.size c) := HI.out.below b1
  have HJ1 : Hid (In w1 (w.heap.size + 1) c) := HJ.out.below b1
  obtain ⟨d0, d1, d2, d3, d4⟩ := HJ1.out
  clear b1
  go_wp2_with fail
  refine ((word_c h1) _ (HT.out.below HB1.out)).mono ?_
  rintro e w2 ⟨rfl, b2⟩
  have HB2 : Hid (Below w.heap.size w w2) := q_trans HB1.out b2
  have HI2 : Hid (In w2 w.heap.size c) := HI1.out.below b2
  have HJ2 : Hid (In w2 (w.heap.size + 1) c) := HJ1.out.below b2
  clear b2 d0 d1 d2 d3 d4
  have hcc := eq5 c c
  rw [eqK_iff.2 (rfl : c = c)] at hcc
  go_wp2_with (go_at_call 13; refine (num_any _ _).mono ?_; rintro e w5 ⟨rfl, rfl⟩)
  refine (parse_c h1 _ (HT.out.below HB2.out)).mono ?_
  rintro e w3 ⟨rfl, b3⟩
  have HB3 : Hid (Below w.heap.size w (w3.alloc (.cells #[.int .i64 c.t, .int .i64 c.r, .int .i64 c.b, .int .i64 c.o, .int .i64 c.g] 23))) := q_alloc (q_trans HB2.out b3) _
  have HI3 := HI2.out.below b3
  have HJ3 := HJ2.out.below b3
  have hl1 := HI3.lt
  have hl2 := HJ3.lt
  obtain ⟨c0, c1, c2, c3, c4⟩ := HI3
  obtain ⟨d0, d1, d2, d3, d4⟩ := HJ3
  clear b3
  go_wp2_with (go_at_call 13; refine (num_any _ _).mono ?_; rintro e w5 ⟨rfl, rfl⟩)
  clear c0 c1 c2 c3 c4 d0 d1 d2 d3 d4 hcc
  cases hb : parB x with
  | true =>
    obtain ⟨p, hp⟩ : ∃ p, parC x = p := ⟨_, rfl⟩
    have HP : Hid (∀ W : World, Tabs W → Calls Tryd.prog 11 #[.int .u64 x] W fun e w' => e = .returned (.tuple #[(.agg #[.int .i64 p.t, .int .i64 p.r, .int .i64 p.b, .int .i64 p.o, .int .i64 p.g]), .int .i64 0]) ∧ Below W.heap.size W w') := fun W hW => by
      have := parse_any x W HX.out hW
      rwa [(par_ok hb).2.2.1, hp] at this
    have hok : okB p = true := hp ▸ (par_ok hb).1
    have HK : Hid (okB p = true) := hok
    have HW : Hid (∀ W : World, Tabs W → Calls Tryd.prog 9 #[(.agg #[.int .i64 p.t, .int .i64 p.r, .int .i64 p.b, .int .i64 p.o, .int .i64 p.g])] W fun e w' => e = .returned (.tuple #[.int .u64 x, .int .i64 0]) ∧ Below W.heap.size W w') := fun W hW => by
      have := word_c hok W hW
      rwa [← hp, (par_ok hb).2.1, hp] at this
    clear hok hp hb
    refine (HP.out _ (HT.out.below HB3.out)).mono ?_
    rintro e w7 ⟨rfl, b7⟩
    have HB7 : Hid (Below w.heap.size w (w7.alloc (.cells #[.int .i64 p.t, .int .i64 p.r, .int .i64 p.b, .int .i64 p.o, .int .i64 p.g] 23))) := q_alloc (q_trans HB3.out b7) _
    have HI7 : Hid (In (w7.alloc (.cells #[.int .i64 p.t, .int .i64 p.r, .int .i64 p.b, .int .i64 p.o, .int .i64 p.g] 23)) w7.heap.size p) := in_new w7 p 23
    clear b7
    go_wp2_with (go_at_call 13; refine (num_any _ _).mono ?_; rintro e w5 ⟨rfl, rfl⟩)
    refine (HW.out _ (HT.out.below HB7.out)).mono ?_
    rintro e w8 ⟨rfl, b8⟩
    have HB8 : Hid (Below w.heap.size w w8) := q_trans HB7.out b8
    obtain ⟨p0, p1, p2, p3, p4⟩ := HI7.out.below b8
    clear b8
    go_wp2_with (go_at_call 13; refine (num_any _ _).mono ?_; rintro e w5 ⟨rfl, rfl⟩)
    refine (check_c HK.out _ (HT.out.below HB8.out)).mono ?_
    rintro e w9 ⟨rfl, b9⟩
    have HB9 : Hid (Below w.heap.size w w9) := q_trans HB8.out b9
    clear b9 p0 p1 p2 p3 p4
    go_wp2_with (first | (go_at_call 13; refine (num_any _ _).mono ?_; rintro e w5 ⟨rfl, rfl⟩) | (go_at_call 18; refine (live_any _ (HT.out.below HB9.out)).mono ?_; rintro e w6 ⟨rfl, b6⟩))
    go_ret
    exact ⟨rfl, q_trans HB9.out b6⟩
  | false =>
    have HP : Hid (∀ W : World, Tabs W → Calls Tryd.prog 11 #[.int .u64 x] W fun e w' => e = .returned (.tuple #[.agg #[.int .i64 0, .int .i64 0, .int .i64 0, .int .i64 0, .int .i64 0], .int .i64 30]) ∧ Below W.heap.size W w') := fun W hW => by
      have := parse_any x W HX.out hW
      rwa [(par_no hb).1, (par_no hb).2] at this
    clear hb
    refine (HP.out _ (HT.out.below HB3.out)).mono ?_
    rintro e w7 ⟨rfl, b7⟩
    have HB7 : Hid (Below w.heap.size w (w7.alloc (.cells #[.int .i64 0, .int .i64 0, .int .i64 0, .int .i64 0, .int .i64 0] 23))) := q_alloc (q_trans HB3.out b7) _
    clear b7
    go_wp2_with (first | (go_at_call 13; refine (num_any _ _).mono ?_; rintro e w5 ⟨rfl, rfl⟩) | (go_at_call 18; refine (live_any _ (HT.out.below HB7.out)).mono ?_; rintro e w6 ⟨rfl, b6⟩))
    go_ret
    exact ⟨rfl, q_trans HB7.out b6⟩

theorem back_walk (c d : K) (x : Int) (w : World) (hx : U64 x) (hT : Tabs w) :
    Calls Tryd.prog 5 #[(.agg #[.int .i64 c.t, .int .i64 c.r, .int .i64 c.b, .int .i64 c.o, .int .i64 c.g]), (.agg #[.int .i64 d.t, .int .i64 d.r, .int .i64 d.b, .int .i64 d.o, .int .i64 d.g]), .int .u64 x] w fun e w' => e = .returned (.bool true) ∧ Below w.heap.size w w' := by
  cases h1 : okB c with
  | false =>
    cases h2 : okB d with
    | true => exact back_a0 c d x w hx hT h1 h2
    | false => exact back_a1 c d x w hx hT h1 h2
  | true =>
    cases h2 : okB d with
    | false => exact back_b c d x w hx hT h1 h2
    | true =>
      by_cases h3 : c = d
      · subst h3
        exact back_c1 c x w hx hT h1
      · exact back_c2 c d x w hx hT h1 h2 h3
end Go.Proofs.YtgjkocbfpcgccaaDoor.Cp
