/- CapDerives answers true. -/
import Derived.Test.YtgjkocbfpcgccaaDoorCpRefB
namespace Go.Proofs.YtgjkocbfpcgccaaDoor.Cp
open Go.RowKit

set_option maxRecDepth 100000 in
set_option maxHeartbeats 1000000 in
theorem derives_walk (c d : K) (r b : Int) (w : World) (hT : Tabs w) :
    Calls Tryd.prog 4 #[(.agg #[.int .i64 c.t, .int .i64 c.r, .int .i64 c.b, .int .i64 c.o, .int .i64 c.g]), (.agg #[.int .i64 d.t, .int .i64 d.r, .int .i64 d.b, .int .i64 d.o, .int .i64 d.g]), .int .i64 r, .int .i64 b] w fun e w' => e = .returned (.bool true) ∧ Below w.heap.size w w' := by
  have HT : Hid (Tabs w) := hT
  obtain ⟨i1, i2, i3⟩ := two_new w c d
  have HI : Hid _ := i1
  have HJ : Hid _ := i2
  have HB0 : Hid _ := i3
  obtain ⟨p, hp⟩ : ∃ p, drvC c r b = p := ⟨_, rfl⟩
  obtain ⟨E, hE⟩ : ∃ E, drvE c r b = E := ⟨_, rfl⟩
  have M1 : Hid (∀ W : World, Tabs W → Calls Tryd.prog 19 #[(.agg #[.int .i64 c.t, .int .i64 c.r, .int .i64 c.b, .int .i64 c.o, .int .i64 c.g]), .int .i64 r, .int .i64 b] W fun e w' => e = .returned (.tuple #[(.agg #[.int .i64 p.t, .int .i64 p.r, .int .i64 p.b, .int .i64 p.o, .int .i64 p.g]), .int .i64 E]) ∧ Below W.heap.size W w') := fun W hW => by
    have := derive_any c r b W hW
    rwa [hp, hE] at this
  have M2 : Hid (∀ W : World, Calls Tryd.prog 20 #[(.agg #[.int .i64 c.t, .int .i64 c.r, .int .i64 c.b, .int .i64 c.o, .int .i64 c.g]), .int .i64 r, .int .i64 b] W fun e w' => e = .returned (.tuple #[(.agg #[.int .i64 p.t, .int .i64 p.r, .int .i64 p.b, .int .i64 p.o, .int .i64 p.g]), .int .i64 E]) ∧ Below W.heap.size W w') := fun W => by
    have := rderive_any c r b W
    rwa [hp, hE] at this
  clear hT i1 i2 i3 hp hE
  go_enter Tryd.func4, Tryd.ntmps4
  go_wp2_with fail
  refine (M1.out _ (HT.out.below HB0.out)).mono ?_
  rintro e w1 ⟨rfl, b1⟩
  have b1' := q_alloc (Below.refl w1.heap.size w1) (.cells #[.int .i64 p.t, .int .i64 p.r, .int .i64 p.b, .int .i64 p.o, .int .i64 p.g] 23)
  have HB1 : Hid (Below w.heap.size w (w1.alloc (.cells #[.int .i64 p.t, .int .i64 p.r, .int .i64 p.b, .int .i64 p.o, .int .i64 p.g] 23))) := q_trans (q_trans HB0.out b1) b1'
  have HI1 : Hid (In (w1.alloc (.cells #[.int .i64 p.t, .int .i64 p.r, .int .i64 p.b, .int .i64 p.o, .int .i64 p.g] 23)) w.heap.size c) := (HI.out.below b1).below b1'
  have HJ1 : Hid (In (w1.alloc (.cells #[.int .i64 p.t, .int .i64 p.r, .int .i64 p.b, .int .i64 p.o, .int .i64 p.g] 23)) (w.heap.size + 1) d) := (HJ.out.below b1).below b1'
  have HP1 : Hid (In (w1.alloc (.cells #[.int .i64 p.t, .int .i64 p.r, .int .i64 p.b, .int .i64 p.o, .int .i64 p.g] 23)) w1.heap.size p) := in_new w1 p 23
  have e1 := HI.out.below b1
  have hl1 := e1.lt
  obtain ⟨c0, c1, c2, c3, c4⟩ := e1
  clear b1 b1'
  go_wp2_with fail
  refine (M2.out _).mono ?_
  rintro e w2 ⟨rfl, b2⟩
  have b2' := q_alloc (Below.refl w2.heap.size w2) (.cells #[.int .i64 p.t, .int .i64 p.r, .int .i64 p.b, .int .i64 p.o, .int .i64 p.g] 23)
  have HB2 := q_trans (q_trans HB1.out b2) b2'
  have HI2 := (HI1.out.below b2).below b2'
  have HJ2 := (HJ1.out.below b2).below b2'
  have HP2 := (HP1.out.below b2).below b2'
  have HQ2 := in_new w2 p 23
  clear b2 b2' c0 c1 c2 c3 c4
  go_wp2_with fail
  obtain ⟨W, hW⟩ : ∃ W, w2.alloc (.cells #[.int .i64 p.t, .int .i64 p.r, .int .i64 p.b, .int .i64 p.o, .int .i64 p.g] 23) = W := ⟨_, rfl⟩
  rw [hW] at HB2 HI2 HJ2 HP2 HQ2 ⊢
  clear hW HB1 HI1 HJ1 HP1 HI HJ HB0
  obtain ⟨c0, c1, c2, c3, c4⟩ := HI2.always
  obtain ⟨d0, d1, d2, d3, d4⟩ := HJ2.always
  obtain ⟨p0, p1, p2, p3, p4⟩ := HP2.always
  obtain ⟨q0, q1, q2, q3, q4⟩ := HQ2.always
  have HB : Hid (Below w.heap.size w W) := HB2
  have HTL : Hid (∀ g : Later W, Tabs g.now) := fun g => HT.out.below (q_trans HB.out g.low)
  have hne : Nonempty (Later W) := ⟨⟨W, Below.refl _ _⟩⟩
  have he := eq5 p p
  rw [eqK_iff.2 (rfl : p = p)] at he
  clear HB2 HI2 HJ2 HP2 HQ2
  refine wp_region_later (by kernel_rfl) (by kernel_rfl) ?_
  repeat (go_big_quiet_step (first | (go_at_call 13; exact later_same (num_any _ _)) | (go_at_call 21; exact later_call (may_any c _ _ (HTL.out _))) | (go_at_call 22; exact later_call (rmay_any c _ _)) | (go_at_call 23; exact later_call (names_any c d _)) | (go_at_call 24; exact later_call (rnames_any c d _)) | (go_at_call 18; exact later_call (live_any _ (HTL.out _)))))
  refine wpQuiet_nil ?_
  rintro w3 ⟨⟨_, b3⟩, rfl⟩
  go_wp2_with fail
  go_ret
  exact ⟨rfl, q_trans HB.out b3⟩
end Go.Proofs.YtgjkocbfpcgccaaDoor.Cp
