/- CapTwice answers true. -/
import Derived.Test.YtgjkocbfpcgccabDoorCpW7
import Derived.Test.YtgjkocbfpcgccabDoorCpFacts
namespace Go.Proofs.YtgjkocbfpcgccabDoor.Cp
open Go.RowKit

set_option maxRecDepth 100000 in
set_option maxHeartbeats 2000000 in
theorem twice_walk (c : K) (r l b : Int) (w : World) (hT : Tabs w) :
    Calls Tryd.prog 3 #[(.agg #[.int .i64 c.t, .int .i64 c.r, .int .i64 c.b, .int .i64 c.o, .int .i64 c.g]), .int .i64 r, .int .i64 l, .int .i64 b] w fun e w' => e = .returned (.bool true) ∧ Below w.heap.size w w' := by
  obtain ⟨d, hd⟩ : ∃ d, drvC c r 0 = d := ⟨_, rfl⟩
  obtain ⟨f, hf⟩ : ∃ f, drvC d l b = f := ⟨_, rfl⟩
  have H1 : ∀ W : World, Tabs W → Calls Tryd.prog 5 #[(.agg #[.int .i64 c.t, .int .i64 c.r, .int .i64 c.b, .int .i64 c.o, .int .i64 c.g]), .int .i64 r, .int .i64 0] W fun e w' => e = .returned (.tuple #[(.agg #[.int .i64 d.t, .int .i64 d.r, .int .i64 d.b, .int .i64 d.o, .int .i64 d.g]), .int .i64 (drvE c r 0)]) ∧ Below W.heap.size W w' := fun W hW => by
    have := derive_any c r 0 W hW
    rwa [hd] at this
  have H2 : ∀ W : World, Tabs W → Calls Tryd.prog 5 #[(.agg #[.int .i64 d.t, .int .i64 d.r, .int .i64 d.b, .int .i64 d.o, .int .i64 d.g]), .int .i64 l, .int .i64 b] W fun e w' => e = .returned (.tuple #[(.agg #[.int .i64 f.t, .int .i64 f.r, .int .i64 f.b, .int .i64 f.o, .int .i64 f.g]), .int .i64 (drvE d l b)]) ∧ Below W.heap.size W w' := fun W hW => by
    have := derive_any d l b W hW
    rwa [hf] at this
  have HI : Hid (In (w.alloc (.cells #[.int .i64 c.t, .int .i64 c.r, .int .i64 c.b, .int .i64 c.o, .int .i64 c.g] 23)) w.heap.size c) := in_new w c 23
  have HT : Hid (Tabs w) := hT
  clear hT
  by_cases hz : drvE c r 0 = 0 ∧ drvE d l b = 0
  · have h3 := drv_twice hz.1 (by rw [hd]; exact hz.2)
    rw [hd, hf] at h3
    have H3 : Hid (∀ W : World, Tabs W → Calls Tryd.prog 5 #[(.agg #[.int .i64 c.t, .int .i64 c.r, .int .i64 c.b, .int .i64 c.o, .int .i64 c.g]), .int .i64 l, .int .i64 b] W fun e w' => e = .returned (.tuple #[(.agg #[.int .i64 f.t, .int .i64 f.r, .int .i64 f.b, .int .i64 f.o, .int .i64 f.g]), .int .i64 0]) ∧ Below W.heap.size W w') := fun W hW => by
      have := derive_any c l b W hW
      rwa [h3.1, h3.2] at this
    rw [hz.1] at H1
    rw [hz.2] at H2
    have G1 : Hid _ := H1
    have G2 : Hid _ := H2
    have he := eq5 f f
    rw [eqK_iff.2 (rfl : f = f)] at he
    clear h3 hz H1 H2 hd hf
    go_enter Tryd.func3, Tryd.ntmps3
    go_wp2_with fail
    refine (G1.out _ (HT.out.below (q_alloc (Below.refl _ _) _))).mono ?_
    rintro e w1 ⟨rfl, b1⟩
    have HB1 : Hid (Below w.heap.size w (w1.alloc (.cells #[.int .i64 d.t, .int .i64 d.r, .int .i64 d.b, .int .i64 d.o, .int .i64 d.g] 23))) := q_alloc (q_trans (q_alloc (Below.refl _ _) _) b1) _
    have HI1 : Hid (In (w1.alloc (.cells #[.int .i64 d.t, .int .i64 d.r, .int .i64 d.b, .int .i64 d.o, .int .i64 d.g] 23)) w.heap.size c) := (HI.out.below b1).below (q_alloc (Below.refl _ _) _)
    clear b1
    go_wp2_with fail
    refine (G2.out _ (HT.out.below HB1.out)).mono ?_
    rintro e w2 ⟨rfl, b2⟩
    have HB2 : Hid (Below w.heap.size w (w2.alloc (.cells #[.int .i64 f.t, .int .i64 f.r, .int .i64 f.b, .int .i64 f.o, .int .i64 f.g] 23))) := q_alloc (q_trans HB1.out b2) _
    have HI2 : Hid (In w2 w.heap.size c) := HI1.out.below b2
    have HF2 : Hid (In (w2.alloc (.cells #[.int .i64 f.t, .int .i64 f.r, .int .i64 f.b, .int .i64 f.o, .int .i64 f.g] 23)) w2.heap.size f) := in_new w2 f 23
    obtain ⟨c0, c1, c2, c3, c4⟩ := HI2.out
    have hl2 := HI2.out.lt
    clear b2
    go_wp2_with (go_at_call 6; refine (num_any _ _).mono ?_; rintro e w5 ⟨rfl, rfl⟩)
    refine (H3.out _ (HT.out.below HB2.out)).mono ?_
    rintro e w3 ⟨rfl, b3⟩
    have HB3 : Hid (Below w.heap.size w (w3.alloc (.cells #[.int .i64 f.t, .int .i64 f.r, .int .i64 f.b, .int .i64 f.o, .int .i64 f.g] 23))) := q_alloc (q_trans HB2.out b3) _
    have HF3 := HF2.out.below b3
    have hl3 := HF3.lt
    obtain ⟨f0, f1, f2, f3, f4⟩ := HF3
    clear b3 c0 c1 c2 c3 c4
    go_wp2_with (first | (go_at_call 6; refine (num_any _ _).mono ?_; rintro e w5 ⟨rfl, rfl⟩) | (go_at_call 7; refine (live_any _ (HT.out.below HB3.out)).mono ?_; rintro e w6 ⟨rfl, b6⟩))
    go_ret
    exact ⟨rfl, q_trans HB3.out b6⟩
  · have hv1 := drvE_vals c r 0
    have hv2 := drvE_vals d l b
    have hne : ¬ (drvE c r 0 + drvE d l b = 0) := by omega
    have k0 : 0 ≤ drvE c r 0 ∧ drvE c r 0 ≤ 30 := by omega
    have k1 : 0 ≤ drvE d l b ∧ drvE d l b ≤ 30 := by omega
    clear hz hv1 hv2
    generalize drvE c r 0 = E1 at *
    generalize drvE d l b = E2 at *
    have G1 : Hid _ := H1
    have G2 : Hid _ := H2
    clear H1 H2 hd hf
    obtain ⟨k00, k01⟩ := k0
    obtain ⟨k10, k11⟩ := k1
    go_enter Tryd.func3, Tryd.ntmps3
    go_wp2_with fail
    refine (G1.out _ (HT.out.below (q_alloc (Below.refl _ _) _))).mono ?_
    rintro e w1 ⟨rfl, b1⟩
    have HB1 : Hid (Below w.heap.size w (w1.alloc (.cells #[.int .i64 d.t, .int .i64 d.r, .int .i64 d.b, .int .i64 d.o, .int .i64 d.g] 23))) := q_alloc (q_trans (q_alloc (Below.refl _ _) _) b1) _
    clear b1
    go_wp2_with fail
    refine (G2.out _ (HT.out.below HB1.out)).mono ?_
    rintro e w2 ⟨rfl, b2⟩
    have HB2 : Hid (Below w.heap.size w (w2.alloc (.cells #[.int .i64 f.t, .int .i64 f.r, .int .i64 f.b, .int .i64 f.o, .int .i64 f.g] 23))) := q_alloc (q_trans HB1.out b2) _
    clear b2
    go_wp2_with (first | (go_at_call 6; refine (num_any _ _).mono ?_; rintro e w5 ⟨rfl, rfl⟩) | (go_at_call 7; refine (live_any _ (HT.out.below HB2.out)).mono ?_; rintro e w6 ⟨rfl, b6⟩))
    go_ret
    exact ⟨rfl, q_trans HB2.out b6⟩
end Go.Proofs.YtgjkocbfpcgccabDoor.Cp
