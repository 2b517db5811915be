/- CapWords answers true. -/
import Derived.Test.YtgjkocbfpcgccaaDoorCpW7
import Derived.Test.YtgjkocbfpcgccaaDoorCpRefD
import Derived.Test.YtgjkocbfpcgccaaDoorCpRefE
namespace Go.Proofs.YtgjkocbfpcgccaaDoor.Cp
open Go.RowKit

set_option maxRecDepth 100000 in
set_option maxHeartbeats 1000000 in
theorem words_at (c : K) (x E : Int) (ok : Bool) (w : World) (hx : U64 x) (hT : Tabs w) (hE : chkE c = E) (hk : okB c = ok) (hd : (E == 0) = ok) :
    Calls Tryd.prog 3 #[(.agg #[.int .i64 c.t, .int .i64 c.r, .int .i64 c.b, .int .i64 c.o, .int .i64 c.g]), .int .u64 x] w fun e w' => e = .returned (.bool true) ∧ Below w.heap.size w w' := by
  have HT : Hid (Tabs w) := hT
  have HX : Hid (U64 x) := hx
  have HI : Hid (In (w.alloc (.cells #[.int .i64 c.t, .int .i64 c.r, .int .i64 c.b, .int .i64 c.o, .int .i64 c.g] 23)) w.heap.size c) := in_new w c 23
  obtain ⟨a, ha⟩ : ∃ a, wordT c = a := ⟨_, rfl⟩
  obtain ⟨p, hp⟩ : ∃ p, parC x = p := ⟨_, rfl⟩
  obtain ⟨F, hF⟩ : ∃ F, parE x = F := ⟨_, rfl⟩
  have M1 : Hid (∀ W : World, Tabs W → Calls Tryd.prog 9 #[(.agg #[.int .i64 c.t, .int .i64 c.r, .int .i64 c.b, .int .i64 c.o, .int .i64 c.g])] W fun e w' => e = .returned (.tuple #[.int .u64 a, .int .i64 E]) ∧ Below W.heap.size W w') := fun W hW => by
    have := word_any c W hW
    rwa [ha, hE] at this
  have M2 : Hid (∀ W : World, Calls Tryd.prog 10 #[(.agg #[.int .i64 c.t, .int .i64 c.r, .int .i64 c.b, .int .i64 c.o, .int .i64 c.g])] W fun e w' => e = .returned (.tuple #[.int .u64 a, .int .i64 E]) ∧ Below W.heap.size W w') := fun W => by
    have := rword_any c W
    rwa [ha, hE] at this
  have M3 : Hid (∀ W : World, Tabs W → Calls Tryd.prog 11 #[.int .u64 x] W fun e w' => e = .returned (.tuple #[(.agg #[.int .i64 p.t, .int .i64 p.r, .int .i64 p.b, .int .i64 p.o, .int .i64 p.g]), .int .i64 F]) ∧ Below W.heap.size W w') := fun W hW => by
    have := parse_any x W HX.out hW
    rwa [hp, hF] at this
  have M4 : Hid (∀ W : World, Calls Tryd.prog 12 #[.int .u64 x] W fun e w' => e = .returned (.tuple #[(.agg #[.int .i64 p.t, .int .i64 p.r, .int .i64 p.b, .int .i64 p.o, .int .i64 p.g]), .int .i64 F]) ∧ Below W.heap.size W w') := fun W => by
    have := rparse_any x W HX.out
    rwa [hp, hF] at this
  have M5 : Hid (∀ W : World, Tabs W → Calls Tryd.prog 14 #[(.agg #[.int .i64 c.t, .int .i64 c.r, .int .i64 c.b, .int .i64 c.o, .int .i64 c.g])] W fun e w' => e = .returned (.int .i64 E) ∧ Below W.heap.size W w') := fun W hW => by
    have := check_any c W hW
    rwa [hE] at this
  have M6 : Hid (∀ W : World, Calls Tryd.prog 15 #[(.agg #[.int .i64 c.t, .int .i64 c.r, .int .i64 c.b, .int .i64 c.o, .int .i64 c.g])] W fun e w' => e = .returned (.bool ok) ∧ Below W.heap.size W w') := fun W => by
    have := ris_any c W
    rwa [hk] at this
  have he := eq5 p p
  rw [eqK_iff.2 (rfl : p = p)] at he
  clear hT hx ha hp hF hE hk
  go_enter Tryd.func3, Tryd.ntmps3
  go_wp2_with fail
  refine (M1.out _ (HT.out.below (q_alloc (Below.refl _ _) _))).mono ?_
  rintro e w1 ⟨rfl, b1⟩
  have HB1 : Hid (Below w.heap.size w w1) := q_trans (q_alloc (Below.refl _ _) _) b1
  have HI1 : Hid (In w1 w.heap.size c) := HI.out.below b1
  obtain ⟨c0, c1, c2, c3, c4⟩ := HI1.out
  clear b1
  go_wp2_with fail
  refine (M2.out _).mono ?_
  rintro e w2 ⟨rfl, b2⟩
  have HB2 : Hid (Below w.heap.size w w2) := q_trans HB1.out b2
  have HI2 : Hid (In w2 w.heap.size c) := HI1.out.below b2
  clear b2 c0 c1 c2 c3 c4
  go_wp2_with fail
  refine (M3.out _ (HT.out.below HB2.out)).mono ?_
  rintro e w3 ⟨rfl, b3⟩
  have b3' := q_alloc (Below.refl w3.heap.size w3) (.cells #[.int .i64 p.t, .int .i64 p.r, .int .i64 p.b, .int .i64 p.o, .int .i64 p.g] 23)
  have HB3 : Hid (Below w.heap.size w (w3.alloc (.cells #[.int .i64 p.t, .int .i64 p.r, .int .i64 p.b, .int .i64 p.o, .int .i64 p.g] 23))) := q_trans (q_trans HB2.out b3) b3'
  have HI3 : Hid (In (w3.alloc (.cells #[.int .i64 p.t, .int .i64 p.r, .int .i64 p.b, .int .i64 p.o, .int .i64 p.g] 23)) w.heap.size c) := (HI2.out.below b3).below b3'
  have HP3 : Hid (In (w3.alloc (.cells #[.int .i64 p.t, .int .i64 p.r, .int .i64 p.b, .int .i64 p.o, .int .i64 p.g] 23)) w3.heap.size p) := in_new w3 p 23
  clear b3 b3'
  go_wp2_with fail
  refine (M4.out _).mono ?_
  rintro e w4 ⟨rfl, b4⟩
  have b4' := q_alloc (Below.refl w4.heap.size w4) (.cells #[.int .i64 p.t, .int .i64 p.r, .int .i64 p.b, .int .i64 p.o, .int .i64 p.g] 23)
  have HB4 := q_trans (q_trans HB3.out b4) b4'
  have HI4 := (HI3.out.below b4).below b4'
  have HP4 := (HP3.out.below b4).below b4'
  have HQ4 := in_new w4 p 23
  clear b4 b4'
  go_wp2_with fail
  obtain ⟨W, hW⟩ : ∃ W, w4.alloc (.cells #[.int .i64 p.t, .int .i64 p.r, .int .i64 p.b, .int .i64 p.o, .int .i64 p.g] 23) = W := ⟨_, rfl⟩
  rw [hW] at HB4 HI4 HP4 HQ4 ⊢
  clear hW HB1 HB2 HB3 HI HI1 HI2 HI3 HP3
  obtain ⟨c0, c1, c2, c3, c4⟩ := HI4.always
  obtain ⟨p0, p1, p2, p3, p4⟩ := HP4.always
  obtain ⟨q0, q1, q2, q3, q4⟩ := HQ4.always
  have HB : Hid (Below w.heap.size w W) := HB4
  have HTL : Hid (∀ g : Later W, Tabs g.now) := fun g => HT.out.below (q_trans HB.out g.low)
  have hne : Nonempty (Later W) := ⟨⟨W, Below.refl _ _⟩⟩
  clear HB4 HI4 HP4 HQ4
  refine wp_region_later (by kernel_rfl) (by kernel_rfl) ?_
  repeat (go_big_quiet_step (first | (go_at_call 13; exact later_same (num_any _ _)) | (go_at_call 14; exact later_call (M5.out _ (HTL.out _))) | (go_at_call 15; exact later_call (M6.out _)) | (go_at_call 16; exact later_call (text_any c _ (HTL.out _))) | (go_at_call 17; exact later_call (rtext_any c _)) | (go_at_call 18; exact later_call (live_any _ (HTL.out _)))))
  refine wpQuiet_nil ?_
  rintro w5 ⟨⟨_, b5⟩, rfl⟩
  go_wp2_with fail
  go_ret
  exact ⟨rfl, q_trans HB.out b5⟩
theorem words_walk (c : K) (x : Int) (w : World) (hx : U64 x) (hT : Tabs w) :
    Calls Tryd.prog 3 #[(.agg #[.int .i64 c.t, .int .i64 c.r, .int .i64 c.b, .int .i64 c.o, .int .i64 c.g]), .int .u64 x] w fun e w' => e = .returned (.bool true) ∧ Below w.heap.size w w' := by
  cases h : okB c with
  | true => exact words_at c x 0 true w hx hT (by simp [chkE, h]) h rfl
  | false => exact words_at c x 30 false w hx hT (by simp [chkE, h]) h rfl
end Go.Proofs.YtgjkocbfpcgccaaDoor.Cp
