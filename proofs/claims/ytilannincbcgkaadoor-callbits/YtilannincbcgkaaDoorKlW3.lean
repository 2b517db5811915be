/- What mayHave and Check do, of whatever call. -/
import Derived.Test.YtilannincbcgkaaDoorKlW3a
import Derived.Test.YtilannincbcgkaaDoorKlW3b
import Derived.Test.YtilannincbcgkaaDoorKlW3c
namespace Go.Proofs.YtilannincbcgkaaDoor.Kl
open Go.RowKit
open Ad (q_trans q_alloc q_set ret_int ret_bool hid)

theorem mayHave_any (c : C) (w : World) (hb : U64 c.b) :
    Calls Tryd.prog 27 #[(.agg #[.int .i64 c.k, .int .u64 c.a, .int .u64 c.b, .int .i64 c.r, .int .i64 c.g, .int .i64 c.t, .int .i64 c.s, .int .i64 c.v])] w fun e w' => e = .returned (.bool (mhB c)) ∧ Below w.heap.size w w' := by
  obtain ⟨k, a, b, r, g, t, s, v⟩ := c
  dsimp only at hb ⊢
  by_cases h1 : k = 1
  · subst h1
    cases e1 : Rt.isR r with
    | false => exact mh_1a a b r g t s v w e1 _ rfl
    | true =>
      cases e2 : inB g 0 65535 with
      | false => exact mh_1b a b r g t s v w e1 e2 _ rfl
      | true =>
        cases e3 : adB b with
        | false => exact mh_1c a b r g t s v w hb e1 e2 e3 _ rfl
        | true => exact mh_1d a b r g t s v w hb e1 e2 e3 _ rfl
  by_cases h2 : k = 2
  · subst h2
    cases e3 : adB b with
    | false => exact mh_2c a b r g t s v w hb e3 _ rfl
    | true => exact mh_2d a b r g t s v w hb e3 _ rfl
  by_cases h5 : k = 5
  · subst h5
    cases e3 : adB b with
    | false => exact mh_5a a b r g t s v w hb e3 _ rfl
    | true =>
      cases e4 : inB t 1 5 with
      | false => exact mh_5b a b r g t s v w hb e3 e4 _ rfl
      | true =>
        cases e5 : inB s 0 1048576 with
        | false => exact mh_5c a b r g t s v w hb e3 e4 e5 _ rfl
        | true => exact mh_5d a b r g t s v w hb e3 e4 e5 _ rfl
  by_cases h8 : k = 8
  · subst h8
    by_cases hz : b = 0
    · subst hz; exact mh_8a a r g t s v w _ rfl
    · have e0 : (b == 0) = false := beq_eq_false_iff_ne.2 hz
      cases e3 : adB b with
      | false => exact mh_8b a b r g t s v w hb e0 e3 _ rfl
      | true => exact mh_8c a b r g t s v w hb e0 e3 _ rfl
  by_cases h9 : k = 9
  · subst h9
    by_cases hz : b = 0
    · subst hz; exact mh_9a a r g t s v w _ rfl
    · have e0 : (b == 0) = false := beq_eq_false_iff_ne.2 hz
      cases e3 : adB b with
      | false => exact mh_9b a b r g t s v w hb e0 e3 _ rfl
      | true => exact mh_9c a b r g t s v w hb e0 e3 _ rfl
  by_cases h7 : k = 7
  · subst h7; exact mh_7 a b r g t s v w _ rfl
  exact mh_0 k a b r g t s v w (beq_eq_false_iff_ne.2 h1) (beq_eq_false_iff_ne.2 h2) (beq_eq_false_iff_ne.2 h5) (beq_eq_false_iff_ne.2 h8) (beq_eq_false_iff_ne.2 h9) (beq_eq_false_iff_ne.2 h7) ⟨h1, h2, h5, h8, h9, h7⟩ _ rfl

set_option maxHeartbeats 1000000 in
/-- CHECK, OF WHATEVER CALL. -/
theorem check_any (c : C) (w : World) (hc : Wf c) :
    Calls Tryd.prog 14 #[(.agg #[.int .i64 c.k, .int .u64 c.a, .int .u64 c.b, .int .i64 c.r, .int .i64 c.g, .int .i64 c.t, .int .i64 c.s, .int .i64 c.v])] w fun e w' => e = .returned (.int .i64 (chE c)) ∧ Below w.heap.size w w' := by
  have HI := hid (in_new w c 24)
  have HL := hid (q_alloc (Below.refl _ w) (.cells #[.int .i64 c.k, .int .u64 c.a, .int .u64 c.b, .int .i64 c.r, .int .i64 c.g, .int .i64 c.t, .int .i64 c.s, .int .i64 c.v] 24))
  cases hk : kdB c.k with
  | false =>
    rw [show chE c = 150 by simp [chE, okC, hk]]
    clear hc
    go_enter Tryd.func14, Tryd.ntmps14
    go_wp2_with (go_at_call 25; refine (isKind_any _ _).mono ?_; rintro e w' ⟨rfl, hw⟩; rw [hw]; clear hw w')
    go_ret
    exact ⟨rfl, HL.out⟩
  | true =>
    cases ha : adB c.a with
    | false =>
      rw [show chE c = 150 by simp [chE, okC, hk, ha]]
      have HA : Hid (∀ W : World, Calls Tryd.prog 26 #[.int .u64 c.a] W fun e w' => e = .returned (.bool false) ∧ Below W.heap.size W w') := fun W => by
        have := isAddress_any c.a W hc.a
        rwa [ha] at this
      clear hc ha
      go_enter Tryd.func14, Tryd.ntmps14
      go_wp2_with (go_at_call 25; refine (isKind_any _ _).mono ?_; rintro e w' ⟨rfl, hw⟩; rw [hw]; clear hw w')
      refine (HA.out _).mono ?_
      rintro e w1 ⟨rfl, b1⟩
      have HB := hid (q_trans HL.out b1)
      clear b1
      go_wp2_with fail
      go_ret
      exact ⟨rfl, HB.out⟩
    | true =>
      have HA : Hid (∀ W : World, Calls Tryd.prog 26 #[.int .u64 c.a] W fun e w' => e = .returned (.bool true) ∧ Below W.heap.size W w') := fun W => by
        have := isAddress_any c.a W hc.a
        rwa [ha] at this
      cases hm : mhB c with
      | false =>
        rw [show chE c = 150 by simp [chE, okC, hk, ha, hm]]
        have HM : Hid (∀ W : World, Calls Tryd.prog 27 #[(.agg #[.int .i64 c.k, .int .u64 c.a, .int .u64 c.b, .int .i64 c.r, .int .i64 c.g, .int .i64 c.t, .int .i64 c.s, .int .i64 c.v])] W fun e w' => e = .returned (.bool false) ∧ Below W.heap.size W w') := fun W => by
          have := mayHave_any c W hc.b
          rwa [hm] at this
        clear hc ha hm
        go_enter Tryd.func14, Tryd.ntmps14
        go_wp2_with (go_at_call 25; refine (isKind_any _ _).mono ?_; rintro e w' ⟨rfl, hw⟩; rw [hw]; clear hw w')
        refine (HA.out _).mono ?_
        rintro e w1 ⟨rfl, b1⟩
        have HB := hid (q_trans HL.out b1)
        obtain ⟨c0, c1, c2, c3, c4, c5, c6, c7⟩ := HI.out.below b1
        clear b1
        go_wp2_with fail
        refine (HM.out _).mono ?_
        rintro e w2 ⟨rfl, b2⟩
        have HB2 := hid (q_trans HB.out b2)
        clear b2 c0 c1 c2 c3 c4 c5 c6 c7
        go_wp2_with fail
        go_ret
        exact ⟨rfl, HB2.out⟩
      | true =>
        rw [show chE c = 0 by simp [chE, okC, hk, ha, hm]]
        have HM : Hid (∀ W : World, Calls Tryd.prog 27 #[(.agg #[.int .i64 c.k, .int .u64 c.a, .int .u64 c.b, .int .i64 c.r, .int .i64 c.g, .int .i64 c.t, .int .i64 c.s, .int .i64 c.v])] W fun e w' => e = .returned (.bool true) ∧ Below W.heap.size W w') := fun W => by
          have := mayHave_any c W hc.b
          rwa [hm] at this
        clear hc ha hm
        go_enter Tryd.func14, Tryd.ntmps14
        go_wp2_with (go_at_call 25; refine (isKind_any _ _).mono ?_; rintro e w' ⟨rfl, hw⟩; rw [hw]; clear hw w')
        refine (HA.out _).mono ?_
        rintro e w1 ⟨rfl, b1⟩
        have HB := hid (q_trans HL.out b1)
        obtain ⟨c0, c1, c2, c3, c4, c5, c6, c7⟩ := HI.out.below b1
        clear b1
        go_wp2_with fail
        refine (HM.out _).mono ?_
        rintro e w2 ⟨rfl, b2⟩
        have HB2 := hid (q_trans HB.out b2)
        clear b2 c0 c1 c2 c3 c4 c5 c6 c7
        go_wp2_with fail
        go_ret
        exact ⟨rfl, HB2.out⟩
end Go.Proofs.YtilannincbcgkaaDoor.Kl
