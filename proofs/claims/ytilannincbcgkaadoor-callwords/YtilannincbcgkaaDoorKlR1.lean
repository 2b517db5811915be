/- What the document's Is does, of whatever call. -/
import Derived.Test.YtilannincbcgkaaDoorKlR1a
import Derived.Test.YtilannincbcgkaaDoorKlR1b
import Derived.Test.YtilannincbcgkaaDoorKlR1c
import Derived.Test.YtilannincbcgkaaDoorKlR1d
import Derived.Test.YtilannincbcgkaaDoorKlR1e
namespace Go.Proofs.YtilannincbcgkaaDoor.Kl
open Go.RowKit
open Ad (q_trans q_alloc q_set ret_int ret_bool hid)

theorem risM_any (c : C) (w : World) (hc : Wf c) (hk : kdB c.k = true) (hA : adB c.a = true) :
    Calls Tryd.prog 15 #[(.agg #[.int .i64 c.k, .int .u64 c.a, .int .u64 c.b, .int .i64 c.r, .int .i64 c.g, .int .i64 c.t, .int .i64 c.s, .int .i64 c.v])] w fun e w' => e = .returned (.bool (mhB c)) ∧ Below w.heap.size w w' := by
  obtain ⟨ha, hb, _⟩ := hc
  obtain ⟨k, a, b, r, g, t, s, v⟩ := c
  dsimp only at ha hb hk hA ⊢
  by_cases h1 : k = 1
  · subst h1
    cases eq : (t == 0 && (s == 0 && v == 0)) with
    | false => exact rs_1a a b r g t s v w ha hA eq _ rfl
    | true =>
      cases e3 : adB b with
      | false => exact rs_1b a b r g t s v w ha hA hb eq e3 _ rfl
      | true =>
        cases e1 : Rt.isR r with
        | false => exact rs_1c a b r g t s v w ha hA hb eq e1 e3 _ rfl
        | true =>
          by_cases d1 : 0 ≤ g
          · by_cases d2 : g ≤ 65535
            · exact rs_1f a b r g t s v w ha hA hb eq e1 d1 d2 e3 _ rfl
            · exact rs_1e a b r g t s v w ha hA hb eq e1 d1 (decide_eq_false d2) e3 _ rfl
          · exact rs_1d a b r g t s v w ha hA hb eq e1 d1 e3 _ rfl
  by_cases h2 : k = 2
  · subst h2
    cases eq : (r == 0 && (g == 0 && (t == 0 && (s == 0 && v == 0)))) with
    | false => exact rs_2a a b r g t s v w ha hA eq _ rfl
    | true =>
      cases e3 : adB b with
      | false => exact rs_2b a b r g t s v w ha hA hb eq e3 _ rfl
      | true => exact rs_2c a b r g t s v w ha hA hb eq e3 _ rfl
  by_cases h5 : k = 5
  · subst h5
    cases eq : (r == 0 && (g == 0 && v == 0)) with
    | false => exact rs_5a a b r g t s v w ha hA eq _ rfl
    | true =>
      cases e3 : adB b with
      | false => exact rs_5b a b r g t s v w ha hA hb eq e3 _ rfl
      | true =>
        by_cases d1 : 1 ≤ t
        · by_cases d2 : t ≤ 5
          · by_cases d3 : 0 ≤ s
            · by_cases d4 : s ≤ 1048576
              · exact rs_5g a b r g t s v w ha hA hb eq d1 d2 d3 d4 e3 _ rfl
              · exact rs_5f a b r g t s v w ha hA hb eq d1 d2 d3 (decide_eq_false d4) e3 _ rfl
            · exact rs_5e a b r g t s v w ha hA hb eq d1 d2 d3 e3 _ rfl
          · exact rs_5d a b r g t s v w ha hA hb eq d1 d2 e3 _ rfl
        · exact rs_5c a b r g t s v w ha hA hb eq d1 e3 _ rfl
  by_cases h8 : k = 8
  · subst h8
    cases eq : (r == 0 && (g == 0 && (t == 0 && s == 0))) with
    | false => exact rs_8a a b r g t s v w ha hA eq _ rfl
    | true =>
      by_cases hz : b = 0
      · subst hz; exact rs_8z a r g t s v w ha hA eq _ rfl
      · have e0 : (b == 0) = false := beq_eq_false_iff_ne.2 hz
        cases e3 : adB b with
        | false => exact rs_8b a b r g t s v w ha hA hb eq e0 e3 _ rfl
        | true => exact rs_8c a b r g t s v w ha hA hb eq e0 e3 _ rfl
  by_cases h9 : k = 9
  · subst h9
    cases eq : (r == 0 && (g == 0 && (t == 0 && (s == 0 && v == 0)))) with
    | false => exact rs_9a a b r g t s v w ha hA eq _ rfl
    | true =>
      by_cases hz : b = 0
      · subst hz; exact rs_9z a r g t s v w ha hA eq _ rfl
      · have e0 : (b == 0) = false := beq_eq_false_iff_ne.2 hz
        cases e3 : adB b with
        | false => exact rs_9b a b r g t s v w ha hA hb eq e0 e3 _ rfl
        | true => exact rs_9c a b r g t s v w ha hA hb eq e0 e3 _ rfl
  by_cases h7 : k = 7
  · subst h7; exact rs_7 a b r g t s v w ha hA _ rfl
  have hr := inB_iff.1 hk
  exact rs_0 k a b r g t s v w ha hA (decide_eq_false (by omega)) (decide_eq_false (by omega)) (beq_eq_false_iff_ne.2 h1) (beq_eq_false_iff_ne.2 h2) (beq_eq_false_iff_ne.2 h5) (beq_eq_false_iff_ne.2 h8) (beq_eq_false_iff_ne.2 h9) (beq_eq_false_iff_ne.2 h7) ⟨h1, h2, h5, h8, h9, h7⟩ _ rfl
set_option maxHeartbeats 1000000 in
theorem ris_any (c : C) (w : World) (hc : Wf c) :
    Calls Tryd.prog 15 #[(.agg #[.int .i64 c.k, .int .u64 c.a, .int .u64 c.b, .int .i64 c.r, .int .i64 c.g, .int .i64 c.t, .int .i64 c.s, .int .i64 c.v])] w fun e w' => e = .returned (.bool (okC c)) ∧ Below w.heap.size w w' := by
  cases hk : kdB c.k with
  | false =>
    rw [show okC c = false by simp [okC, hk]]
    have hr := inB_not.1 hk
    have HL := hid (q_alloc (Below.refl _ w) (.cells #[.int .i64 c.k, .int .u64 c.a, .int .u64 c.b, .int .i64 c.r, .int .i64 c.g, .int .i64 c.t, .int .i64 c.s, .int .i64 c.v] 24))
    by_cases h1 : c.k < 1
    · have d1 : decide (c.k < 1) = true := decide_eq_true h1
      clear hr hk hc
      go_enter Tryd.func15, Tryd.ntmps15
      go_wp2_with fail
      go_ret
      exact ⟨rfl, HL.out⟩
    · have d1 : decide (c.k < 1) = false := decide_eq_false h1
      have d2 : decide (12 < c.k) = true := decide_eq_true (by omega)
      clear hr hk hc h1
      go_enter Tryd.func15, Tryd.ntmps15
      go_wp2_with fail
      go_ret
      exact ⟨rfl, HL.out⟩
  | true =>
    cases hA : adB c.a with
    | true =>
      rw [show okC c = mhB c by simp [okC, hk, hA]]
      exact risM_any c w hc hk hA
    | false =>
      rw [show okC c = false by simp [okC, hA]]
      have HL := hid (q_alloc (Below.refl _ w) (.cells #[.int .i64 c.k, .int .u64 c.a, .int .u64 c.b, .int .i64 c.r, .int .i64 c.g, .int .i64 c.t, .int .i64 c.s, .int .i64 c.v] 24))
      have hr := inB_iff.1 hk
      have d1 : decide (c.k < 1) = false := decide_eq_false (by omega)
      have d2 : decide (12 < c.k) = false := decide_eq_false (by omega)
      have HA : Hid (∀ W : World, Calls Tryd.prog 28 #[.int .u64 c.a] W fun e w' => e = .returned (.bool false) ∧ Below W.heap.size W w') := fun W => by
        have := address_any c.a W hc.a
        rwa [hA] at this
      clear hr hk hc hA
      go_enter Tryd.func15, Tryd.ntmps15
      go_wp2_with fail
      refine (HA.out _).mono ?_
      rintro e w1 ⟨rfl, b1⟩
      have HB := hid (q_trans HL.out b1)
      clear b1
      go_wp2_with fail
      go_ret
      exact ⟨rfl, HB.out⟩
end Go.Proofs.YtilannincbcgkaaDoor.Kl
