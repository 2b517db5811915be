/- CallOnly answers true. -/
import Derived.Test.YtilannincbcgkaaDoorKlOna
import Derived.Test.YtilannincbcgkaaDoorKlOnb
import Derived.Test.YtilannincbcgkaaDoorKlOnc
namespace Go.Proofs.YtilannincbcgkaaDoor.Kl
open Go.RowKit
open Ad (q_trans q_alloc q_set ret_int ret_bool hid)

theorem only_any (c : C) (n y : Int) (w : World) (hc : Wf c) (hy : -9223372036854775808 ≤ y ∧ y ≤ 9223372036854775807) (hT : Tabs w) :
    Calls Tryd.prog 5 #[(.agg #[.int .i64 c.k, .int .u64 c.a, .int .u64 c.b, .int .i64 c.r, .int .i64 c.g, .int .i64 c.t, .int .i64 c.s, .int .i64 c.v]), .int .i64 n, .int .i64 y] w fun e w' => e = .returned (.bool true) ∧ Below w.heap.size w w' := by
  rcases ch_vals c with h0 | h150
  rotate_left
  · exact on_bad c n y w hT hc h150
  by_cases hz : y = 0
  · subst hz; exact on_zero c n w hT hc h0
  have ok := ch_ok h0
  obtain ⟨hk, hA, hm⟩ := ok_mh ok
  have e0 : (y == 0) = false := beq_eq_false_iff_ne.2 hz
  obtain ⟨k, a, b, r, g, t, s, v⟩ := c
  have ha := hc.a; have hb := hc.b; have hv := hc.v
  dsimp only at ha hb hv hk hA hm ⊢
  have ne : ∀ {x z : Int}, x ≠ z → (x != z) = true := fun h => by simpa using h
  by_cases N0 : n = 0
  · subst N0
    by_cases hq : k = 1
    · subst hq
      exact on_0_1 a b r g t s v y _ w hT e0 hc ⟨ha, hb, hv⟩ h0 rfl
    · exact on_0_k k a b r g t s v y w hT e0 (ne hq) hc ⟨ha, hb, hv⟩ h0 (ch_no (mh_no (no_r hq hz)))
  by_cases N1 : n = 1
  · subst N1
    by_cases hq : k = 1
    · subst hq
      exact on_1_1 a b r g t s v y _ w hT e0 hc ⟨ha, hb, hv⟩ h0 rfl
    · exact on_1_k k a b r g t s v y w hT e0 (ne hq) hc ⟨ha, hb, hv⟩ h0 (ch_no (mh_no (no_g hq hz)))
  by_cases N2 : n = 2
  · subst N2
    by_cases hq : k = 5
    · subst hq
      exact on_2_5 a b r g t s v y _ w hT e0 hc ⟨ha, hb, hv⟩ h0 rfl
    · exact on_2_k k a b r g t s v y w hT e0 (ne hq) hc ⟨ha, hb, hv⟩ h0 (ch_no (mh_no (no_t hq hz)))
  by_cases N3 : n = 3
  · subst N3
    by_cases hq : k = 5
    · subst hq
      exact on_3_5 a b r g t s v y _ w hT e0 hc ⟨ha, hb, hv⟩ h0 rfl
    · exact on_3_k k a b r g t s v y w hT e0 (ne hq) hc ⟨ha, hb, hv⟩ h0 (ch_no (mh_no (no_s hq hz)))
  by_cases N4 : n = 4
  · subst N4
    by_cases h7 : k = 7
    · subst h7
      exact on_4_7 a b r g t s v y w hT e0 hc ⟨ha, hb, hy⟩ h0 (ch_yes (ok_same ok (yes_v (.inl rfl) hm)))
    by_cases h8 : k = 8
    · subst h8
      exact on_4_8 a b r g t s v y w hT e0 hc ⟨ha, hb, hy⟩ h0 (ch_yes (ok_same ok (yes_v (.inr rfl) hm)))
    exact on_4_k k a b r g t s v y w hT e0 (ne h7) (ne h8) hc ⟨ha, hb, hy⟩ h0 (ch_no (mh_no (no_v h7 h8 hz)))
  have f0 : (n == 0) = false := beq_eq_false_iff_ne.2 N0
  have f1 : (n == 1) = false := beq_eq_false_iff_ne.2 N1
  have f2 : (n == 2) = false := beq_eq_false_iff_ne.2 N2
  have f3 : (n == 3) = false := beq_eq_false_iff_ne.2 N3
  have f4 : (n == 4) = false := beq_eq_false_iff_ne.2 N4
  have az : a ≠ 0 := fun e => by rw [e, ad_zero] at hA; cases hA
  by_cases q1 : k = 1
  · subst q1
    exact on_n_1 a b r g t s v n y w hT e0 f0 f1 f2 f3 f4 hc ⟨ha, ha, hv⟩ h0 (ch_yes (ok_same ok (yes_b (.inl rfl) hA hm)))
  by_cases q2 : k = 2
  · subst q2
    exact on_n_2 a b r g t s v n y w hT e0 f0 f1 f2 f3 f4 hc ⟨ha, ha, hv⟩ h0 (ch_yes (ok_same ok (yes_b (.inr (.inl rfl)) hA hm)))
  by_cases q5 : k = 5
  · subst q5
    exact on_n_5 a b r g t s v n y w hT e0 f0 f1 f2 f3 f4 hc ⟨ha, ha, hv⟩ h0 (ch_yes (ok_same ok (yes_b (.inr (.inr (.inl rfl))) hA hm)))
  by_cases q8 : k = 8
  · subst q8
    exact on_n_8 a b r g t s v n y w hT e0 f0 f1 f2 f3 f4 hc ⟨ha, ha, hv⟩ h0 (ch_yes (ok_same ok (yes_b (.inr (.inr (.inr (.inl rfl)))) hA hm)))
  by_cases q9 : k = 9
  · subst q9
    exact on_n_9 a b r g t s v n y w hT e0 f0 f1 f2 f3 f4 hc ⟨ha, ha, hv⟩ h0 (ch_yes (ok_same ok (yes_b (.inr (.inr (.inr (.inr rfl)))) hA hm)))
  exact on_n_k k a b r g t s v n y w hT e0 (ne q1) (ne q2) (ne q5) (ne q8) (ne q9) f0 f1 f2 f3 f4 hc ⟨ha, ha, hv⟩ h0 (ch_no (mh_no (no_b q1 q2 q5 q8 q9 az)))

end Go.Proofs.YtilannincbcgkaaDoor.Kl
