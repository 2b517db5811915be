/- Plain facts on words of capabilities, and on what is derived. -/
import Derived.Test.YtgjkocbfpcgccaaDoorCpW5
namespace Go.Proofs.YtgjkocbfpcgccaaDoor.Cp
open Rt (wiB wiB_iff wiB_trans)

theorem putN_add (w a n v : Nat) (hw : w < 2 ^ a) (ha : a + n ≤ 64) : putN w a n v = w + v * 2 ^ a := by
  have h1 : w &&& (18446744073709551615 - maskN a n) = w := by
    refine Nat.eq_of_testBit_eq fun i => ?_
    rw [Nat.testBit_and, not_mask_bit a n i ha]
    by_cases hi : i < a
    · have : i < 64 := by omega
      simp [this]
      omega
    · have : w.testBit i = false := Nat.testBit_lt_two_pow (Nat.lt_of_lt_of_le hw (Nat.pow_le_pow_right (by omega) (by omega)))
      simp [this]
  unfold putN
  rw [h1, Nat.or_comm, Nat.mul_comm v, ← Nat.two_pow_add_eq_or_of_lt hw]
  omega
theorem putT_add {x v a n : Nat} (hx : x < 2 ^ a) (hv : v < 2 ^ n) (hn : 1 ≤ n) (ha : a + n ≤ 64) : putT (x : Int) (a : Int) (n : Int) (v : Int) = ((x + v * 2 ^ a : Nat) : Int) := by
  rw [putT_ok (fld_iff.2 ⟨by omega, by omega, by omega, by omega⟩) (by simp [fits]; omega)]
  simp only [Int.toNat_natCast]
  rw [putN_add x a n v hx ha]

/-- What may be is within bounds. -/
theorem ok_range {c : K} (h : okB c = true) : (0 ≤ c.t ∧ c.t ≤ 5) ∧ (0 ≤ c.r ∧ c.r ≤ 15) ∧ (0 ≤ c.b ∧ c.b ≤ 65535) ∧ (0 ≤ c.o ∧ c.o ≤ 1023) ∧ (0 ≤ c.g ∧ c.g ≤ 4095) := by
  simp only [okB, Bool.or_eq_true] at h
  rcases h with h | h
  · obtain ⟨h0, h1, h2, h3, h4⟩ := noneB_iff.1 h
    omega
  · simp only [someB, Bool.and_eq_true, decide_eq_true_eq, up_iff, Rt.isR_iff] at h
    have := most_le c.t
    omega
theorem acc_sum {c : K} (h : okB c = true) : acc c 5 = c.t + 16 * c.r + 256 * c.b + 16777216 * c.o + 17179869184 * c.g := by
  obtain ⟨⟨t0, t1⟩, ⟨r0, r1⟩, ⟨b0, b1⟩, ⟨o0, o1⟩, ⟨g0, g1⟩⟩ := ok_range h
  obtain ⟨t, r, b, o, g⟩ := c
  dsimp only at *
  obtain ⟨t, rfl⟩ := Int.eq_ofNat_of_zero_le t0
  obtain ⟨r, rfl⟩ := Int.eq_ofNat_of_zero_le r0
  obtain ⟨b, rfl⟩ := Int.eq_ofNat_of_zero_le b0
  obtain ⟨o, rfl⟩ := Int.eq_ofNat_of_zero_le o0
  obtain ⟨g, rfl⟩ := Int.eq_ofNat_of_zero_le g0
  have e1 : acc ⟨t, r, b, o, g⟩ 1 = (t : Int) := by
    have := putT_add (x := 0) (v := t) (a := 0) (n := 4) (by decide) (by omega) (by decide) (by decide)
    show putT 0 0 4 t = t
    simpa using this
  have e2 : acc ⟨t, r, b, o, g⟩ 2 = ((t + r * 16 : Nat) : Int) := by
    show putT (acc ⟨t, r, b, o, g⟩ 1) 4 4 r = _
    rw [e1]
    exact putT_add (x := t) (v := r) (a := 4) (n := 4) (by omega) (by omega) (by decide) (by decide)
  have e3 : acc ⟨t, r, b, o, g⟩ 3 = ((t + r * 16 + b * 256 : Nat) : Int) := by
    show putT (acc ⟨t, r, b, o, g⟩ 2) 8 16 b = _
    rw [e2]
    exact putT_add (x := t + r * 16) (v := b) (a := 8) (n := 16) (by omega) (by omega) (by decide) (by decide)
  have e4 : acc ⟨t, r, b, o, g⟩ 4 = ((t + r * 16 + b * 256 + o * 16777216 : Nat) : Int) := by
    show putT (acc ⟨t, r, b, o, g⟩ 3) 24 10 o = _
    rw [e3]
    exact putT_add (x := t + r * 16 + b * 256) (v := o) (a := 24) (n := 10) (by omega) (by omega) (by decide) (by decide)
  have e5 : acc ⟨t, r, b, o, g⟩ 5 = ((t + r * 16 + b * 256 + o * 16777216 + g * 17179869184 : Nat) : Int) := by
    show putT (acc ⟨t, r, b, o, g⟩ 4) 34 12 g = _
    rw [e4]
    exact putT_add (x := t + r * 16 + b * 256 + o * 16777216) (v := g) (a := 34) (n := 12) (by omega) (by omega) (by decide) (by decide)
  rw [e5]
  omega
theorem gp_div (x : Nat) (i : Nat) : gp (x : Int) i = ((x / 2 ^ (fldAt i).toNat % 2 ^ (fldW i).toNat : Nat) : Int) := by
  unfold gp
  rw [getT_yes (fld_ok i)]
  rfl
/-- THERE AND BACK. -/
theorem parK_word {c : K} (h : okB c = true) : parK (wordT c) = c := by
  have hs := acc_sum h
  obtain ⟨⟨t0, t1⟩, ⟨r0, r1⟩, ⟨b0, b1⟩, ⟨o0, o1⟩, ⟨g0, g1⟩⟩ := ok_range h
  rw [show wordT c = acc c 5 by simp [wordT, h]]
  obtain ⟨x, hx⟩ := Int.eq_ofNat_of_zero_le (show 0 ≤ acc c 5 by omega)
  rw [hx] at hs ⊢
  refine K.ext' ?_ ?_ ?_ ?_ ?_
  · show gp x 0 = _
    rw [gp_div, show (2 : Nat) ^ (fldAt 0).toNat = 1 from rfl, show (2 : Nat) ^ (fldW 0).toNat = 16 from rfl]
    omega
  · show gp x 1 = _
    rw [gp_div, show (2 : Nat) ^ (fldAt 1).toNat = 16 from rfl, show (2 : Nat) ^ (fldW 1).toNat = 16 from rfl]
    omega
  · show gp x 2 = _
    rw [gp_div, show (2 : Nat) ^ (fldAt 2).toNat = 256 from rfl, show (2 : Nat) ^ (fldW 2).toNat = 65536 from rfl]
    omega
  · show gp x 3 = _
    rw [gp_div, show (2 : Nat) ^ (fldAt 3).toNat = 16777216 from rfl, show (2 : Nat) ^ (fldW 3).toNat = 1024 from rfl]
    omega
  · show gp x 4 = _
    rw [gp_div, show (2 : Nat) ^ (fldAt 4).toNat = 17179869184 from rfl, show (2 : Nat) ^ (fldW 4).toNat = 4096 from rfl]
    omega
theorem parB_word {c : K} (h : okB c = true) : parB (wordT c) = true := by
  simp [parB, parK_word h, h]
theorem parC_word {c : K} (h : okB c = true) : parC (wordT c) = c := by simp [parC, parB_word h, parK_word h]
theorem parE_word {c : K} (h : okB c = true) : parE (wordT c) = 0 := by simp [parE, parB_word h]
theorem word_inj {c d : K} (h : okB c = true) (k : okB d = true) (e : wordT c = wordT d) : c = d := by rw [← parK_word h, e, parK_word k]
theorem word_lt (c : K) : 0 ≤ wordT c ∧ wordT c < 70368744177664 := by
  cases h : okB c with
  | false => simp [wordT, h]
  | true =>
    have hs := acc_sum h
    obtain ⟨⟨t0, t1⟩, ⟨r0, r1⟩, ⟨b0, b1⟩, ⟨o0, o1⟩, ⟨g0, g1⟩⟩ := ok_range h
    rw [show wordT c = acc c 5 by simp [wordT, h]]
    omega
theorem par_ok {x : Int} (h : parB x = true) : okB (parC x) = true ∧ wordT (parC x) = x ∧ parE x = 0 ∧ parC x = parK x := by
  have h' := h
  simp only [parB, Bool.and_eq_true, beq_iff_eq] at h'
  have e : parC x = parK x := by simp [parC, h]
  rw [e]
  exact ⟨h'.1, h'.2, by simp [parE, h], rfl⟩
theorem par_no {x : Int} (h : parB x = false) : parE x = 30 ∧ parC x = K.zero := by simp [parE, parC, h]

/-! ### What is derived -/
theorem drvE_vals (c : K) (r b : Int) : drvE c r b = 0 ∨ drvE c r b = 2 ∨ drvE c r b = 20 ∨ drvE c r b = 30 := by
  unfold drvE
  split <;> (try split) <;> (try split) <;> (try split) <;> simp
theorem drv_ok {c : K} {r b : Int} (h : drvE c r b = 0) : someB c = true ∧ wiB r c.r = true ∧ (b = 0 ∨ badB c b = true) ∧ drvC c r b = ⟨c.t, r, if b = 0 then c.b else b, c.o, c.g⟩ := by
  have hc : drvC c r b = ⟨c.t, r, if b = 0 then c.b else b, c.o, c.g⟩ := by rw [drvC, if_pos h]
  refine ⟨?_, ?_, ?_, hc⟩
  · cases hs : someB c with
    | true => rfl
    | false => rw [(drv_some hs).1] at h; cases h
  · cases hs : someB c with
    | false => rw [(drv_some hs).1] at h; cases h
    | true =>
      cases hw : wiB r c.r with
      | true => rfl
      | false => rw [(drv_rights hs hw).1] at h; cases h
  · cases hs : someB c with
    | false => rw [(drv_some hs).1] at h; cases h
    | true =>
      cases hw : wiB r c.r with
      | false => rw [(drv_rights hs hw).1] at h; cases h
      | true =>
        by_cases hb : b = 0
        · exact .inl hb
        · cases h3 : badB c b with
          | true => exact .inr rfl
          | false => rw [(drv_arg hs hw hb h3).1] at h; cases h
theorem drv_no {c : K} {r b : Int} (h : drvE c r b ≠ 0) : drvC c r b = K.zero := by rw [drvC, if_neg h]
theorem drv_mk {c : K} {r b : Int} (hs : someB c = true) (hw : wiB r c.r = true) (hb : b = 0 ∨ badB c b = true) : drvE c r b = 0 := by
  by_cases h0 : b = 0
  · subst h0; exact (drv_zero hs hw).1
  · exact (drv_badge hs hw h0 (hb.resolve_left h0)).1
/-- BY WAY OF ANOTHER ONE, AS AT ONCE. -/
theorem drv_twice {c : K} {r l b : Int} (h : drvE c r 0 = 0) (k : drvE (drvC c r 0) l b = 0) : drvE c l b = 0 ∧ drvC c l b = drvC (drvC c r 0) l b := by
  obtain ⟨hs, hw, _, hc⟩ := drv_ok h
  rw [if_pos rfl] at hc
  obtain ⟨ks, kw, kb, kc⟩ := drv_ok k
  rw [hc] at ks kw kb kc
  rw [hc, kc]
  have e : drvE c l b = 0 := drv_mk hs (wiB_trans kw hw) kb
  exact ⟨e, (drv_ok e).2.2.2⟩
end Go.Proofs.YtgjkocbfpcgccaaDoor.Cp
