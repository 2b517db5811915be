/- Plain facts on words of calls: there and back. -/
import Derived.Test.YtilannincbcgkaaDoorKlMath
namespace Go.Proofs.YtilannincbcgkaaDoor.Kl

theorem putN_add (w a n v : Nat) (hw : w < 2 ^ a) (ha : a + n ≤ 64) : putN w a n v = w + v * 2 ^ a := by
  have h1 : w &&& (18446744073709551615 - maskN a n) = w := by
    refine Nat.eq_of_testBit_eq fun i => ?_
    rw [Nat.testBit_and, not_mask_bit a n i ha]
    by_cases hi : i < a
    · have : i < 64 := by omega
      simp [this]
      omega
    · have : w.testBit i = false := Nat.testBit_lt_two_pow (Nat.lt_of_lt_of_le hw (Nat.pow_le_pow_right (by omega) (by omega)))
      simp [this]
  unfold putN
  rw [h1, Nat.or_comm, Nat.mul_comm v, ← Nat.two_pow_add_eq_or_of_lt hw]
  omega
theorem putT_add {x v a n : Nat} (hx : x < 2 ^ a) (hv : v < 2 ^ n) (hn : 1 ≤ n) (ha : a + n ≤ 64) : putT (x : Int) (a : Int) (n : Int) (v : Int) = ((x + v * 2 ^ a : Nat) : Int) := by
  rw [putT_ok (fld_iff.2 ⟨by omega, by omega, by omega, by omega⟩) (by simp [fits]; omega)]
  simp only [Int.toNat_natCast]
  rw [putN_add x a n v hx ha]
theorem acc_sum {c : C} (h : okC c = true) : acc c 5 = c.k + 16 * c.r + 256 * c.t + 4096 * c.g + 268435456 * c.s := by
  obtain ⟨⟨k0, k1⟩, ⟨r0, r1⟩, ⟨t0, t1⟩, ⟨g0, g1⟩, ⟨s0, s1⟩⟩ := ok_range h
  obtain ⟨k, a, b, r, g, t, s, v⟩ := c
  dsimp only at *
  clear h
  obtain ⟨k, rfl⟩ := Int.eq_ofNat_of_zero_le (show 0 ≤ k by omega)
  obtain ⟨r, rfl⟩ := Int.eq_ofNat_of_zero_le r0
  obtain ⟨t, rfl⟩ := Int.eq_ofNat_of_zero_le t0
  obtain ⟨g, rfl⟩ := Int.eq_ofNat_of_zero_le g0
  obtain ⟨s, rfl⟩ := Int.eq_ofNat_of_zero_le s0
  have e1 : acc ⟨k, a, b, r, g, t, s, v⟩ 1 = (k : Int) := by
    have := putT_add (x := 0) (v := k) (a := 0) (n := 4) (by decide) (by omega) (by decide) (by decide)
    show putT 0 0 4 k = k
    simpa using this
  have e2 : acc ⟨k, a, b, r, g, t, s, v⟩ 2 = ((k + r * 16 : Nat) : Int) := by
    show putT (acc ⟨k, a, b, r, g, t, s, v⟩ 1) 4 4 r = _
    rw [e1]
    exact putT_add (x := k) (v := r) (a := 4) (n := 4) (by omega) (by omega) (by decide) (by decide)
  have e3 : acc ⟨k, a, b, r, g, t, s, v⟩ 3 = ((k + r * 16 + t * 256 : Nat) : Int) := by
    show putT (acc ⟨k, a, b, r, g, t, s, v⟩ 2) 8 4 t = _
    rw [e2]
    exact putT_add (x := k + r * 16) (v := t) (a := 8) (n := 4) (by omega) (by omega) (by decide) (by decide)
  have e4 : acc ⟨k, a, b, r, g, t, s, v⟩ 4 = ((k + r * 16 + t * 256 + g * 4096 : Nat) : Int) := by
    show putT (acc ⟨k, a, b, r, g, t, s, v⟩ 3) 12 16 g = _
    rw [e3]
    exact putT_add (x := k + r * 16 + t * 256) (v := g) (a := 12) (n := 16) (by omega) (by omega) (by decide) (by decide)
  have e5 : acc ⟨k, a, b, r, g, t, s, v⟩ 5 = ((k + r * 16 + t * 256 + g * 4096 + s * 268435456 : Nat) : Int) := by
    show putT (acc ⟨k, a, b, r, g, t, s, v⟩ 4) 28 21 s = _
    rw [e4]
    exact putT_add (x := k + r * 16 + t * 256 + g * 4096) (v := s) (a := 28) (n := 21) (by omega) (by omega) (by decide) (by decide)
  rw [e5]
  omega
theorem gp_div (x : Nat) (i : Nat) : gp (x : Int) i = ((x / 2 ^ (fldAt i).toNat % 2 ^ (fldW i).toNat : Nat) : Int) := by
  unfold gp
  rw [getT_yes (fld_ok i)]
  rfl
theorem wrap_back {v : Int} (h0 : -9223372036854775808 ≤ v) (h1 : v ≤ 9223372036854775807) : IntKind.i64.wrap (IntKind.u64.wrap v) = v := by
  simp [IntKind.wrap, IntKind.bits, IntKind.signed]
  omega
theorem wrap_forth {v : Int} (h : U64 v) : IntKind.u64.wrap (IntKind.i64.wrap v) = v := by
  have h0 := h.1; have h1 := h.2
  simp [IntKind.wrap, IntKind.bits, IntKind.signed]
  omega
theorem wrap_in (v : Int) : -9223372036854775808 ≤ IntKind.i64.wrap v ∧ IntKind.i64.wrap v ≤ 9223372036854775807 := by
  simp [IntKind.wrap, IntKind.bits, IntKind.signed]
  omega
theorem wrap_u (v : Int) : U64 (IntKind.u64.wrap v) := by
  constructor
  · simp [IntKind.wrap, IntKind.bits, IntKind.signed]; omega
  · simp [IntKind.wrap, IntKind.bits, IntKind.signed]; omega
/-- THERE AND BACK. -/
theorem parW_wds {c : C} (h : okC c = true) (hw : Wf c) : parW (wds c) = c := by
  have hs := acc_sum h
  obtain ⟨⟨k0, k1⟩, ⟨r0, r1⟩, ⟨t0, t1⟩, ⟨g0, g1⟩, ⟨s0, s1⟩⟩ := ok_range h
  obtain ⟨x, hx⟩ := Int.eq_ofNat_of_zero_le (show 0 ≤ acc c 5 by omega)
  show parK (acc c 5) c.a c.b (IntKind.u64.wrap c.v) = c
  rw [hx] at hs ⊢
  refine C.ext' ?_ rfl rfl ?_ ?_ ?_ ?_ (wrap_back hw.v.1 hw.v.2)
  · show gp x 0 = _
    rw [gp_div, show (2 : Nat) ^ (fldAt 0).toNat = 1 from rfl, show (2 : Nat) ^ (fldW 0).toNat = 16 from rfl]
    omega
  · show gp x 1 = _
    rw [gp_div, show (2 : Nat) ^ (fldAt 1).toNat = 16 from rfl, show (2 : Nat) ^ (fldW 1).toNat = 16 from rfl]
    omega
  · show gp x 3 = _
    rw [gp_div, show (2 : Nat) ^ (fldAt 3).toNat = 4096 from rfl, show (2 : Nat) ^ (fldW 3).toNat = 65536 from rfl]
    omega
  · show gp x 2 = _
    rw [gp_div, show (2 : Nat) ^ (fldAt 2).toNat = 256 from rfl, show (2 : Nat) ^ (fldW 2).toNat = 16 from rfl]
    omega
  · show gp x 4 = _
    rw [gp_div, show (2 : Nat) ^ (fldAt 4).toNat = 268435456 from rfl, show (2 : Nat) ^ (fldW 4).toNat = 2097152 from rfl]
    omega
theorem par_wds {c : C} (h : okC c = true) (hw : Wf c) : parB (wds c) = true ∧ parC (wds c) = c ∧ parE (wds c) = 0 := by
  have hb : parB (wds c) = true := by
    rw [parB, parW_wds h hw, h]
    simp [wds]
  refine ⟨hb, ?_, (par_yes hb).2⟩
  rw [(par_yes hb).1, parW_wds h hw]
theorem wds_u64 {c : C} (h : okC c = true) (hw : Wf c) : ∀ x ∈ wds c, U64 x := by
  intro x hx
  simp only [wds, List.mem_cons, List.not_mem_nil, or_false] at hx
  rcases hx with rfl | rfl | rfl | rfl
  · exact acc_u64 h 5
  · exact hw.a
  · exact hw.b
  · exact wrap_u _
theorem wds_inj {c d : C} (h : okC c = true) (hc : Wf c) (k : okC d = true) (hd : Wf d) (e : wds c = wds d) : c = d := by
  rw [← parW_wds h hc, e, parW_wds k hd]
theorem get_u64 {l : List Int} (hl : ∀ x ∈ l, U64 x) (j : Nat) : U64 (l.getD j 0) := by
  by_cases hj : j < l.length
  · have e : l.getD j 0 = l[j] := by simp [List.getD, hj]
    rw [e]
    exact hl _ (List.getElem_mem hj)
  · have e : l.getD j 0 = 0 := by simp [List.getD, Nat.le_of_not_lt hj]
    rw [e]
    exact u64_of 0 (by omega)
theorem parW_wf {l : List Int} (hl : ∀ x ∈ l, U64 x) : Wf (parW l) := ⟨get_u64 hl 1, get_u64 hl 2, wrap_in _⟩
/-- .. AND BACK AGAIN. -/
theorem wds_par {l : List Int} (hl : ∀ x ∈ l, U64 x) (h : parB l = true) : okC (parC l) = true ∧ wds (parC l) = l ∧ putL (parC l) = l ∧ chE (parC l) = 0 ∧ Wf (parC l) := by
  have h' := h
  simp only [parB, Bool.and_eq_true, beq_iff_eq] at h'
  obtain ⟨h4, hk, ha⟩ := h'
  rw [(par_yes h).1]
  have e : wds (parW l) = l := by
    match l, h4 with
    | [x, a, b, v], _ =>
      have hv := hl v (by simp)
      show [acc (parW [x, a, b, v]) 5, a, b, IntKind.u64.wrap (IntKind.i64.wrap v)] = _
      rw [ha, wrap_forth hv]
      rfl
  exact ⟨hk, e, by rw [(put_yes hk).1, e], (put_yes hk).2, parW_wf hl⟩
theorem wf_zero : Wf C.zero := ⟨u64_of 0 (by omega), u64_of 0 (by omega), by decide⟩
theorem parC_wf {l : List Int} (hl : ∀ x ∈ l, U64 x) : Wf (parC l) := by
  cases h : parB l with
  | true => rw [(par_yes h).1]; exact parW_wf hl
  | false => rw [(par_no h).1]; exact wf_zero
theorem par_len {l : List Int} (h : l.length ≠ 4) : parB l = false := by simp [parB, h]
/-- How words are read, as the walks meet it. -/
theorem par_legs {l : List Int} (h4 : l.length = 4) : (parB l = true ∧ putL (parW l) = wds (parW l) ∧ chE (parW l) = 0 ∧ acc (parW l) 5 = l.getD 0 0) ∨ (parB l = false ∧ putL (parW l) = [] ∧ chE (parW l) = 150) ∨ (parB l = false ∧ putL (parW l) = wds (parW l) ∧ chE (parW l) = 0 ∧ acc (parW l) 5 ≠ l.getD 0 0) := by
  cases hk : okC (parW l) with
  | false => exact .inr (.inl ⟨by simp [parB, hk], (put_no hk).1, (put_no hk).2⟩)
  | true =>
    by_cases ha : acc (parW l) 5 = l.getD 0 0
    · exact .inl ⟨by simp only [parB, hk, ha, h4]; simp, (put_yes hk).1, (put_yes hk).2, ha⟩
    · exact .inr (.inr ⟨by rw [parB, hk, beq_eq_false_iff_ne.2 ha]; simp, (put_yes hk).1, (put_yes hk).2, ha⟩)
end Go.Proofs.YtilannincbcgkaaDoor.Kl
