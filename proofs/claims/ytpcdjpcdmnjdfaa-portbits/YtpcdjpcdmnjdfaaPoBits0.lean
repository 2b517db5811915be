/- PortBits, what it knows: given is what was taken and what the word still holds. Without any program. -/
import Derived.Test.YtpcdjpcdmnjdfaaPoFact
namespace Go.Proofs.Ytpcdjpcdmnjdfaa.Po

def toI (X : BitVec 64) : Int := IntKind.i64.wrap (X.toNat : Int)
theorem toI_bv (X : BitVec 64) : BitVec.ofInt 64 (toI X) = X := by
  apply BitVec.eq_of_toNat_eq
  have hx := X.isLt
  rw [toI, BitVec.toNat_ofInt, IntKind.wrap_i64]
  omega
theorem bor_bv (a b : Int) : bits .or .i64 a b = toI (BitVec.ofInt 64 a ||| BitVec.ofInt 64 b) := rfl
theorem band_bv (a b : Int) : bits .and .i64 a b = toI (BitVec.ofInt 64 a &&& BitVec.ofInt 64 b) := rfl
theorem bless_bv (a b : Int) : bits .andNot .i64 a b = toI (BitVec.ofInt 64 a &&& ~~~ BitVec.ofInt 64 b) := rfl
theorem toI_zero : toI 0#64 = 0 := by decide
theorem zero_of {X : BitVec 64} (h : toI X = 0) : X = 0#64 := by
  have e := toI_bv X
  rw [h] at e
  rw [← e]
  decide
/-- What was given is what was taken and what the word holds. -/
structure Bi (p : Pt) (g t : Int) : Prop where
  ok : okP p = true
  kd : p.k = 0 ∨ p.k = 2
  of : ∃ T V : BitVec 64, t = toI T ∧ p.w = toI V ∧ g = toI (T ||| V)
theorem bi_start : Bi p0 0 0 := ⟨rfl, .inl rfl, 0#64, 0#64, toI_zero.symm, toI_zero.symm, toI_zero.symm⟩
theorem Bi.w0 {p : Pt} {g t : Int} (h : Bi p g t) (hk : p.k = 2) : p.w = 0 := by
  rcases ftB_iff.1 (okP_iff.1 h.ok).1 with ⟨e, _⟩ | ⟨_, _, e⟩
  · omega
  · exact e
theorem Bi.meet {p : Pt} {g t : Int} (h : Bi p g t) (hk : p.k = 2) (n : Int) : Bi (woP p 0) (bits .or .i64 g n) (bits .or .i64 t n) := by
  obtain ⟨T, V, e1, e2, e3⟩ := h.of
  have hl : 0 < p.l.length := ok_some h.ok (by omega)
  have hV : V = 0#64 := zero_of (e2.symm.trans (h.w0 hk))
  subst hV
  refine ⟨ok_wo h.ok 0 hl, ?_, T ||| BitVec.ofInt 64 n, 0#64, ?_, e2, ?_⟩
  · show (if (p.l.eraseIdx 0).length = 0 then (0 : Int) else p.k) = 0 ∨ (if (p.l.eraseIdx 0).length = 0 then (0 : Int) else p.k) = 2
    split
    · exact .inl rfl
    · exact .inr hk
  · rw [bor_bv, e1, toI_bv]
  · rw [bor_bv, e3, toI_bv, BitVec.or_zero, BitVec.or_zero]
theorem Bi.word {p : Pt} {g t : Int} (h : Bi p g t) (hk : p.k = 0) (n : Int) : Bi ⟨p.k, bor p.w n, p.l⟩ (bits .or .i64 g n) t := by
  obtain ⟨T, V, e1, e2, e3⟩ := h.of
  have hf := okP_iff.1 h.ok
  have hl : p.l.length = 0 := by
    rcases ftB_iff.1 hf.1 with ⟨_, e⟩ | ⟨e, _, _⟩
    · exact e
    · omega
  refine ⟨okP_iff.2 ⟨ftB_iff.2 (.inl ⟨hk, hl⟩), hf.2⟩, .inl hk, T, V ||| BitVec.ofInt 64 n, e1, ?_, ?_⟩
  · show bits .or .i64 p.w n = _
    rw [bor_bv, e2, toI_bv]
  · rw [bor_bv, e3, toI_bv, BitVec.or_assoc]
theorem Bi.wait {p : Pt} {g t : Int} (h : Bi p g t) (c : Int) : Bi (waP p c) g (bits .or .i64 t (waN p c)) := by
  obtain ⟨T, V, e1, e2, e3⟩ := h.of
  have z : BitVec.ofInt 64 0 = 0#64 := by decide
  by_cases hr : rfE p c = 0
  · by_cases hw : p.w = 0
    · have f := wa_wait hr hw
      obtain ⟨_, hc, hf⟩ := rf_zero hr
      rw [f.1, f.2]
      refine ⟨ok_wi h.ok hc hf hw (.inr rfl), .inr rfl, T, V, ?_, e2, e3⟩
      rw [bor_bv, e1, toI_bv, z, BitVec.or_zero]
    · have f := wa_word hr hw
      have hk : p.k = 0 := by
        rcases h.kd with e | e
        · exact e
        · exact absurd (h.w0 e) hw
      have hf := okP_iff.1 h.ok
      have hl : p.l.length = 0 := by
        rcases ftB_iff.1 hf.1 with ⟨_, e⟩ | ⟨e, _, _⟩
        · exact e
        · omega
      rw [f.1, f.2]
      refine ⟨okP_iff.2 ⟨ftB_iff.2 (.inl ⟨hk, hl⟩), hf.2⟩, .inl hk, T ||| V, 0#64, ?_, toI_zero.symm, ?_⟩
      · rw [bor_bv, e1, e2, toI_bv, toI_bv]
      · rw [e3, BitVec.or_zero]
  · have f := wa_no hr
    rw [f.1, f.2]
    refine ⟨h.ok, h.kd, T, V, ?_, e2, e3⟩
    rw [bor_bv, e1, toI_bv, z, BitVec.or_zero]
theorem wa_num {p : Pt} {c : Int} (hr : rfE p c = 0) : waN p c = p.w ∧ (waN p c ≠ 0 → (waP p c).w = 0) := by
  refine ⟨by simp [waN, hr], fun hn => ?_⟩
  have hw : ¬ p.w = 0 := by simpa [waN, hr] using hn
  rw [(wa_word hr hw).1]
theorem Bi.fin {p : Pt} {g t : Int} (h : Bi p g t) : bits .andNot .i64 t g = 0 ∧ bits .or .i64 (bits .or .i64 t p.w) (bits .and .i64 g t) = g ∧ (p.w ≠ 0 → p.k = 0) := by
  obtain ⟨T, V, e1, e2, e3⟩ := h.of
  refine ⟨?_, ?_, fun hw => ?_⟩
  · rw [bless_bv, e1, e3, toI_bv, toI_bv]
    have z : T &&& ~~~ (T ||| V) = 0#64 := by
      ext i hi
      simp
      intro a
      simp [a]
    rw [z, toI_zero]
  · rw [bor_bv, bor_bv, band_bv, e1, e2, e3, toI_bv, toI_bv, toI_bv, toI_bv, toI_bv]
    congr 1
    ext i hi
    simp
    cases T[i] <;> cases V[i] <;> simp
  · rcases h.kd with e | e
    · exact e
    · exact absurd (h.w0 e) hw
end Go.Proofs.Ytpcdjpcdmnjdfaa.Po
