/- What is done to an arena: take, drop, give, refer; its places' states. -/
import Derived.Test.YtnagpedkmfmniaaArMath
import Derived.Test.YtnagpedkmfmniaaHaMath
namespace Go.Proofs.Ytnagpedkmfmniaa.Ar
open Go.Proofs.Ytnagpedkmfmniaa.Ha (nxG)

theorem nxG_ok (g : Int) : -1 ≤ nxG g ∧ nxG g ≤ 4095 := by unfold nxG; split <;> omega

/-- WHETHER A CORE MAY TAKE A PLACE FOR A THING, WHICH, AND WHAT IS THEN. -/
def takeE (a : Ar) (c : Int) (t : Th) : Int := if okA a = true ∧ 0 ≤ c ∧ c < a.fr.length ∧ liveT t = true then (if (li a.fr c).length = 0 then 5 else 0) else 2
def takeP (a : Ar) (c : Int) (t : Th) : Int := if takeE a c t = 0 then (li a.fr c).getD 0 0 else 0
def takeT (a : Ar) (p : Int) (t : Th) : Th := ⟨t.ty, (at_ a.ts p).gen, 1, t.st, t.sz, t.wa, t.fm, t.va⟩
def takeA (a : Ar) (c : Int) (t : Th) : Ar := if takeE a c t = 0 then ⟨a.ts.set ((li a.fr c).getD 0 0).toNat (takeT a ((li a.fr c).getD 0 0) t), a.fr.set c.toNat (li a.fr c).tail⟩ else a
def dropE (a : Ar) (p : Int) : Int := if okA a = true ∧ 0 ≤ p ∧ p < a.ts.length ∧ liveT (at_ a.ts p) = true ∧ (at_ a.ts p).refs = 0 then 0 else 2
def dropA (a : Ar) (p : Int) : Ar := if dropE a p = 0 then ⟨a.ts.set p.toNat (Th.none (nxG (at_ a.ts p).gen)), a.fr⟩ else a
def giveE (a : Ar) (c p : Int) : Int := if okA a = true ∧ 0 ≤ p ∧ p < a.ts.length ∧ 0 ≤ c ∧ c < a.fr.length ∧ liveT (at_ a.ts p) = false ∧ cnt a.fr p = 0 then 0 else 2
def giveA (a : Ar) (c p : Int) : Ar := if giveE a c p = 0 ∧ (at_ a.ts p).gen ≠ -1 then ⟨a.ts, a.fr.set c.toNat (li a.fr c ++ [p])⟩ else a
def refE (a : Ar) (p by_ : Int) : Int := if okA a = true ∧ 0 ≤ p ∧ p < a.ts.length ∧ liveT (at_ a.ts p) = true ∧ -100 ≤ by_ ∧ by_ ≤ 100 ∧ 0 ≤ (at_ a.ts p).refs + by_ then 0 else 2
def refT (t : Th) (by_ : Int) : Th := ⟨t.ty, t.gen, t.refs + by_, t.st, t.sz, t.wa, t.fm, t.va⟩
def refA (a : Ar) (p by_ : Int) : Ar := if refE a p by_ = 0 then ⟨a.ts.set p.toNat (refT (at_ a.ts p) by_), a.fr⟩ else a

theorem takeE_zero {a : Ar} {c : Int} {t : Th} : takeE a c t = 0 ↔ (Ok a ∧ 0 ≤ c ∧ c < a.fr.length ∧ liveT t = true ∧ 0 < (li a.fr c).length) := by
  unfold takeE
  rw [← okA_iff]
  split
  · next h =>
    split
    · next h2 => exact ⟨fun e => by omega, fun e => by omega⟩
    · next h2 => exact ⟨fun _ => ⟨h.1, h.2.1, h.2.2.1, h.2.2.2, by omega⟩, fun _ => rfl⟩
  · next h => exact ⟨fun e => by omega, fun e => absurd ⟨e.1, e.2.1, e.2.2.1, e.2.2.2.1⟩ h⟩
theorem dropE_zero {a : Ar} {p : Int} : dropE a p = 0 ↔ (Ok a ∧ 0 ≤ p ∧ p < a.ts.length ∧ liveT (at_ a.ts p) = true ∧ (at_ a.ts p).refs = 0) := by
  unfold dropE
  rw [← okA_iff]
  split
  · next h => exact ⟨fun _ => h, fun _ => rfl⟩
  · next h => exact ⟨fun e => by omega, fun e => absurd e h⟩
theorem giveE_zero {a : Ar} {c p : Int} : giveE a c p = 0 ↔ (Ok a ∧ 0 ≤ p ∧ p < a.ts.length ∧ 0 ≤ c ∧ c < a.fr.length ∧ liveT (at_ a.ts p) = false ∧ cnt a.fr p = 0) := by
  unfold giveE
  rw [← okA_iff]
  split
  · next h => exact ⟨fun _ => h, fun _ => rfl⟩
  · next h => exact ⟨fun e => by omega, fun e => absurd e h⟩
theorem refE_zero {a : Ar} {p by_ : Int} : refE a p by_ = 0 ↔ (Ok a ∧ 0 ≤ p ∧ p < a.ts.length ∧ liveT (at_ a.ts p) = true ∧ -100 ≤ by_ ∧ by_ ≤ 100 ∧ 0 ≤ (at_ a.ts p).refs + by_) := by
  unfold refE
  rw [← okA_iff]
  split
  · next h => exact ⟨fun _ => h, fun _ => rfl⟩
  · next h => exact ⟨fun e => by omega, fun e => absurd e h⟩
theorem takeE_ways (a : Ar) (c : Int) (t : Th) : takeE a c t = 0 ∨ takeE a c t = 5 ∨ takeE a c t = 2 := by unfold takeE; split <;> (try split) <;> simp
theorem dropE_ways (a : Ar) (p : Int) : dropE a p = 0 ∨ dropE a p = 2 := by unfold dropE; split <;> simp
theorem giveE_ways (a : Ar) (c p : Int) : giveE a c p = 0 ∨ giveE a c p = 2 := by unfold giveE; split <;> simp
theorem refE_ways (a : Ar) (p by_ : Int) : refE a p by_ = 0 ∨ refE a p by_ = 2 := by unfold refE; split <;> simp

theorem at_set (ts : List Th) (p q : Int) (t : Th) (hp : 0 ≤ p) (hl : p < ts.length) (hq : 0 ≤ q) : at_ (ts.set p.toNat t) q = if q = p then t else at_ ts q := by
  unfold at_
  by_cases e : q = p
  · subst e
    rw [if_pos rfl]
    have : q.toNat < ts.length := by omega
    simp [List.getD, this]
  · rw [if_neg e]
    have : p.toNat ≠ q.toNat := by omega
    simp [List.getD, this]
theorem at_nat (ts : List Th) (k : Nat) : at_ ts (k : Int) = ts.getD k Th.zero := rfl
theorem Ok.thing {a : Ar} (h : Ok a) {p : Int} (h0 : 0 ≤ p) (h1 : p < a.ts.length) : OkT (at_ a.ts p) := h.things p.toNat (by omega)
/-- One thing is another one: the arena may be as before. -/
theorem ok_set {a : Ar} (h : Ok a) (p : Int) (t : Th) (hp : 0 ≤ p) (hl : p < a.ts.length) (ht : OkT t) (fr : List (List Int)) (hf : fr.length = a.fr.length)
    (hq : ∀ q, 0 < cnt fr q → (q ≠ p → 0 < cnt a.fr q) ∧ (q = p → liveT t = false ∧ t.gen ≠ -1) ∧ cnt fr q = 1) : Ok ⟨a.ts.set p.toNat t, fr⟩ := by
  refine ⟨by simpa using h.t0, by simpa using h.t1, by rw [hf]; exact h.f0, by rw [hf]; exact h.f1, fun k hk => ?_, fun q hm => ?_⟩
  · have e := at_set a.ts p (k : Int) t hp hl (by omega)
    rw [at_nat] at e
    rw [e]
    split
    · exact ht
    · exact h.things k (by simpa using hk)
  · obtain ⟨h1, h2, h3⟩ := hq q (mem_cnt.1 hm)
    by_cases e : q = p
    · subst e
      refine ⟨hp, by simpa using hl, ?_, ?_, h3⟩
      · show liveT (at_ (a.ts.set q.toNat t) q) = false
        rw [at_set _ _ _ _ hp hl hp, if_pos rfl]
        exact (h2 rfl).1
      · show (at_ (a.ts.set q.toNat t) q).gen ≠ -1
        rw [at_set _ _ _ _ hp hl hp, if_pos rfl]
        exact (h2 rfl).2
    · have := h.places q (mem_cnt.2 (h1 e))
      refine ⟨this.p0, by simpa using this.p1, ?_, ?_, h3⟩
      · show liveT (at_ (a.ts.set p.toNat t) q) = false
        rw [at_set _ _ _ _ hp hl this.p0, if_neg e]
        exact this.nl
      · show (at_ (a.ts.set p.toNat t) q).gen ≠ -1
        rw [at_set _ _ _ _ hp hl this.p0, if_neg e]
        exact this.ng
/-- What is known of the place that is taken. -/
theorem head_of {a : Ar} {c : Int} (h : Ok a) (h0 : 0 ≤ c) (h1 : c < a.fr.length) (h2 : 0 < (li a.fr c).length) : OkP a ((li a.fr c).getD 0 0) :=
  h.places _ (mem_at (c := c.toNat) (k := 0) (by omega) h2)
theorem cnt_tail {a : Ar} {c : Int} (h0 : 0 ≤ c) (h1 : c < a.fr.length) (h2 : 0 < (li a.fr c).length) (q : Int) : cnt (a.fr.set c.toNat (li a.fr c).tail) q + (if q = (li a.fr c).getD 0 0 then 1 else 0) = cnt a.fr q := by
  have h := cnt_set a.fr c.toNat (li a.fr c).tail (by omega) q
  have e : (a.fr.getD c.toNat []).count q = (li a.fr c).tail.count q + (if q = (li a.fr c).getD 0 0 then 1 else 0) := by
    show (li a.fr c).count q = _
    cases hl : li a.fr c with
    | nil => rw [hl] at h2; simp at h2
    | cons x r =>
      simp only [List.tail_cons, List.getD_cons_zero, List.count_cons]
      by_cases e : q = x
      · subst e; simp
      · rw [if_neg e, if_neg (by simp; exact fun e2 => e e2.symm)]
  omega
theorem cnt_more {a : Ar} {c : Int} (p : Int) (h0 : 0 ≤ c) (h1 : c < a.fr.length) (q : Int) : cnt (a.fr.set c.toNat (li a.fr c ++ [p])) q = cnt a.fr q + (if q = p then 1 else 0) := by
  have h := cnt_set a.fr c.toNat (li a.fr c ++ [p]) (by omega) q
  have e : (li a.fr c ++ [p]).count q = (a.fr.getD c.toNat []).count q + (if q = p then 1 else 0) := by
    rw [List.count_append, List.count_singleton]
    show (li a.fr c).count q + _ = (li a.fr c).count q + _
    by_cases e : q = p
    · subst e; simp
    · rw [if_neg e, if_neg (by simp; exact fun e2 => e e2.symm)]
  omega
theorem take_ok {a : Ar} (c : Int) (t : Th) (h : Ok a) : Ok (takeA a c t) := by
  unfold takeA
  split
  · next e =>
    obtain ⟨_, h0, h1, hl, h2⟩ := takeE_zero.1 e
    have hp := head_of h h0 h1 h2
    have ht := h.thing hp.p0 hp.p1
    have hli := live_iff.1 hl
    refine ok_set h ((li a.fr c).getD 0 0) (takeT a ((li a.fr c).getD 0 0) t) hp.p0 hp.p1 ⟨by show 0 ≤ t.ty; omega, hli.2, ht.g0, ht.g1, fun x => absurd x hp.ng, by show (0 : Int) ≤ 1; omega, fun x => ?_⟩ (a.fr.set c.toNat (li a.fr c).tail) (by simp) (fun q hq => ?_)
    · have : liveT t = false := x
      rw [hl] at this
      cases this
    · have hc := cnt_tail (a := a) h0 h1 h2 q
      by_cases e2 : q = (li a.fr c).getD 0 0
      · rw [if_pos e2] at hc
        have := hp.one
        rw [← e2] at this
        omega
      · rw [if_neg e2] at hc
        have h3 := (h.places q (mem_cnt.2 (by omega))).one
        exact ⟨fun _ => by omega, fun x => absurd x e2, by omega⟩
  · exact h
theorem drop_ok {a : Ar} (p : Int) (h : Ok a) : Ok (dropA a p) := by
  unfold dropA
  split
  · next e =>
    obtain ⟨_, h0, h1, hl, h2⟩ := dropE_zero.1 e
    have hn := nxG_ok (at_ a.ts p).gen
    refine ok_set h p _ h0 h1 ⟨by show (0 : Int) ≤ 0; omega, by show (0 : Int) ≤ 5; omega, hn.1, hn.2, fun _ => rfl, by show (0 : Int) ≤ 0; omega, fun _ => rfl⟩ _ rfl (fun q hq => ?_)
    have := h.places q (mem_cnt.2 hq)
    refine ⟨fun _ => hq, fun e2 => ?_, this.one⟩
    subst e2
    have := this.nl
    rw [hl] at this
    cases this
  · exact h
theorem give_ok {a : Ar} (c p : Int) (h : Ok a) : Ok (giveA a c p) := by
  unfold giveA
  split
  · next e =>
    obtain ⟨_, h0, h1, h2, h3, hl, hc⟩ := giveE_zero.1 e.1
    refine ⟨h.t0, h.t1, by simpa using h.f0, by simpa using h.f1, h.things, fun q hm => ?_⟩
    have hq := mem_cnt.1 hm
    have hs := cnt_more (a := a) p h2 h3 q
    simp only at hq
    by_cases e2 : q = p
    · subst e2
      rw [if_pos rfl] at hs
      exact ⟨h0, h1, hl, e.2, by show cnt (a.fr.set _ _) _ = 1; omega⟩
    · rw [if_neg e2] at hs
      have := h.places q (mem_cnt.2 (by omega))
      exact ⟨this.p0, this.p1, this.nl, this.ng, by show cnt (a.fr.set _ _) _ = 1; rw [hs]; exact this.one⟩
  · exact h
theorem ref_ok {a : Ar} (p by_ : Int) (h : Ok a) : Ok (refA a p by_) := by
  unfold refA
  split
  · next e =>
    obtain ⟨_, h0, h1, hl, h2, h3, h4⟩ := refE_zero.1 e
    have ht := h.thing h0 h1
    refine ok_set h p (refT (at_ a.ts p) by_) h0 h1 ⟨ht.ty0, ht.ty5, ht.g0, ht.g1, ht.gl, h4, fun x => ?_⟩ _ rfl (fun q hq => ?_)
    · have : liveT (at_ a.ts p) = false := x
      rw [hl] at this
      cases this
    · have := h.places q (mem_cnt.2 hq)
      refine ⟨fun _ => hq, fun e2 => ?_, this.one⟩
      subst e2
      have := this.nl
      rw [hl] at this
      cases this
  · exact h
end Go.Proofs.Ytnagpedkmfmniaa.Ar
