/- The states of places, and how they turn. -/
import Derived.Test.YtnagpedkmfmniaaArStep
namespace Go.Proofs.Ytnagpedkmfmniaa.Ar
open Go.Proofs.Ytnagpedkmfmniaa.Ha (nxG)

/-- A place's state: 1 live, 2 retired, 3 free, 4 limbo; 0: there is no such place. -/
def stN (a : Ar) (p : Int) : Nat := if 0 ≤ p ∧ p < a.ts.length then (if liveT (at_ a.ts p) = true then 1 else if (at_ a.ts p).gen = -1 then 2 else if 0 < cnt a.fr p then 3 else 4) else 0
section
variable {a : Ar} {p : Int}
theorem st_out (h : ¬ (0 ≤ p ∧ p < a.ts.length)) : stN a p = 0 := if_neg h
theorem st_live (h : 0 ≤ p ∧ p < a.ts.length) (h1 : liveT (at_ a.ts p) = true) : stN a p = 1 := by unfold stN; rw [if_pos h, if_pos h1]
theorem st_gone (h : 0 ≤ p ∧ p < a.ts.length) (h1 : liveT (at_ a.ts p) = false) (h2 : (at_ a.ts p).gen = -1) : stN a p = 2 := by unfold stN; rw [if_pos h, if_neg (by simp [h1]), if_pos h2]
theorem st_free (h : 0 ≤ p ∧ p < a.ts.length) (h1 : liveT (at_ a.ts p) = false) (h2 : (at_ a.ts p).gen ≠ -1) (h3 : 0 < cnt a.fr p) : stN a p = 3 := by unfold stN; rw [if_pos h, if_neg (by simp [h1]), if_neg h2, if_pos h3]
theorem st_limbo (h : 0 ≤ p ∧ p < a.ts.length) (h1 : liveT (at_ a.ts p) = false) (h2 : (at_ a.ts p).gen ≠ -1) (h3 : cnt a.fr p = 0) : stN a p = 4 := by unfold stN; rw [if_pos h, if_neg (by simp [h1]), if_neg h2, if_neg (by omega)]
end
/-- Two arenas alike at a place: the same state. -/
theorem st_same {a b : Ar} {p : Int} (h0 : b.ts.length = a.ts.length) (h1 : 0 ≤ p → at_ b.ts p = at_ a.ts p) (h2 : cnt b.fr p = cnt a.fr p) : stN b p = stN a p := by
  unfold stN
  by_cases h : 0 ≤ p
  · rw [h0, h1 h, h2]
  · rw [if_neg (fun x => h x.1), if_neg (fun x => h x.1)]

/-- WHAT IS DONE: take (kind 0), drop (1), give (2), refer (any other). -/
structure Ac where
  kind : Int
  core : Int
  obj : Int
  by_ : Int
  t : Th
def doE (a : Ar) (x : Ac) : Int := if x.kind = 0 then takeE a x.core x.t else if x.kind = 1 then dropE a x.obj else if x.kind = 2 then giveE a x.core x.obj else refE a x.obj x.by_
def doP (a : Ar) (x : Ac) : Int := if x.kind = 0 then takeP a x.core x.t else 0
def doA (a : Ar) (x : Ac) : Ar := if x.kind = 0 then takeA a x.core x.t else if x.kind = 1 then dropA a x.obj else if x.kind = 2 then giveA a x.core x.obj else refA a x.obj x.by_
def touch (a : Ar) (x : Ac) : Int := if x.kind = 0 then (li a.fr x.core).getD 0 0 else x.obj
theorem do_ok {a : Ar} (x : Ac) (h : Ok a) : Ok (doA a x) := by
  unfold doA
  split
  · exact take_ok _ _ h
  · split
    · exact drop_ok _ h
    · split
      · exact give_ok _ _ h
      · exact ref_ok _ _ h
theorem take_no {a : Ar} {c : Int} {t : Th} (h : takeE a c t ≠ 0) : takeA a c t = a := if_neg h
theorem drop_no {a : Ar} {p : Int} (h : dropE a p ≠ 0) : dropA a p = a := if_neg h
theorem give_no {a : Ar} {c p : Int} (h : giveE a c p ≠ 0) : giveA a c p = a := if_neg (fun x => h x.1)
theorem ref_no {a : Ar} {p b : Int} (h : refE a p b ≠ 0) : refA a p b = a := if_neg h
theorem do_no {a : Ar} {x : Ac} (h : doE a x ≠ 0) : doA a x = a := by
  unfold doE at h
  unfold doA
  split
  · next e => rw [if_pos e] at h; exact take_no h
  · next e =>
    rw [if_neg e] at h
    split
    · next e => rw [if_pos e] at h; exact drop_no h
    · next e =>
      rw [if_neg e] at h
      split
      · next e => rw [if_pos e] at h; exact give_no h
      · next e => rw [if_neg e] at h; exact ref_no h
theorem take_len (a : Ar) (c : Int) (t : Th) : (takeA a c t).ts.length = a.ts.length ∧ (takeA a c t).fr.length = a.fr.length := by unfold takeA; split <;> simp
theorem drop_len (a : Ar) (p : Int) : (dropA a p).ts.length = a.ts.length ∧ (dropA a p).fr.length = a.fr.length := by unfold dropA; split <;> simp
theorem give_len (a : Ar) (c p : Int) : (giveA a c p).ts.length = a.ts.length ∧ (giveA a c p).fr.length = a.fr.length := by unfold giveA; split <;> simp
theorem ref_len (a : Ar) (p b : Int) : (refA a p b).ts.length = a.ts.length ∧ (refA a p b).fr.length = a.fr.length := by unfold refA; split <;> simp
theorem do_len (a : Ar) (x : Ac) : (doA a x).ts.length = a.ts.length ∧ (doA a x).fr.length = a.fr.length := by
  unfold doA
  split
  · exact take_len _ _ _
  · split
    · exact drop_len _ _
    · split
      · exact give_len _ _ _
      · exact ref_len _ _ _
def Turn (a b : Ar) (p : Int) : Prop := (stN a p = 3 ∧ stN b p = 1) ∨ (stN a p = 1 ∧ (stN b p = 4 ∨ (stN b p = 2 ∧ (at_ a.ts p).gen = 4095))) ∨ (stN a p = 4 ∧ stN b p = 3)
theorem take_st {a : Ar} (c : Int) (t : Th) (p : Int) : stN (takeA a c t) p = stN a p ∨ (p = (li a.fr c).getD 0 0 ∧ Turn a (takeA a c t) p) := by
  by_cases e : takeE a c t = 0
  · obtain ⟨h, h0, h1, hl, h2⟩ := takeE_zero.1 e
    have hp := head_of h h0 h1 h2
    have hc := cnt_tail (a := a) h0 h1 h2 p
    have ea : takeA a c t = ⟨a.ts.set ((li a.fr c).getD 0 0).toNat (takeT a ((li a.fr c).getD 0 0) t), a.fr.set c.toNat (li a.fr c).tail⟩ := if_pos e
    by_cases e2 : p = (li a.fr c).getD 0 0
    · refine .inr ⟨e2, .inl ⟨?_, ?_⟩⟩
      · rw [e2]; exact st_free ⟨hp.p0, hp.p1⟩ hp.nl hp.ng (by rw [hp.one]; decide)
      · rw [ea, e2]
        refine st_live ⟨hp.p0, by simpa using hp.p1⟩ ?_
        simp only
        rw [at_set _ _ _ _ hp.p0 hp.p1 hp.p0, if_pos rfl]
        exact hl
    · refine .inl ?_
      rw [if_neg e2] at hc
      rw [ea]
      refine st_same (by simp) (fun h3 => ?_) (by simpa using hc)
      simp only
      rw [at_set _ _ _ _ hp.p0 hp.p1 h3, if_neg e2]
  · rw [take_no e]; exact .inl rfl
theorem drop_st {a : Ar} (q p : Int) : stN (dropA a q) p = stN a p ∨ (p = q ∧ Turn a (dropA a q) p) := by
  by_cases e : dropE a q = 0
  · obtain ⟨h, h0, h1, hl, h2⟩ := dropE_zero.1 e
    have ea : dropA a q = ⟨a.ts.set q.toNat (Th.none (nxG (at_ a.ts q).gen)), a.fr⟩ := if_pos e
    by_cases e2 : p = q
    · subst e2
      have hat : at_ (dropA a p).ts p = Th.none (nxG (at_ a.ts p).gen) := by
        rw [ea]
        simp only
        rw [at_set _ _ _ _ h0 h1 h0, if_pos rfl]
      have hr : 0 ≤ p ∧ p < (dropA a p).ts.length := ⟨h0, by rw [(drop_len a p).1]; exact h1⟩
      have hn : cnt a.fr p = 0 := by
        by_cases hc : 0 < cnt a.fr p
        · have := (h.places p (mem_cnt.2 hc)).nl
          rw [hl] at this
          cases this
        · omega
      refine .inr ⟨rfl, .inr (.inl ⟨st_live ⟨h0, h1⟩ hl, ?_⟩)⟩
      have ht := h.thing h0 h1
      have hg : 0 ≤ (at_ a.ts p).gen := by
        have := ht.g0
        have h3 := ht.gl
        by_cases h4 : (at_ a.ts p).gen = -1
        · rw [h3 h4] at hl; cases hl
        · omega
      by_cases h5 : (at_ a.ts p).gen = 4095
      · refine .inr ⟨st_gone hr (by rw [hat]; rfl) (by rw [hat]; show nxG _ = -1; rw [h5]; decide), h5⟩
      · refine .inl (st_limbo hr (by rw [hat]; rfl) ?_ (by rw [ea]; exact hn))
        rw [hat]
        show nxG _ ≠ -1
        have := ht.g1
        unfold nxG
        rw [if_pos (by omega)]
        omega
    · refine .inl ?_
      rw [ea]
      refine st_same (by simp) (fun h3 => ?_) rfl
      simp only
      rw [at_set _ _ _ _ h0 h1 h3, if_neg e2]
  · rw [drop_no e]; exact .inl rfl
theorem give_st {a : Ar} (c q p : Int) : stN (giveA a c q) p = stN a p ∨ (p = q ∧ Turn a (giveA a c q) p) := by
  by_cases e : giveE a c q = 0 ∧ (at_ a.ts q).gen ≠ -1
  · obtain ⟨h, h0, h1, h2, h3, hl, hc⟩ := giveE_zero.1 e.1
    have ea : giveA a c q = ⟨a.ts, a.fr.set c.toNat (li a.fr c ++ [q])⟩ := if_pos e
    have hm := cnt_more (a := a) q h2 h3 p
    by_cases e2 : p = q
    · subst e2
      rw [if_pos rfl] at hm
      refine .inr ⟨rfl, .inr (.inr ⟨st_limbo ⟨h0, h1⟩ hl e.2 hc, ?_⟩)⟩
      rw [ea]
      exact st_free ⟨h0, h1⟩ hl e.2 (by simp only; omega)
    · rw [if_neg e2] at hm
      refine .inl ?_
      rw [ea]
      exact st_same rfl (fun _ => rfl) hm
  · rw [show giveA a c q = a from if_neg e]; exact .inl rfl
theorem ref_st {a : Ar} (q b p : Int) : stN (refA a q b) p = stN a p := by
  by_cases e : refE a q b = 0
  · obtain ⟨h, h0, h1, hl, _⟩ := refE_zero.1 e
    have ea : refA a q b = ⟨a.ts.set q.toNat (refT (at_ a.ts q) b), a.fr⟩ := if_pos e
    by_cases e2 : p = q
    · subst e2
      rw [st_live ⟨h0, h1⟩ hl, ea]
      refine st_live ⟨h0, by simpa using h1⟩ ?_
      simp only
      rw [at_set _ _ _ _ h0 h1 h0, if_pos rfl]
      exact hl
    · rw [ea]
      refine st_same (by simp) (fun h3 => ?_) rfl
      simp only
      rw [at_set _ _ _ _ h0 h1 h3, if_neg e2]
  · rw [ref_no e]
/-- A PLACE GOES FROM FREE TO LIVE, TO LIMBO, TO FREE, AND AT MOST ONE PLACE TURNS. -/
theorem do_st (a : Ar) (x : Ac) (p : Int) : stN (doA a x) p = stN a p ∨ (p = touch a x ∧ Turn a (doA a x) p) := by
  unfold doA touch
  by_cases k0 : x.kind = 0
  · rw [if_pos k0, if_pos k0]
    exact take_st _ _ _
  · rw [if_neg k0, if_neg k0]
    by_cases k1 : x.kind = 1
    · rw [if_pos k1]; exact drop_st _ _
    · rw [if_neg k1]
      by_cases k2 : x.kind = 2
      · rw [if_pos k2]; exact give_st _ _ _
      · rw [if_neg k2]; exact .inl (ref_st _ _ _)
/-- How great the Refs are. -/
def RefB (a : Ar) (B : Int) : Prop := ∀ k, k < a.ts.length → (a.ts.getD k Th.zero).refs ≤ B
theorem refB_set {a : Ar} {B : Int} (h : RefB a B) (p : Int) (t : Th) (fr : List (List Int)) (hp : 0 ≤ p) (hl : p < a.ts.length) (B' : Int) (hB : B ≤ B') (ht : t.refs ≤ B') : RefB ⟨a.ts.set p.toNat t, fr⟩ B' := by
  intro k hk
  have e := at_set a.ts p (k : Int) t hp hl (by omega)
  rw [at_nat] at e
  rw [e]
  split
  · exact ht
  · have := h k (by simpa using hk)
    rw [at_nat]
    omega
theorem do_refB {a : Ar} {B : Int} (x : Ac) (h : RefB a B) (hB : 1 ≤ B) : RefB (doA a x) (B + 100) := by
  have hm : RefB a (B + 100) := fun k hk => by have := h k hk; omega
  unfold doA
  split
  · unfold takeA
    split
    · next e =>
      obtain ⟨ho, h0, h1, hl, h2⟩ := takeE_zero.1 e
      have hp := head_of ho h0 h1 h2
      exact refB_set h _ _ _ hp.p0 hp.p1 _ (by omega) (by show (1 : Int) ≤ _; omega)
    · exact hm
  · split
    · unfold dropA
      split
      · next e =>
        obtain ⟨ho, h0, h1, hl, h2⟩ := dropE_zero.1 e
        exact refB_set h _ _ _ h0 h1 _ (by omega) (by show (0 : Int) ≤ _; omega)
      · exact hm
    · split
      · unfold giveA
        split
        · exact hm
        · exact hm
      · unfold refA
        split
        · next e =>
          obtain ⟨ho, h0, h1, hl, h2, h3, h4⟩ := refE_zero.1 e
          refine refB_set h _ _ _ h0 h1 _ (by omega) ?_
          have := h x.obj.toNat (by omega)
          show (at_ a.ts x.obj).refs + x.by_ ≤ _
          unfold at_
          omega
        · exact hm
end Go.Proofs.Ytnagpedkmfmniaa.Ar
