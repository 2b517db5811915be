/- No two cores are given one place; a place that comes again has another generation. -/
import Derived.Test.YtnagpedkmfmniaaArNew
namespace Go.Proofs.Ytnagpedkmfmniaa.Ar
open Go.Proofs.Ytnagpedkmfmniaa.Ha (nxG)

def frameT : Th := ⟨3, 0, 0, 0, 0, 0, -1, 0⟩
theorem frame_live : liveT frameT = true := by decide
/-- The thing that was given, and where. -/
def seenT (g p : Int) : Th := ⟨3, g, 1, p, 0, 0, -1, 0⟩
/-- WHAT IS KNOWN WHILE PLACES ARE TAKEN AND LET GO. -/
structure Apt (n m : Nat) (a : Ar) (pl : List Int) (seen : List Th) : Prop where
  ok : Ok a
  tl : a.ts.length = n
  fl : a.fr.length = m
  mem : ∀ p, p ∈ pl ↔ (0 ≤ p ∧ p < n ∧ liveT (at_ a.ts p) = true)
  nd : ∀ p, p ∈ pl → pl.count p = 1
  one : ∀ p, p ∈ pl → (at_ a.ts p).refs = 1
  seen : ∀ s, s ∈ seen → 0 ≤ s.st ∧ s.st < n ∧ (s.gen < (at_ a.ts s.st).gen ∨ (at_ a.ts s.st).gen = -1 ∨ (liveT (at_ a.ts s.st) = true ∧ s.gen = (at_ a.ts s.st).gen))
theorem apt_start (n m : Nat) (h0 : 1 ≤ n) (h1 : n ≤ 64) (h2 : 1 ≤ m) (h3 : m ≤ 64) : Apt n m (newA n m) [] [] := by
  refine ⟨new_ok n m h0 h1 h2 h3, by simp [newA], len_newF n m, fun p => ⟨fun h => (by simp at h), fun ⟨h4, h5, h6⟩ => ?_⟩, fun p h => (by simp at h), fun p h => (by simp at h), fun s h => (by simp at h)⟩
  obtain ⟨k, rfl⟩ : ∃ k : Nat, p = (k : Int) := ⟨p.toNat, by omega⟩
  rw [show at_ (newA n m).ts (k : Int) = Th.none 0 from new_at n k (by omega), live_none] at h6
  cases h6
section
variable {n m : Nat} {a : Ar} {pl : List Int} {seen : List Th}
theorem Apt.refB (h : Apt n m a pl seen) : RefB a 1 := by
  intro k hk
  have e : a.ts.getD k Th.zero = at_ a.ts (k : Int) := rfl
  by_cases hl : liveT (at_ a.ts (k : Int)) = true
  · rw [e, h.one (k : Int) ((h.mem _).2 ⟨by omega, by rw [h.tl] at hk; omega, hl⟩)]
    omega
  · have := (h.ok.things k hk).rl (by rw [e]; simpa using hl)
    omega
/-- WHAT A CORE IS GIVEN. -/
theorem apt_take (h : Apt n m a pl seen) (c : Int) (e : takeE a c frameT = 0) :
    ∃ p : Nat, takeP a c frameT = (p : Int) ∧ p < n ∧ (p : Int) ∉ pl ∧ (takeA a c frameT).ts.getD p Th.zero = ⟨3, (at_ a.ts (p : Int)).gen, 1, 0, 0, 0, -1, 0⟩ ∧ (∀ s, s ∈ seen → s ≠ seenT (at_ a.ts (p : Int)).gen (p : Int)) ∧ Apt n m (takeA a c frameT) (pl ++ [(p : Int)]) (seen ++ [seenT (at_ a.ts (p : Int)).gen (p : Int)]) := by
  obtain ⟨_, h0, h1, hl, h2⟩ := takeE_zero.1 e
  have hp := head_of h.ok h0 h1 h2
  obtain ⟨p, ep⟩ : ∃ p : Nat, (li a.fr c).getD 0 0 = (p : Int) := ⟨((li a.fr c).getD 0 0).toNat, by have := hp.p0; omega⟩
  rw [ep] at hp
  have ea : takeA a c frameT = ⟨a.ts.set p (takeT a (p : Int) frameT), a.fr.set c.toNat (li a.fr c).tail⟩ := by
    have : takeA a c frameT = _ := if_pos e
    rw [this, ep]
    simp
  have eP : takeP a c frameT = (p : Int) := by
    have : takeP a c frameT = _ := if_pos e
    rw [this, ep]
  have hpn : p < n := by have := hp.p1; rw [h.tl] at this; omega
  have hat : ∀ q : Int, 0 ≤ q → at_ (takeA a c frameT).ts q = if q = (p : Int) then takeT a (p : Int) frameT else at_ a.ts q := by
    intro q hq
    rw [ea]
    have := at_set a.ts (p : Int) q (takeT a (p : Int) frameT) hp.p0 hp.p1 hq
    rwa [Int.toNat_natCast] at this
  have hnot : (p : Int) ∉ pl := by
    intro hm
    have := ((h.mem _).1 hm).2.2
    rw [hp.nl] at this
    cases this
  refine ⟨p, eP, hpn, hnot, ?_, fun s hs e2 => ?_, ?_⟩
  · have := hat (p : Int) (by omega)
    rw [if_pos rfl] at this
    exact this
  · obtain ⟨_, _, h3⟩ := h.seen s hs
    have e3 : s.st = (p : Int) := by rw [e2]; rfl
    have e4 : s.gen = (at_ a.ts (p : Int)).gen := by rw [e2]; rfl
    rw [e3] at h3
    rcases h3 with h3 | h3 | ⟨h3, _⟩
    · omega
    · exact hp.ng h3
    · rw [hp.nl] at h3; cases h3
  · have hlen := take_len a c frameT
    refine ⟨take_ok c frameT h.ok, by rw [hlen.1, h.tl], by rw [hlen.2, h.fl], fun q => ?_, fun q hq => ?_, fun q hq => ?_, fun s hs => ?_⟩
    · rw [List.mem_append, List.mem_singleton, h.mem]
      constructor
      · rintro (⟨h3, h4, h5⟩ | rfl)
        · refine ⟨h3, h4, ?_⟩
          rw [hat q h3]
          split
          · exact frame_live
          · exact h5
        · refine ⟨by omega, by omega, ?_⟩
          rw [hat _ (by omega), if_pos rfl]
          exact frame_live
      · rintro ⟨h3, h4, h5⟩
        rw [hat q h3] at h5
        by_cases e2 : q = (p : Int)
        · exact .inr e2
        · rw [if_neg e2] at h5
          exact .inl ⟨h3, h4, h5⟩
    · rw [List.count_append, List.count_singleton]
      rcases List.mem_append.1 hq with h3 | h3
      · have e2 : q ≠ (p : Int) := fun x => hnot (x ▸ h3)
        rw [h.nd q h3, if_neg (by simp; exact fun x => e2 x.symm)]
      · rw [List.mem_singleton] at h3
        subst h3
        rw [List.count_eq_zero.2 hnot, if_pos (by simp)]
    · rcases List.mem_append.1 hq with h3 | h3
      · have e2 : q ≠ (p : Int) := fun x => hnot (x ▸ h3)
        rw [hat q ((h.mem q).1 h3).1, if_neg e2]
        exact h.one q h3
      · rw [List.mem_singleton] at h3
        rw [h3, hat _ (by omega), if_pos rfl]
        rfl
    · rcases List.mem_append.1 hs with h3 | h3
      · obtain ⟨h4, h5, h6⟩ := h.seen s h3
        refine ⟨h4, h5, ?_⟩
        rw [hat _ h4]
        by_cases e2 : s.st = (p : Int)
        · rw [if_pos e2]
          rw [e2] at h6
          rcases h6 with h6 | h6 | ⟨h6, _⟩
          · exact .inl h6
          · exact absurd h6 hp.ng
          · rw [hp.nl] at h6; cases h6
        · rw [if_neg e2]; exact h6
      · rw [List.mem_singleton] at h3
        subst h3
        refine ⟨by show (0 : Int) ≤ (p : Int); omega, by show (p : Int) < n; omega, ?_⟩
        have e2 := hat (p : Int) (by omega)
        rw [if_pos rfl] at e2
        refine .inr (.inr ⟨?_, ?_⟩)
        · show liveT (at_ (takeA a c frameT).ts (p : Int)) = true
          rw [e2]
          exact frame_live
        · show _ = (at_ (takeA a c frameT).ts (p : Int)).gen
          rw [e2]
          rfl
theorem apt_full (h : Apt n m a pl seen) (c : Int) (h0 : 0 ≤ c) (h1 : c < m) : takeE a c frameT = 0 ∨ takeE a c frameT = 5 := by
  unfold takeE
  rw [if_pos ⟨okA_iff.2 h.ok, h0, by rw [h.fl]; exact h1, frame_live⟩]
  split
  · exact .inr rfl
  · exact .inl rfl
/-- THE FIRST ONE IS LET GO. -/
theorem apt_back {q : Int} {r : List Int} (h : Apt n m a (q :: r) seen) (c : Int) (h0 : 0 ≤ c) (h1 : c < m) :
    refE a q (-1) = 0 ∧ RefB (refA a q (-1)) 1 ∧ dropE (refA a q (-1)) q = 0 ∧ giveE (dropA (refA a q (-1)) q) c q = 0 ∧ Apt n m (giveA (dropA (refA a q (-1)) q) c q) r seen := by
  obtain ⟨q0, q1, ql⟩ := (h.mem q).1 (by simp)
  have q1' : q < a.ts.length := by rw [h.tl]; exact q1
  have hr1 := h.one q (by simp)
  have hcq : cnt a.fr q = 0 := by
    by_cases hc : 0 < cnt a.fr q
    · have := (h.ok.places q (mem_cnt.2 hc)).nl
      rw [ql] at this
      cases this
    · omega
  have hgen : 0 ≤ (at_ a.ts q).gen := by
    have ht := h.ok.thing q0 q1'
    by_cases h4 : (at_ a.ts q).gen = -1
    · rw [ht.gl h4] at ql; cases ql
    · have := ht.g0; omega
  have e1 : refE a q (-1) = 0 := refE_zero.2 ⟨h.ok, q0, q1', ql, by omega, by omega, by omega⟩
  have ea1 : refA a q (-1) = ⟨a.ts.set q.toNat (refT (at_ a.ts q) (-1)), a.fr⟩ := if_pos e1
  have ok1 := ref_ok q (-1) h.ok
  have hat1 : ∀ x : Int, 0 ≤ x → at_ (refA a q (-1)).ts x = if x = q then refT (at_ a.ts q) (-1) else at_ a.ts x := by
    intro x hx; rw [ea1]; exact at_set a.ts q x _ q0 q1' hx
  have l1 := ref_len a q (-1)
  have q1a : q < (refA a q (-1)).ts.length := by rw [l1.1]; exact q1'
  have e2 : dropE (refA a q (-1)) q = 0 := dropE_zero.2 ⟨ok1, q0, q1a, by rw [hat1 q q0, if_pos rfl]; exact ql, by rw [hat1 q q0, if_pos rfl]; show (at_ a.ts q).refs + -1 = 0; omega⟩
  have ea2 : dropA (refA a q (-1)) q = ⟨(refA a q (-1)).ts.set q.toNat (Th.none (nxG (at_ (refA a q (-1)).ts q).gen)), (refA a q (-1)).fr⟩ := if_pos e2
  have ok2 := drop_ok q ok1
  have l2 := drop_len (refA a q (-1)) q
  have hat2 : ∀ x : Int, 0 ≤ x → at_ (dropA (refA a q (-1)) q).ts x = if x = q then Th.none (nxG (at_ a.ts q).gen) else at_ a.ts x := by
    intro x hx
    rw [ea2]
    show at_ ((refA a q (-1)).ts.set q.toNat _) x = _
    rw [at_set _ q x _ q0 q1a hx, hat1 q q0, if_pos rfl, hat1 x hx]
    by_cases e : x = q
    · rw [if_pos e, if_pos e]; rfl
    · rw [if_neg e, if_neg e, if_neg e]
  have hfr : (dropA (refA a q (-1)) q).fr = a.fr := by rw [ea2, ea1]
  have e3 : giveE (dropA (refA a q (-1)) q) c q = 0 := giveE_zero.2 ⟨ok2, q0, by rw [l2.1]; exact q1a, h0, by rw [hfr, h.fl]; exact h1, by rw [hat2 q q0, if_pos rfl]; rfl, by rw [hfr]; exact hcq⟩
  have ok3 := give_ok c q ok2
  have l3 := give_len (dropA (refA a q (-1)) q) c q
  have hts : (giveA (dropA (refA a q (-1)) q) c q).ts = (dropA (refA a q (-1)) q).ts := by unfold giveA; split <;> rfl
  have hat3 : ∀ x : Int, 0 ≤ x → at_ (giveA (dropA (refA a q (-1)) q) c q).ts x = if x = q then Th.none (nxG (at_ a.ts q).gen) else at_ a.ts x := by
    intro x hx; rw [hts]; exact hat2 x hx
  have hnq : q ∉ r := by
    intro hm
    have := h.nd q (by simp)
    rw [List.count_cons_self] at this
    have := List.count_pos_iff.2 hm
    omega
  refine ⟨e1, ?_, e2, e3, ok3, by rw [l3.1, l2.1, l1.1, h.tl], by rw [l3.2, l2.2, l1.2, h.fl], fun p => ?_, fun p hp => ?_, fun p hp => ?_, fun s hs => ?_⟩
  · rw [ea1]
    exact refB_set h.refB q _ _ q0 q1' 1 (Int.le_refl _) (by show (at_ a.ts q).refs + -1 ≤ 1; omega)
  · constructor
    · intro hp
      obtain ⟨h4, h5, h6⟩ := (h.mem p).1 (by simp [hp])
      refine ⟨h4, h5, ?_⟩
      rw [hat3 p h4, if_neg (fun (e : p = q) => hnq (e ▸ hp))]
      exact h6
    · rintro ⟨h4, h5, h6⟩
      rw [hat3 p h4] at h6
      by_cases e : p = q
      · rw [if_pos e, live_none] at h6; cases h6
      · rw [if_neg e] at h6
        have := (h.mem p).2 ⟨h4, h5, h6⟩
        rcases List.mem_cons.1 this with h7 | h7
        · exact absurd h7 e
        · exact h7
  · have := h.nd p (by simp [hp])
    have e : p ≠ q := fun e => hnq (e ▸ hp)
    rw [List.count_cons_of_ne (fun x => e x.symm)] at this
    exact this
  · have e : p ≠ q := fun e => hnq (e ▸ hp)
    rw [hat3 p ((h.mem p).1 (by simp [hp])).1, if_neg e]
    exact h.one p (by simp [hp])
  · obtain ⟨h4, h5, h6⟩ := h.seen s hs
    refine ⟨h4, h5, ?_⟩
    rw [hat3 _ h4]
    by_cases e : s.st = q
    · rw [if_pos e]
      rw [e] at h6
      have hle : s.gen ≤ (at_ a.ts q).gen := by
        rcases h6 with h6 | h6 | ⟨_, h6⟩ <;> omega
      show s.gen < nxG (at_ a.ts q).gen ∨ nxG (at_ a.ts q).gen = -1 ∨ _
      unfold nxG
      by_cases h7 : (at_ a.ts q).gen < 4095
      · rw [if_pos ⟨hgen, h7⟩]; exact .inl (by omega)
      · rw [if_neg (by omega)]; exact .inr (.inl rfl)
    · rw [if_neg e]; exact h6
end
end Go.Proofs.Ytnagpedkmfmniaa.Ar
