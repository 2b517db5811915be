/- All places are taken, each once. -/
import Derived.Test.YtnagpedkmfmniaaArNew
namespace Go.Proofs.Ytnagpedkmfmniaa.Ar

theorem countP_set {α : Type} (f : α → Bool) (l : List α) (z x : α) (k : Nat) (hk : k < l.length) : (l.set k x).countP f + (if f (l.getD k z) = true then 1 else 0) = l.countP f + (if f x = true then 1 else 0) := by
  induction l generalizing k with
  | nil => simp at hk
  | cons y r ih =>
    cases k with
    | zero =>
      simp only [List.set_cons_zero, List.countP_cons, List.getD_cons_zero]
      omega
    | succ k =>
      have := ih k (by simpa using hk)
      simp only [List.set_cons_succ, List.countP_cons, List.getD_cons_succ]
      omega
theorem getD_set (fr : List (List Int)) (c d : Nat) (l : List Int) (hc : c < fr.length) : (fr.set c l).getD d [] = if d = c then l else fr.getD d [] := by
  by_cases e : d = c
  · subst e
    rw [if_pos rfl]
    simp [List.getD, hc]
  · rw [if_neg e]
    have : c ≠ d := fun x => e x.symm
    simp [List.getD, this]
/-- The cores ahead of c have taken all of theirs, c the first i of its. -/
structure All (n m c i k : Nat) (a : Ar) : Prop where
  ok : Ok a
  tl : a.ts.length = n
  fl : a.fr.length = m
  rest : ∀ d, d < m → a.fr.getD d [] = if d < c then [] else if d = c then (newL n m c).drop i else newL n m d
  num : k = a.ts.countP liveT
  all : ∀ p, p < n → liveT (a.ts.getD p Th.zero) = true ∨ (p : Int) ∈ a.fr.getD (p % m) []
theorem alls_start (n m : Nat) (h0 : 1 ≤ n) (h1 : n ≤ 64) (h2 : 1 ≤ m) (h3 : m ≤ 64) : All n m 0 0 0 (newA n m) := by
  refine ⟨new_ok n m h0 h1 h2 h3, by simp [newA], len_newF n m, fun d hd => ?_, ?_, fun p hp => .inr ?_⟩
  · rw [show (newA n m).fr.getD d [] = newL n m d from newF_at n m d hd, if_neg (by omega)]
    split
    · next e => subst e; rfl
    · rfl
  · show 0 = (List.replicate n (Th.none 0)).countP liveT
    rw [List.countP_replicate, if_neg (by rw [live_none]; simp)]
  · have hm := Nat.mod_lt p (show 0 < m by omega)
    rw [show (newA n m).fr.getD (p % m) [] = newL n m (p % m) from newF_at n m _ hm]
    exact mem_newL.2 ⟨p, rfl, hp, rfl⟩
theorem All.list {n m c i k : Nat} {a : Ar} (h : All n m c i k a) (hc : c < m) : li a.fr (c : Int) = (newL n m c).drop i := by
  have := h.rest c hc
  rw [if_neg (by omega), if_pos rfl] at this
  exact this
theorem alls_take {n m c i k : Nat} {a : Ar} {t : Th} (h : All n m c i k a) (hc : c < m) (ht : liveT t = true) (hi : i < (newL n m c).length) :
    takeE a c t = 0 ∧ (∃ p : Nat, takeP a c t = (p : Int) ∧ p % m = c ∧ p < n ∧ stN a (p : Int) = 3 ∧ stN (takeA a c t) (p : Int) = 1) ∧ All n m c (i + 1) (k + 1) (takeA a c t) := by
  have hl := h.list hc
  have h2 : 0 < (li a.fr (c : Int)).length := by rw [hl, List.length_drop]; omega
  have h1 : (c : Int) < a.fr.length := by rw [h.fl]; omega
  have e : takeE a c t = 0 := takeE_zero.2 ⟨h.ok, by omega, h1, ht, h2⟩
  have hp := head_of h.ok (by omega) h1 h2
  have hmem : (li a.fr (c : Int)).getD 0 0 ∈ newL n m c := by
    have := getD_mem _ (0 : Int) 0 h2
    rw [hl] at this ⊢
    exact List.mem_of_mem_drop this
  obtain ⟨p, ep, hpn, hpm⟩ := mem_newL.1 hmem
  have ea : takeA a c t = ⟨a.ts.set p (takeT a (p : Int) t), a.fr.set c (li a.fr (c : Int)).tail⟩ := by
    have : takeA a c t = _ := if_pos e
    rw [this, ep]
    simp
  have eP : takeP a c t = (p : Int) := by
    have : takeP a c t = _ := if_pos e
    rw [this, ep]
  rw [ep] at hp
  have hs3 : stN a (p : Int) = 3 := st_free ⟨hp.p0, hp.p1⟩ hp.nl hp.ng (by rw [hp.one]; decide)
  have hs1 : stN (takeA a c t) (p : Int) = 1 := by
    rcases take_st (a := a) (c : Int) t (p : Int) with h3 | ⟨_, h3⟩
    · exfalso
      have : stN (takeA a c t) (p : Int) = 1 := by
        refine st_live ⟨hp.p0, by rw [(take_len a c t).1]; exact hp.p1⟩ ?_
        rw [ea]
        show liveT (at_ (a.ts.set p (takeT a (p : Int) t)) (p : Int)) = true
        have := at_set a.ts (p : Int) (p : Int) (takeT a (p : Int) t) hp.p0 hp.p1 hp.p0
        rw [if_pos rfl, Int.toNat_natCast] at this
        rw [this]
        exact ht
      omega
    · rcases h3 with ⟨_, h4⟩ | ⟨h4, _⟩ | ⟨h4, _⟩
      · exact h4
      · omega
      · omega
  refine ⟨e, ⟨p, eP, hpm, hpn, hs3, hs1⟩, ?_⟩
  have hok := take_ok (c : Int) t h.ok
  have hlen := take_len a c t
  refine ⟨hok, by rw [hlen.1, h.tl], by rw [hlen.2, h.fl], fun d hd => ?_, ?_, fun q hq => ?_⟩
  · rw [ea]
    show (a.fr.set c _).getD d [] = _
    rw [getD_set _ _ _ _ (by rw [h.fl]; exact hc)]
    by_cases e2 : d = c
    · subst e2
      rw [if_pos rfl, if_neg (by omega), if_pos rfl, hl, List.tail_drop]
    · rw [if_neg e2, h.rest d hd, if_neg e2, if_neg e2]
  · rw [ea]
    show k + 1 = (a.ts.set p _).countP liveT
    have := countP_set liveT a.ts Th.zero (takeT a (p : Int) t) p (by rw [h.tl]; exact hpn)
    rw [if_neg (by rw [show a.ts.getD p Th.zero = at_ a.ts (p : Int) from rfl, hp.nl]; simp), if_pos (show liveT (takeT a (p : Int) t) = true from ht)] at this
    rw [h.num]
    omega
  · rw [ea]
    show liveT ((a.ts.set p _).getD q Th.zero) = true ∨ (q : Int) ∈ (a.fr.set c _).getD (q % m) []
    have hset := at_set a.ts (p : Int) (q : Int) (takeT a (p : Int) t) hp.p0 hp.p1 (by omega)
    rw [Int.toNat_natCast, at_nat, at_nat] at hset
    rw [hset, getD_set _ _ _ _ (by rw [h.fl]; exact hc)]
    by_cases e2 : (q : Int) = (p : Int)
    · rw [if_pos e2]
      exact .inl ht
    · rw [if_neg e2]
      rcases h.all q hq with h3 | h3
      · exact .inl h3
      · refine .inr ?_
        by_cases e3 : q % m = c
        · rw [if_pos e3]
          rw [e3] at h3
          change (q : Int) ∈ li a.fr (c : Int) at h3
          cases hcs : li a.fr (c : Int) with
          | nil => rw [hcs] at h3; simp at h3
          | cons x r =>
            rw [hcs] at h3 ep
            rw [List.getD_cons_zero] at ep
            rw [List.tail_cons]
            rcases List.mem_cons.1 h3 with h4 | h4
            · exact absurd (h4.trans ep) e2
            · exact h4
        · rw [if_neg e3]; exact h3
theorem alls_full {n m c i k : Nat} {a : Ar} {t : Th} (h : All n m c i k a) (hc : c < m) (ht : liveT t = true) (hi : (newL n m c).length ≤ i) : takeE a c t = 5 ∧ All n m (c + 1) 0 k a := by
  have hl := h.list hc
  have h0 : (newL n m c).drop i = [] := List.drop_of_length_le hi
  rw [h0] at hl
  refine ⟨?_, h.ok, h.tl, h.fl, fun d hd => ?_, h.num, h.all⟩
  · unfold takeE
    rw [if_pos ⟨okA_iff.2 h.ok, by omega, by rw [h.fl]; omega, ht⟩, if_pos (by rw [hl]; rfl)]
  · rw [h.rest d hd]
    by_cases e : d < c
    · rw [if_pos e, if_pos (by omega)]
    · rw [if_neg e]
      by_cases e2 : d = c
      · rw [if_pos e2, if_pos (by omega), h0]
      · rw [if_neg e2, if_neg (by omega)]
        by_cases e3 : d = c + 1
        · rw [if_pos e3, e3]; rfl
        · rw [if_neg e3]
theorem alls_end {n m k : Nat} {a : Ar} (h : All n m m 0 k a) (hm : 0 < m) : k = n := by
  rw [h.num, ← h.tl]
  have : a.ts.countP liveT = a.ts.length := by
    rw [List.countP_eq_length, all_getD a.ts Th.zero (fun t => liveT t = true)]
    intro p hp
    rcases h.all p (by rw [← h.tl]; exact hp) with h1 | h1
    · exact h1
    · have := h.rest (p % m) (Nat.mod_lt _ hm)
      rw [if_pos (Nat.mod_lt _ hm)] at this
      rw [this] at h1
      simp at h1
  exact this
theorem alls_le {n m c i k : Nat} {a : Ar} (h : All n m c i k a) : k ≤ n := by
  rw [h.num, ← h.tl]
  exact List.countP_le_length
end Go.Proofs.Ytnagpedkmfmniaa.Ar
