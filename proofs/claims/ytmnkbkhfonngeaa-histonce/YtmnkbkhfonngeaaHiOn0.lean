/- A core has one open span at most; who calls has one, who is answered has none. Without any program's walk. -/
import Derived.Test.YtmnkbkhfonngeaaHiW7
namespace Go.Proofs.Ytmnkbkhfonngeaa.Hi
open Go.RowKit

/-- How many of the first spans are a core's, and open. -/
def cO (l : List Sp) (c : Int) : Nat → Nat
  | 0 => 0
  | n + 1 => if (S l n).co = c ∧ (S l n).en = 0 then cO l c n + 1 else cO l c n
theorem cO_yes {l : List Sp} {c : Int} {n : Nat} (h1 : (S l n).co = c) (h2 : (S l n).en = 0) : cO l c (n + 1) = cO l c n + 1 := by rw [cO, if_pos ⟨h1, h2⟩]
theorem cO_no1 {l : List Sp} {c : Int} {n : Nat} (h : ¬ (S l n).co = c) : cO l c (n + 1) = cO l c n := by rw [cO, if_neg (fun q => h q.1)]
theorem cO_no2 {l : List Sp} {c : Int} {n : Nat} (h : ¬ (S l n).en = 0) : cO l c (n + 1) = cO l c n := by rw [cO, if_neg (fun q => h q.2)]
theorem cO_le (l : List Sp) (c : Int) (n : Nat) : cO l c n ≤ n := by
  induction n with
  | zero => exact Nat.le_refl _
  | succ n ih => rw [cO]; split <;> omega
theorem cO_zero {l : List Sp} {c : Int} {n : Nat} (h : ∀ j, j < n → ¬ ((S l j).co = c ∧ (S l j).en = 0)) : cO l c n = 0 := by
  induction n with
  | zero => rfl
  | succ n ih => rw [cO, if_neg (h n (Nat.lt_succ_self _))]; exact ih fun j hj => h j (by omega)
theorem cO_one {l : List Sp} {c : Int} {i : Nat} (hi : (S l i).co = c ∧ (S l i).en = 0) : ∀ n, i < n → (∀ j, j < n → j ≠ i → ¬ ((S l j).co = c ∧ (S l j).en = 0)) → cO l c n = 1 := by
  intro n
  induction n with
  | zero => intro h; omega
  | succ n ih =>
    intro hn h
    by_cases e : i = n
    · subst e
      rw [cO, if_pos hi, cO_zero fun j hj => h j (by omega) (by omega)]
    · rw [cO, if_neg (h n (Nat.lt_succ_self _) (fun q => e q.symm))]
      exact ih (by omega) fun j hj => h j (by omega)
theorem pnB_some {l : List Sp} {c : Int} {i : Nat} (h : pnO l c = some i) : pnB l c = true := by simp [pnB, h]
theorem pnB_none {l : List Sp} {c : Int} (h : pnO l c = none) : pnB l c = false := by simp [pnB, h]
/-- A CORE HAS ONE OPEN SPAN AT MOST: ITS LAST ONE. -/
theorem cO_all {l : List Sp} (h : okS l = true) (c : Int) : cO l c l.length = if pnB l c then 1 else 0 := by
  have key : ∀ i j, i < j → j < l.length → (S l i).co = c → (S l j).co = c → (S l i).en ≠ 0 := by
    intro i j hij hj h1 h2
    exact (ahB_iff.1 (core_ah h j hij hj (h1.trans h2.symm))).1
  cases e : pnO l c with
  | some i =>
    obtain ⟨h1, h2, h3, h4⟩ := pn_some e
    rw [pnB_some e, if_pos rfl]
    refine cO_one ⟨h3, h4⟩ _ h2 fun j hj hne q => ?_
    rcases Nat.lt_or_ge j i with y | y
    · exact key j i y h2 q.1 h3 q.2
    · exact (lst_some h1).2.2 j (by omega) hj q.1
  | none =>
    rw [pnB_none e, if_neg (by decide)]
    refine cO_zero fun j hj q => ?_
    cases g : lastO l c with
    | none => exact lst_none g j hj q.1
    | some k =>
      obtain ⟨k1, k2, k3⟩ := lst_some g
      rcases Nat.lt_trichotomy j k with y | y | y
      · exact key j k y k1 q.1 k2 q.2
      · subst y
        have := pn_open g (show opB (S l j) = true by unfold opB; rw [q.2]; rfl)
        rw [pnB_none e] at this
        exact absurd this.2 (by decide)
      · exact k3 j y hj q.1
theorem once_inv {h : Hs} {a : Ac} (hk : a.k = 0) (e : doE h a = 0) : pnB h.s a.co = false ∧ pnB (doH h a).s a.co = true := by
  rw [doE, if_pos hk] at e
  rw [doH, if_pos hk, invH_of e]
  refine ⟨?_, ?_⟩
  · cases g : lastO h.s a.co with
    | none => exact (pn_none g).2
    | some j =>
      have := (ahB_iff.1 (inv_ah e j g)).1
      exact (pn_shut g (by simpa [opB] using this)).2
  · have hl : lastO (h.s ++ [(⟨a.co, a.c, a.now, 0, r0⟩ : Sp)]) a.co = some h.s.length := by
      unfold lastO
      refine lst_of (by simp) (by rw [S_app2]) fun j h1 h2 => ?_
      simp at h2; omega
    exact (pn_open hl (by rw [S_app2]; rfl)).2
theorem once_ans {h : Hs} {a : Ac} (hk : a.k = 1) (e : doE h a = 0) : pnB h.s a.co = true ∧ pnB (doH h a).s a.co = false := by
  rw [doE, if_neg (by omega), if_pos hk] at e
  rw [doH, if_neg (by omega), if_pos hk]
  obtain ⟨i, hp, hn⟩ := ans_some e
  obtain ⟨h1, h2, h3, h4⟩ := pn_some hp
  rw [ansH_of e hp]
  refine ⟨pnB_some hp, ?_⟩
  have hs := (okH_iff.1 (ans_okH e)).1
  have h5 := st_one hs h2
  have hl : lastO (h.s.set i (clS (S h.s i) a.now a.r)) a.co = some i := by
    unfold lastO at h1 ⊢
    rw [List.length_set, lst_same (fun j _ => set_co h2 a.now a.r j)]
    exact h1
  refine (pn_shut hl ?_).2
  rw [S_set h2, if_pos rfl]
  have : a.now ≠ 0 := by omega
  simpa [opB, clS] using this
theorem once_no {h : Hs} {a : Ac} (e : doE h a ≠ 0) : pnB (doH h a).s a.co = pnB h.s a.co := by
  have : doH h a = h := by
    unfold doE at e
    unfold doH
    split
    · next q => rw [if_pos q] at e; exact invH_no e
    · next q =>
      rw [if_neg q] at e
      split
      · next q2 => rw [if_pos q2] at e; exact ansH_no e
      · next q2 => rw [if_neg q2] at e; exact notH_no e
  rw [this]
end Go.Proofs.Ytmnkbkhfonngeaa.Hi
