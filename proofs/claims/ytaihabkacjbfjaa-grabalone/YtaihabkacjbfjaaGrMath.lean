/- Grabs: what one is, what it does next, and several beside each other on cells. -/
import Derived.Test.YtaihabkacjbfjaaCeMath
import Derived.Test.YtaihabkacjbfjaaGrSort
namespace Go.Proofs.Ytaihabkacjbfjaa.Gr
open Go.Proofs.Ytaihabkacjbfjaa.Ce

/-- A GRAB: who, which cells, its phase, how many it has, how often it began anew, whether it waits. -/
structure G where
  w : Int
  cs : List Int
  p : Int
  a : Int
  t : Int
  b : Bool
def G.zero : G := ⟨0, [], 0, 0, 0, false⟩
/-- Whether it has a step to do. -/
def hasN (g : G) : Bool := decide ((g.p = 1 ∧ 0 ≤ g.a ∧ g.a < g.cs.length) ∨ ((g.p = 3 ∨ g.p = 4) ∧ 1 ≤ g.a ∧ g.a ≤ g.cs.length))
theorem has_iff {g : G} : hasN g = true ↔ ((g.p = 1 ∧ 0 ≤ g.a ∧ g.a < g.cs.length) ∨ ((g.p = 3 ∨ g.p = 4) ∧ 1 ≤ g.a ∧ g.a ≤ g.cs.length)) := by simp [hasN]
theorem has_not {g : G} : hasN g = false ↔ ¬ ((g.p = 1 ∧ 0 ≤ g.a ∧ g.a < g.cs.length) ∨ ((g.p = 3 ∨ g.p = 4) ∧ 1 ≤ g.a ∧ g.a ≤ g.cs.length)) := by rw [← has_iff]; simp
/-- THE STEP THAT IT DOES NEXT. -/
def nxO (g : G) : O := if hasN g then (if g.p = 1 then ⟨4, g.cs.getD g.a.toNat 0, 0, 0, g.w⟩ else ⟨5, g.cs.getD (g.a - 1).toNat 0, 0, 0, g.w⟩) else O.zero
/-- BEHIND THAT STEP. -/
def takeG (g : G) (ok : Bool) : G :=
  if hasN g then
    (if g.p = 1 then (if ok then ⟨g.w, g.cs, if g.a + 1 = g.cs.length then 2 else 1, g.a + 1, g.t, g.b⟩ else if g.b then g else ⟨g.w, g.cs, if g.a = 0 then 1 else 3, g.a, g.t + 1, g.b⟩)
    else ⟨g.w, g.cs, if g.a - 1 = 0 then (if g.p = 3 then 1 else 5) else g.p, g.a - 1, g.t, g.b⟩)
  else g
def freeG (g : G) : G := if g.p = 2 then ⟨g.w, g.cs, if g.cs.length = 0 then 5 else 4, g.a, g.t, g.b⟩ else g
def heldG (g : G) : List Int := g.cs.take g.a.toNat
def startE (who : Int) (l : List Int) : Int := if who < 1 ∨ (∃ x, x ∈ l ∧ x < 0) then 2 else if 64 < l.length then 6 else 0
def startG (who : Int) (b : Bool) (l : List Int) : G := if startE who l = 0 then ⟨who, srt l, if l.length = 0 then 2 else 1, 0, 0, b⟩ else G.zero
theorem take_cs (g : G) (ok : Bool) : (takeG g ok).cs = g.cs := by
  unfold takeG
  repeat' split
  all_goals rfl
theorem take_w (g : G) (ok : Bool) : (takeG g ok).w = g.w := by
  unfold takeG
  repeat' split
  all_goals rfl
theorem take_b (g : G) (ok : Bool) : (takeG g ok).b = g.b := by
  unfold takeG
  repeat' split
  all_goals rfl
theorem take_t (g : G) (ok : Bool) : (takeG g ok).t = g.t ∨ (takeG g ok).t = g.t + 1 := by
  unfold takeG
  repeat' split
  all_goals simp
theorem free_cs (g : G) : (freeG g).cs = g.cs := by unfold freeG; split <;> rfl
theorem free_t (g : G) : (freeG g).t = g.t := by unfold freeG; split <;> rfl
theorem start_cs (who : Int) (b : Bool) (l : List Int) : (startG who b l).cs = if startE who l = 0 then srt l else [] := by
  unfold startG; split <;> rfl

/-! ### Several -/
structure St where
  gs : List G
  vs : List Int
def St.g (s : St) (i : Nat) : G := s.gs.getD i G.zero
def St.v (s : St) (c : Nat) : Int := s.vs.getD c 0
def doG (g : G) (vs : List Int) : G := if g.p = 2 then freeG g else if hasN g then takeG g (apR vs (nxO g)).ok else g
def doV (g : G) (vs : List Int) : List Int := if g.p = 2 then vs else if hasN g then apV vs (nxO g) else vs
/-- ONE DOES A STEP. -/
def St.step (s : St) (i : Nat) : St := ⟨s.gs.set i (doG (s.g i) s.vs), doV (s.g i) s.vs⟩
theorem do_cs (g : G) (vs : List Int) : (doG g vs).cs = g.cs := by
  unfold doG
  split
  · exact free_cs g
  · split
    · exact take_cs _ _
    · rfl
theorem do_t (g : G) (vs : List Int) : (doG g vs).t = g.t ∨ (doG g vs).t = g.t + 1 := by
  unfold doG
  split
  · exact .inl (free_t g)
  · split
    · exact take_t _ _
    · exact .inl rfl
theorem doV_len (g : G) (vs : List Int) : (doV g vs).length = vs.length := by
  unfold doV
  split
  · rfl
  · split
    · exact apV_len _ _
    · rfl
theorem step_len (s : St) (i : Nat) : (s.step i).gs.length = s.gs.length := by simp [St.step]

/-- One of several, the i-th. -/
structure OkG (i : Nat) (g : G) : Prop where
  w : g.w = i + 1
  rise : Rise g.cs
  low : ∀ c, c ∈ g.cs → 0 ≤ c ∧ c < 8
  a0 : 0 ≤ g.a
  al : g.a ≤ g.cs.length
  ph : (g.p = 1 ∧ g.a < g.cs.length) ∨ (g.p = 2 ∧ g.a = g.cs.length) ∨ (g.p = 3 ∧ 1 ≤ g.a) ∨ (g.p = 4 ∧ 1 ≤ g.a) ∨ (g.p = 5 ∧ g.a = 0)
/-- ALL OF THEM, AND THE CELLS. -/
structure Inv (s : St) : Prop where
  len : s.vs.length = 8
  ok : ∀ i, i < s.gs.length → OkG i (s.g i)
  hold : ∀ i, i < s.gs.length → ∀ c : Nat, c < 8 → (s.v c = (i : Int) + 1 ↔ (c : Int) ∈ heldG (s.g i))
  free : ∀ c : Nat, c < 8 → s.v c = 0 ∨ ∃ i, i < s.gs.length ∧ s.v c = (i : Int) + 1
  sum : (s.gs.map (fun g => g.a)).sum = ((s.vs.countP (fun x => x != 0) : Nat) : Int)

theorem set_g (s : St) (i j : Nat) (g : G) (vs : List Int) (hi : i < s.gs.length) : (⟨s.gs.set i g, vs⟩ : St).g j = if j = i then g else s.g j := by
  unfold St.g
  simp only [List.getD, List.getElem?_set]
  by_cases e : i = j
  · subst e
    simp [hi]
  · have e' : ¬ j = i := fun h => e h.symm
    simp [e, e']
theorem set_v (s : St) (c d : Nat) (x : Int) (gs : List G) (hc : c < s.vs.length) : (⟨gs, s.vs.set c x⟩ : St).v d = if d = c then x else s.v d := by
  unfold St.v
  simp only [List.getD, List.getElem?_set]
  by_cases e : c = d
  · subst e
    simp [hc]
  · have e' : ¬ d = c := fun h => e h.symm
    simp [e, e']
theorem sum_set (l : List G) (i : Nat) (g : G) (hi : i < l.length) : ((l.set i g).map (fun g => g.a)).sum = (l.map (fun g => g.a)).sum - (l.getD i G.zero).a + g.a := by
  induction l generalizing i with
  | nil => simp at hi
  | cons x r ih =>
    cases i with
    | zero => simp; omega
    | succ i =>
      have := ih i (by simpa using hi)
      simp only [List.set_cons_succ, List.map_cons, List.sum_cons, List.getD_cons_succ]
      omega
theorem count_set (l : List Int) (c : Nat) (x : Int) (hc : c < l.length) : (((l.set c x).countP (fun x => x != 0) : Nat) : Int) = ((l.countP (fun x => x != 0) : Nat) : Int) - (if l.getD c 0 = 0 then 0 else 1) + (if x = 0 then 0 else 1) := by
  induction l generalizing c with
  | nil => simp at hc
  | cons y r ih =>
    cases c with
    | zero =>
      simp only [List.set_cons_zero, List.countP_cons, List.getD_cons_zero]
      by_cases h1 : x = 0 <;> by_cases h2 : y = 0 <;> simp [h1, h2]
    | succ c =>
      have := ih c (by simpa using hc)
      simp only [List.set_cons_succ, List.countP_cons, List.getD_cons_succ]
      by_cases h2 : y = 0
      · simp only [h2, bne_self_eq_false, Bool.false_eq_true, if_false]
        omega
      · simp only [bne_iff_ne, ne_eq, h2, not_false_eq_true, if_true]
        omega

/-- Nothing that is held changes. -/
theorem inv_same {s : St} {i : Nat} {g : G} (h : Inv s) (hi : i < s.gs.length) (hg : OkG i g) (ha : g.a = (s.g i).a) (hc : g.cs = (s.g i).cs) : Inv ⟨s.gs.set i g, s.vs⟩ := by
  refine ⟨h.len, fun j hj => ?_, fun j hj c hc8 => ?_, fun c hc8 => ?_, ?_⟩
  · rw [set_g s i j g _ hi]
    split
    · rename_i e; rw [e]; exact hg
    · exact h.ok j (by simpa using hj)
  · rw [set_g s i j g _ hi]
    split
    · rename_i e
      subst e
      unfold heldG
      rw [ha, hc]
      exact h.hold j hi c hc8
    · exact h.hold j (by simpa using hj) c hc8
  · rw [List.length_set]
    exact h.free c hc8
  · rw [sum_set _ _ _ hi]
    have := h.sum
    have e : (s.gs.getD i G.zero).a = (s.g i).a := rfl
    simp only
    omega
theorem take_snocI (l : List Int) (k : Nat) (h : k < l.length) : l.take (k + 1) = l.take k ++ [l.getD k 0] := take_snoc l 0 k h
theorem rise_lt {l : List Int} (h : Rise l) {i j : Nat} (hij : i < j) (hj : j < l.length) : l.getD i 0 < l.getD j 0 := by
  have := List.pairwise_iff_getElem.1 h i j (by omega) hj hij
  rw [lt_iff] at this
  simpa [List.getD, hj, show i < l.length by omega] using this
theorem held_lt {g : G} (h : Rise g.cs) {x : Int} {k : Nat} (hx : x ∈ g.cs.take k) (hk : k < g.cs.length) : x < g.cs.getD k 0 := by
  obtain ⟨j, hj, rfl⟩ := List.getElem_of_mem hx
  simp only [List.length_take] at hj
  have := rise_lt h (i := j) (j := k) (by omega) hk
  rw [List.getElem_take]
  simpa [List.getD, show j < g.cs.length by omega] using this
theorem cell_of {i : Nat} {g : G} (h : OkG i g) {k : Nat} (hk : k < g.cs.length) : ∃ c : Nat, c < 8 ∧ g.cs.getD k 0 = c := by
  have hm : g.cs.getD k 0 ∈ g.cs := by simp [List.getD, hk]
  have := h.low _ hm
  exact ⟨(g.cs.getD k 0).toNat, by omega, by omega⟩
/-- One lock more. -/
theorem inv_more {s : St} {i c : Nat} {g : G} (h : Inv s) (hi : i < s.gs.length) (hg : OkG i g) (hlt : (s.g i).a < (s.g i).cs.length) (ha : g.a = (s.g i).a + 1) (hc : g.cs = (s.g i).cs) (hc8 : c < 8) (hcc : (s.g i).cs.getD (s.g i).a.toNat 0 = c) (hv : s.v c = 0) :
    Inv ⟨s.gs.set i g, s.vs.set c ((i : Int) + 1)⟩ := by
  have ho := h.ok i hi
  have ha0 := ho.a0
  have hh : heldG g = heldG (s.g i) ++ [(c : Int)] := by
    unfold heldG
    rw [hc, ha, show ((s.g i).a + 1).toNat = (s.g i).a.toNat + 1 by omega, take_snocI _ _ (by omega), hcc]
  have hl := h.len
  refine ⟨by simpa using h.len, fun j hj => ?_, fun j hj d hd => ?_, fun d hd => ?_, ?_⟩
  · rw [set_g s i j g _ hi]
    split
    · rename_i e; rw [e]; exact hg
    · exact h.ok j (by simpa using hj)
  · rw [set_g s i j g _ hi, set_v s c d _ _ (by omega)]
    split
    · rename_i e
      subst e
      split
      · rename_i e
        subst e
        rw [hh]
        simp
      · rename_i e2
        have := h.hold j (by simpa using hj) d hd
        rw [hv] at this
        constructor
        · intro e; omega
        · intro e; have := this.2 e; omega
    · rename_i e
      split
      · rename_i e
        subst e
        rw [hh, h.hold j hi d hd]
        simp
        omega
      · exact h.hold j (by simpa using hj) d hd
  · rw [set_v s c d _ _ (by omega)]
    split
    · exact .inr ⟨i, by simpa using hi, rfl⟩
    · have := h.free d hd
      simpa using this
  · rw [sum_set _ _ _ hi, count_set _ _ _ (by omega)]
    have := h.sum
    have e : (s.gs.getD i G.zero).a = (s.g i).a := rfl
    have e2 : s.vs.getD c 0 = 0 := hv
    rw [if_pos e2, if_neg (by omega)]
    omega
/-- One lock less. -/
theorem inv_less {s : St} {i c : Nat} {g : G} (h : Inv s) (hi : i < s.gs.length) (hg : OkG i g) (hlt : 1 ≤ (s.g i).a) (ha : g.a = (s.g i).a - 1) (hc : g.cs = (s.g i).cs) (hc8 : c < 8) (hcc : (s.g i).cs.getD ((s.g i).a - 1).toNat 0 = c) :
    s.v c = (i : Int) + 1 ∧ Inv ⟨s.gs.set i g, s.vs.set c 0⟩ := by
  have ho := h.ok i hi
  have hal := ho.al
  have hh : heldG (s.g i) = heldG g ++ [(c : Int)] := by
    unfold heldG
    rw [hc, ha, show (s.g i).a.toNat = ((s.g i).a - 1).toNat + 1 by omega, take_snocI _ _ (by omega), hcc]
  have hn : (c : Int) ∉ heldG g := by
    intro hm
    unfold heldG at hm
    rw [hc, ha] at hm
    have := held_lt (g := s.g i) ho.rise hm (by omega)
    omega
  have hv : s.v c = (i : Int) + 1 := (h.hold i hi c hc8).2 (by rw [hh]; simp)
  have hl := h.len
  refine ⟨hv, ⟨by simpa using h.len, fun j hj => ?_, fun j hj d hd => ?_, fun d hd => ?_, ?_⟩⟩
  · rw [set_g s i j g _ hi]
    split
    · rename_i e; rw [e]; exact hg
    · exact h.ok j (by simpa using hj)
  · rw [set_g s i j g _ hi, set_v s c d _ _ (by omega)]
    split
    · rename_i e
      subst e
      constructor
      · intro e; omega
      · intro hm
        split at hm
        · exact absurd hm hn
        · rename_i e
          have := (h.hold j (by simpa using hj) d hd).2 hm
          omega
    · rename_i e
      split
      · rename_i e
        subst e
        rw [h.hold j hi d hd, hh]
        simp
        omega
      · exact h.hold j (by simpa using hj) d hd
  · rw [set_v s c d _ _ (by omega)]
    split
    · exact .inl rfl
    · have := h.free d hd
      simpa using this
  · rw [sum_set _ _ _ hi, count_set _ _ _ (by omega)]
    have := h.sum
    have e : (s.gs.getD i G.zero).a = (s.g i).a := rfl
    have e2 : s.vs.getD c 0 = (i : Int) + 1 := hv
    rw [if_neg (by omega), if_pos rfl]
    omega

/-! ### What a step is -/
theorem do_take {i c : Nat} {g : G} {vs : List Int} (h : OkG i g) (hl : vs.length = 8) (hp : g.p = 1) (hc8 : c < 8) (hc : g.cs.getD g.a.toNat 0 = c) (hv : vs.getD c 0 = 0) :
    doG g vs = ⟨g.w, g.cs, if g.a + 1 = g.cs.length then 2 else 1, g.a + 1, g.t, g.b⟩ ∧ doV g vs = vs.set c ((i : Int) + 1) := by
  have hlt : g.a < g.cs.length := by have := h.ph; omega
  have hn : hasN g = true := has_iff.2 (.inl ⟨hp, h.a0, hlt⟩)
  have ho : nxO g = ⟨4, c, 0, 0, (i : Int) + 1⟩ := by
    unfold nxO
    rw [if_pos hn, if_pos hp, hc, h.w]
  have hk : okO (⟨4, c, 0, 0, (i : Int) + 1⟩ : O) vs.length = true := by rw [okO_iff]; simp [hl]; omega
  have ha : at0 vs (⟨4, c, 0, 0, (i : Int) + 1⟩ : O) = 0 := by simpa [at0] using hv
  constructor
  · unfold doG
    rw [if_neg (by omega), if_pos hn, ho, apR_yes hk]
    simp [takeG, hn, hp, ha, stB]
  · unfold doV
    rw [if_neg (by omega), if_pos hn, ho, apV_yes hk, ha]
    simp [stV, stB]
theorem do_ref {i c : Nat} {g : G} {vs : List Int} (h : OkG i g) (hl : vs.length = 8) (hp : g.p = 1) (hc8 : c < 8) (hc : g.cs.getD g.a.toNat 0 = c) (hv : vs.getD c 0 ≠ 0) :
    doG g vs = (if g.b then g else ⟨g.w, g.cs, if g.a = 0 then 1 else 3, g.a, g.t + 1, g.b⟩) ∧ doV g vs = vs := by
  have hlt : g.a < g.cs.length := by have := h.ph; omega
  have hn : hasN g = true := has_iff.2 (.inl ⟨hp, h.a0, hlt⟩)
  have ho : nxO g = ⟨4, c, 0, 0, (i : Int) + 1⟩ := by
    unfold nxO
    rw [if_pos hn, if_pos hp, hc, h.w]
  have hk : okO (⟨4, c, 0, 0, (i : Int) + 1⟩ : O) vs.length = true := by rw [okO_iff]; simp [hl]; omega
  have ha : at0 vs (⟨4, c, 0, 0, (i : Int) + 1⟩ : O) = vs.getD c 0 := by simp [at0]
  have hb : stB (vs.getD c 0) (⟨4, c, 0, 0, (i : Int) + 1⟩ : O) = false := by rw [stB_not]; simp only; omega
  constructor
  · unfold doG
    rw [if_neg (by omega), if_pos hn, ho, apR_yes hk, ha, hb]
    simp [takeG, hn, hp]
  · unfold doV
    rw [if_neg (by omega), if_pos hn, ho, apV_yes hk, ha, stV_no hb]
    apply List.ext_getElem?
    intro d
    rw [List.getElem?_set]
    split
    · rename_i e
      subst e
      simp [List.getD, hl, hc8]
    · rfl
theorem do_back {i c : Nat} {g : G} {vs : List Int} (h : OkG i g) (hl : vs.length = 8) (hp : g.p = 3 ∨ g.p = 4) (hc8 : c < 8) (hc : g.cs.getD (g.a - 1).toNat 0 = c) (hv : vs.getD c 0 = (i : Int) + 1) :
    doG g vs = ⟨g.w, g.cs, if g.a - 1 = 0 then (if g.p = 3 then 1 else 5) else g.p, g.a - 1, g.t, g.b⟩ ∧ doV g vs = vs.set c 0 := by
  have hlt : 1 ≤ g.a := by have := h.ph; omega
  have hn : hasN g = true := has_iff.2 (.inr ⟨hp, hlt, h.al⟩)
  have h1 : ¬ g.p = 1 := by omega
  have ho : nxO g = ⟨5, c, 0, 0, (i : Int) + 1⟩ := by
    unfold nxO
    rw [if_pos hn, if_neg h1, hc, h.w]
  have hk : okO (⟨5, c, 0, 0, (i : Int) + 1⟩ : O) vs.length = true := by rw [okO_iff]; simp [hl]; omega
  have ha : at0 vs (⟨5, c, 0, 0, (i : Int) + 1⟩ : O) = (i : Int) + 1 := by simpa [at0] using hv
  constructor
  · unfold doG
    rw [if_neg (by omega), if_pos hn]
    simp [takeG, hn, h1]
  · unfold doV
    rw [if_neg (by omega), if_pos hn, ho, apV_yes hk, ha]
    simp [stV, stB]
theorem do_have {g : G} {vs : List Int} (hp : g.p = 2) : doG g vs = ⟨g.w, g.cs, if g.cs.length = 0 then 5 else 4, g.a, g.t, g.b⟩ ∧ doV g vs = vs := by
  simp [doG, doV, hp, freeG]
theorem do_done {g : G} {vs : List Int} (hp : g.p = 5) : doG g vs = g ∧ doV g vs = vs := by
  have hn : hasN g = false := has_not.2 (by omega)
  simp [doG, doV, hp, hn]

/-- WHAT A STEP OF THE i-th DOES. -/
theorem turnX {s : St} {i : Nat} (h : Inv s) (hi : i < s.gs.length) : Inv (s.step i) ∧
    ((∃ c, c < 8 ∧ (s.g i).p = 1 ∧ (∀ d : Nat, d < 8 → s.v d = (i : Int) + 1 → d < c) ∧ s.v c = 0 ∧ (s.step i).v c = (i : Int) + 1 ∧ (∀ d, d ≠ c → (s.step i).v d = s.v d) ∧ (((s.step i).g i).p = 1 ∨ ((s.step i).g i).p = 2)) ∨
     (∃ c, c < 8 ∧ (s.g i).p = 1 ∧ (∀ d : Nat, d < 8 → s.v d = (i : Int) + 1 → d < c) ∧ s.v c ≠ 0 ∧ (∀ d, (s.step i).v d = s.v d) ∧ (((s.step i).g i).p = 1 ∨ ((s.step i).g i).p = 3)) ∨
     ((s.g i).p = 2 ∧ (∀ d, (s.step i).v d = s.v d) ∧ (((s.step i).g i).p = 4 ∨ ((s.step i).g i).p = 5)) ∨
     (∃ c, c < 8 ∧ ((s.g i).p = 3 ∨ (s.g i).p = 4) ∧ s.v c = (i : Int) + 1 ∧ (∀ d : Nat, d < 8 → s.v d = (i : Int) + 1 → d ≤ c) ∧ (s.step i).v c = 0 ∧ (∀ d, d ≠ c → (s.step i).v d = s.v d) ∧ ((s.g i).p = 3 → ((s.step i).g i).p = 1 ∨ ((s.step i).g i).p = 3) ∧ ((s.g i).p = 4 → ((s.step i).g i).p = 4 ∨ ((s.step i).g i).p = 5)) ∨
     ((s.g i).p = 5 ∧ (∀ d, (s.step i).v d = s.v d) ∧ ((s.step i).g i).p = 5)) := by
  have ho := h.ok i hi
  have hl := h.len
  have ha0 := ho.a0
  have hal := ho.al
  have hgi : ∀ g vs, (⟨s.gs.set i g, vs⟩ : St).g i = g := fun g vs => by rw [set_g s i i g vs hi]; simp
  rcases ho.ph with ⟨hp, hlt⟩ | ⟨hp, hlt⟩ | ⟨hp, hlt⟩ | ⟨hp, hlt⟩ | ⟨hp, hlt⟩
  · obtain ⟨c, hc8, hc⟩ := cell_of ho (k := (s.g i).a.toNat) (by omega)
    have hd : ∀ d : Nat, d < 8 → s.v d = (i : Int) + 1 → d < c := by
      intro d hd8 hd
      have hm := (h.hold i hi d hd8).1 hd
      have := held_lt (g := s.g i) ho.rise hm (by omega)
      omega
    by_cases hv : s.v c = 0
    · obtain ⟨e1, e2⟩ := do_take ho hl hp hc8 hc hv
      have es : s.step i = ⟨s.gs.set i ⟨(s.g i).w, (s.g i).cs, if (s.g i).a + 1 = (s.g i).cs.length then 2 else 1, (s.g i).a + 1, (s.g i).t, (s.g i).b⟩, s.vs.set c ((i : Int) + 1)⟩ := by
        unfold St.step; rw [e1, e2]
      have hI := inv_more h hi (g := ⟨(s.g i).w, (s.g i).cs, if (s.g i).a + 1 = (s.g i).cs.length then 2 else 1, (s.g i).a + 1, (s.g i).t, (s.g i).b⟩) ⟨ho.w, ho.rise, ho.low, by simp only; omega, by simp only; omega, by simp only; split <;> omega⟩ hlt rfl rfl hc8 hc hv
      rw [es]
      refine ⟨hI, .inl ⟨c, hc8, hp, hd, hv, ?_, fun d hdc => ?_, ?_⟩⟩
      · rw [set_v s c c _ _ (by omega)]; simp
      · rw [set_v s c d _ _ (by omega)]; simp [hdc]
      · rw [hgi]; simp only; split <;> simp
    · obtain ⟨e1, e2⟩ := do_ref ho hl hp hc8 hc hv
      have es : s.step i = ⟨s.gs.set i (if (s.g i).b then s.g i else ⟨(s.g i).w, (s.g i).cs, if (s.g i).a = 0 then 1 else 3, (s.g i).a, (s.g i).t + 1, (s.g i).b⟩), s.vs⟩ := by
        unfold St.step; rw [e1, e2]
      have hk : OkG i (if (s.g i).b then s.g i else ⟨(s.g i).w, (s.g i).cs, if (s.g i).a = 0 then 1 else 3, (s.g i).a, (s.g i).t + 1, (s.g i).b⟩) := by
        split
        · exact ho
        · exact ⟨ho.w, ho.rise, ho.low, ha0, hal, by simp only; split <;> omega⟩
      rw [es]
      refine ⟨inv_same h hi hk (by split <;> rfl) (by split <;> rfl), .inr (.inl ⟨c, hc8, hp, hd, hv, fun d => rfl, ?_⟩)⟩
      rw [hgi]
      split
      · exact .inl hp
      · simp only; split <;> simp
  · obtain ⟨e1, e2⟩ := do_have (g := s.g i) (vs := s.vs) hp
    have es : s.step i = ⟨s.gs.set i ⟨(s.g i).w, (s.g i).cs, if (s.g i).cs.length = 0 then 5 else 4, (s.g i).a, (s.g i).t, (s.g i).b⟩, s.vs⟩ := by
      unfold St.step; rw [e1, e2]
    rw [es]
    refine ⟨inv_same h hi ⟨ho.w, ho.rise, ho.low, ha0, hal, by simp only; split <;> omega⟩ rfl rfl, .inr (.inr (.inl ⟨hp, fun d => rfl, ?_⟩))⟩
    rw [hgi]; simp only; split <;> simp
  all_goals try
    (obtain ⟨c, hc8, hc⟩ := cell_of ho (k := ((s.g i).a - 1).toNat) (by omega)
     obtain ⟨hv, hI⟩ := inv_less h hi (g := ⟨(s.g i).w, (s.g i).cs, if (s.g i).a - 1 = 0 then (if (s.g i).p = 3 then 1 else 5) else (s.g i).p, (s.g i).a - 1, (s.g i).t, (s.g i).b⟩) ⟨ho.w, ho.rise, ho.low, by simp only; omega, by simp only; omega, by simp only [hp]; split <;> simp <;> omega⟩ hlt rfl rfl hc8 hc
     obtain ⟨e1, e2⟩ := do_back ho hl (by omega) hc8 hc hv
     have es : s.step i = ⟨s.gs.set i ⟨(s.g i).w, (s.g i).cs, if (s.g i).a - 1 = 0 then (if (s.g i).p = 3 then 1 else 5) else (s.g i).p, (s.g i).a - 1, (s.g i).t, (s.g i).b⟩, s.vs.set c 0⟩ := by
       unfold St.step; rw [e1, e2]
     rw [es]
     refine ⟨hI, .inr (.inr (.inr (.inl ⟨c, hc8, by omega, hv, fun d hd8 hd => ?_, ?_, fun d hdc => ?_, fun e3 => ?_, fun e4 => ?_⟩)))⟩
     · have hm := (h.hold i hi d hd8).1 hd
       unfold heldG at hm
       rw [show (s.g i).a.toNat = ((s.g i).a - 1).toNat + 1 by omega, take_snocI _ _ (by omega), hc, List.mem_append] at hm
       rcases hm with hm | hm
       · have := held_lt (g := s.g i) ho.rise hm (by omega)
         omega
       · simp at hm
         omega
     · rw [set_v s c c _ _ (by omega)]; simp
     · rw [set_v s c d _ _ (by omega)]; simp [hdc]
     · rw [hgi]; simp only [e3]; split <;> simp
     · rw [hgi]; simp only [e4]; split <;> simp)
  · obtain ⟨e1, e2⟩ := do_done (g := s.g i) (vs := s.vs) hp
    have es : s.step i = ⟨s.gs.set i (s.g i), s.vs⟩ := by
      unfold St.step; rw [e1, e2]
    rw [es]
    refine ⟨inv_same h hi ho rfl rfl, .inr (.inr (.inr (.inr ⟨hp, fun d => rfl, ?_⟩)))⟩
    rw [hgi]; exact hp
theorem turnO (s : St) (i j : Nat) (hi : i < s.gs.length) (hj : j ≠ i) : (s.step i).g j = s.g j := by
  unfold St.step
  rw [set_g s i j _ _ hi, if_neg hj]
end Go.Proofs.Ytaihabkacjbfjaa.Gr
