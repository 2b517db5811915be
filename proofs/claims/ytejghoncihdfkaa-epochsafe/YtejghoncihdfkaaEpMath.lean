/- Epochs: whether they may be, what is done to them; no program. -/
import Derived.Laws.BitsAllLaws
namespace Go.Proofs.Ytejghoncihdfkaa.Ep

/-- What waits: an object, and its epoch. -/
abbrev W := Int × Int
/-- Epochs: now, the cores' pins, what waits for each. -/
structure E where
  now : Int
  pins : List Int
  lim : List (List W)
abbrev MaxE : Int := 1099511627776
/-- Whether one that waits may, in the epoch now. -/
def okW (now : Int) (a : W) : Bool := decide (0 ≤ a.1) && (decide (a.1 ≤ 63) && (decide (1 ≤ a.2) && decide (a.2 ≤ now)))
theorem okW_iff {now : Int} {a : W} : okW now a = true ↔ 0 ≤ a.1 ∧ a.1 ≤ 63 ∧ 1 ≤ a.2 ∧ a.2 ≤ now := by simp [okW]
theorem okW_not {now : Int} {a : W} : okW now a = false ↔ ¬ (0 ≤ a.1 ∧ a.1 ≤ 63 ∧ 1 ≤ a.2 ∧ a.2 ≤ now) := by rw [← okW_iff]; simp
/-- Epochs that do not fall. -/
def nf : List W → Bool
  | [] => true
  | a :: r => r.all (fun b => decide (a.2 ≤ b.2)) && nf r
theorem nf_iff {l : List W} : nf l = true ↔ l.Pairwise (fun a b => a.2 ≤ b.2) := by
  induction l with
  | nil => simp [nf]
  | cons a r ih => simp [nf, ih]
theorem get_lt {α : Type} {l : List α} {k : Nat} {d : α} (h : k < l.length) : l.getD k d = l[k] := by simp [List.getD, h]
/-- Step by step. -/
theorem nf_steps {l : List W} (h : ∀ i, i + 1 < l.length → (l.getD i (0, 0)).2 ≤ (l.getD (i + 1) (0, 0)).2) : nf l = true := by
  rw [nf_iff, List.pairwise_iff_getElem]
  intro i j hi hj hij
  obtain ⟨d, rfl⟩ : ∃ d, j = i + d + 1 := ⟨j - i - 1, by omega⟩
  induction d with
  | zero =>
    have := h i (by omega)
    rw [get_lt hi, get_lt (by omega : i + 1 < l.length)] at this
    exact this
  | succ d ih =>
    have h1 := ih (by omega) (by omega)
    have h2 := h (i + d + 1) (by omega)
    rw [get_lt (by omega : i + d + 1 < l.length), get_lt (by omega : i + d + 1 + 1 < l.length)] at h2
    have e : l[i + (d + 1) + 1] = l[i + d + 1 + 1] := rfl
    rw [e]
    omega
theorem nf_at {l : List W} (h : nf l = true) {i j : Nat} (hij : i ≤ j) (hj : j < l.length) : (l.getD i (0, 0)).2 ≤ (l.getD j (0, 0)).2 := by
  rw [nf_iff, List.pairwise_iff_getElem] at h
  rcases Nat.lt_or_eq_of_le hij with hlt | rfl
  · rw [get_lt hj, get_lt (by omega : i < l.length)]
    exact h i j (by omega) hj hlt
  · exact Int.le_refl _
/-- Whether a list of those that wait may be. -/
def okL (now : Int) (l : List W) : Bool := decide (l.length ≤ 8) && (l.all (okW now) && nf l)
theorem okL_iff {now : Int} {l : List W} : okL now l = true ↔ l.length ≤ 8 ∧ (∀ a ∈ l, okW now a = true) ∧ nf l = true := by simp [okL]
def okP (now p : Int) : Bool := decide (p = 0) || (decide (p = now) || decide (p = now + 1))
theorem okP_iff {now p : Int} : okP now p = true ↔ p = 0 ∨ p = now ∨ p = now + 1 := by simp [okP]
/-- EPOCHS THAT MAY BE. -/
structure Ok (e : E) : Prop where
  one : 1 ≤ e.pins.length
  most : e.pins.length ≤ 64
  len : e.lim.length = e.pins.length
  now1 : 1 ≤ e.now
  now2 : e.now ≤ MaxE
  pin : ∀ c, c < e.pins.length → okP e.now (e.pins.getD c 0) = true
  wait : ∀ c, c < e.pins.length → okL e.now (e.lim.getD c []) = true
def okE (e : E) : Bool := decide (1 ≤ e.pins.length) && (decide (e.pins.length ≤ 64) && (decide (e.lim.length = e.pins.length) && (decide (1 ≤ e.now) && (decide (e.now ≤ MaxE) && (e.pins.all (okP e.now) && e.lim.all (okL e.now))))))
theorem all_get {α : Type} {l : List α} {p : α → Bool} {d : α} : l.all p = true ↔ ∀ c, c < l.length → p (l.getD c d) = true := by
  rw [List.all_eq_true]
  constructor
  · intro h c hc
    rw [get_lt hc]
    exact h _ (List.getElem_mem hc)
  · intro h x hx
    obtain ⟨i, hi, rfl⟩ := List.getElem_of_mem hx
    rw [← get_lt (d := d) hi]
    exact h i hi
theorem ok_iff {e : E} : okE e = true ↔ Ok e := by
  unfold okE
  simp only [Bool.and_eq_true, decide_eq_true_eq]
  rw [all_get (d := 0), all_get (d := [])]
  constructor
  · rintro ⟨h1, h2, h3, h4, h5, h6, h7⟩
    exact ⟨h1, h2, h3, h4, h5, h6, fun c hc => h7 c (by omega)⟩
  · intro h
    exact ⟨h.one, h.most, h.len, h.now1, h.now2, h.pin, fun c hc => h.wait c (by rw [← h.len]; exact hc)⟩
theorem ok_not {e : E} : okE e = false ↔ ¬ Ok e := by rw [← ok_iff]; simp

/-! ### What is done -/
/-- Whether there is such a core. -/
def coB (e : E) (c : Int) : Bool := okE e && (decide (0 ≤ c) && decide (c < e.pins.length))
theorem co_iff {e : E} {c : Int} : coB e c = true ↔ Ok e ∧ 0 ≤ c ∧ c < e.pins.length := by simp [coB, ok_iff]
def pinOf (e : E) (c : Int) : Int := e.pins.getD c.toNat 0
def limOf (e : E) (c : Int) : List W := e.lim.getD c.toNat []
def setP (e : E) (c p : Int) : E := ⟨e.now, e.pins.set c.toNat p, e.lim⟩
def setL (e : E) (c : Int) (l : List W) : E := ⟨e.now, e.pins, e.lim.set c.toNat l⟩
def pinE (e : E) (c : Int) : Int := if coB e c then (if pinOf e c = 0 then 0 else 8) else 2
def pinA (e : E) (c : Int) : E := if pinE e c = 0 then setP e c (e.now + 1) else e
def unE (e : E) (c : Int) : Int := if coB e c then (if pinOf e c = 0 then 7 else 0) else 2
def unA (e : E) (c : Int) : E := if unE e c = 0 then setP e c 0 else e
def reE (e : E) (c o : Int) : Int := if coB e c && (decide (0 ≤ o) && decide (o ≤ 63)) then (if (limOf e c).length < 8 then 0 else 5) else 2
def reA (e : E) (c o : Int) : E := if reE e c o = 0 then setL e c (limOf e c ++ [(o, e.now)]) else e
def adB (e : E) : Bool := okE e && (decide (e.now < MaxE) && e.pins.all (fun p => decide (p = 0) || decide (p = e.now + 1)))
def adA (e : E) : E := if adB e then ⟨e.now + 1, e.pins, e.lim⟩ else e
def goes (e : E) (a : W) : Bool := decide (a.2 ≤ e.now - 2)
def rpL (e : E) (c : Int) : List Int := if coB e c then ((limOf e c).filter (goes e)).map (·.1) else []
def rpA (e : E) (c : Int) : E := if coB e c then setL e c ((limOf e c).filter (fun a => !goes e a)) else e
def newE (n : Int) : Int := if 1 ≤ n ∧ n ≤ 64 then 0 else 2
def newA (n : Int) : E := if 1 ≤ n ∧ n ≤ 64 then ⟨1, List.replicate n.toNat 0, List.replicate n.toNat []⟩ else ⟨0, [], []⟩
theorem pinE_zero {e : E} {c : Int} : pinE e c = 0 ↔ coB e c = true ∧ pinOf e c = 0 := by
  unfold pinE
  cases coB e c <;> simp
theorem unE_zero {e : E} {c : Int} : unE e c = 0 ↔ coB e c = true ∧ pinOf e c ≠ 0 := by
  unfold unE
  cases coB e c <;> simp
theorem reE_zero {e : E} {c o : Int} : reE e c o = 0 ↔ coB e c = true ∧ (0 ≤ o ∧ o ≤ 63) ∧ (limOf e c).length < 8 := by
  unfold reE
  cases coB e c with
  | false => simp
  | true =>
    by_cases h : 0 ≤ o ∧ o ≤ 63
    · simp [h]
    · have : (decide (0 ≤ o) && decide (o ≤ 63)) = false := by simpa using h
      simp [this, h]
theorem ad_iff {e : E} : adB e = true ↔ Ok e ∧ e.now < MaxE ∧ ∀ c, c < e.pins.length → e.pins.getD c 0 = 0 ∨ e.pins.getD c 0 = e.now + 1 := by
  unfold adB
  rw [Bool.and_eq_true, Bool.and_eq_true, ok_iff, all_get (d := 0)]
  simp
theorem set_get {α : Type} {l : List α} {i j : Nat} {x d : α} (hj : j < l.length) : (l.set i x).getD j d = if i = j then x else l.getD j d := by
  by_cases h : i = j
  · subst h; simp [List.getD, hj]
  · simp [List.getD, h]

/-! ### What may be stays so -/
theorem ok_setP {e : E} {c p : Int} (h : Ok e) (hp : okP e.now p = true) : Ok (setP e c p) := by
  refine ⟨by simpa [setP] using h.one, by simpa [setP] using h.most, by simpa [setP] using h.len, h.now1, h.now2, ?_, ?_⟩
  · intro k hk
    have hk' : k < e.pins.length := by simpa [setP] using hk
    simp only [setP]
    rw [set_get hk']
    split
    · exact hp
    · exact h.pin k hk'
  · intro k hk
    have hk' : k < e.pins.length := by simpa [setP] using hk
    exact h.wait k hk'
theorem ok_setL {e : E} {c : Int} {l : List W} (h : Ok e) (hl : okL e.now l = true) : Ok (setL e c l) := by
  refine ⟨h.one, h.most, by simpa [setL] using h.len, h.now1, h.now2, h.pin, ?_⟩
  intro k hk
  have hk' : k < e.lim.length := by rw [h.len]; exact hk
  simp only [setL]
  rw [set_get hk']
  split
  · exact hl
  · exact h.wait k hk
theorem ok_pin {e : E} (c : Int) (h : Ok e) : Ok (pinA e c) := by
  unfold pinA
  split
  · exact ok_setP h (okP_iff.2 (by omega))
  · exact h
theorem ok_un {e : E} (c : Int) (h : Ok e) : Ok (unA e c) := by
  unfold unA
  split
  · exact ok_setP h (okP_iff.2 (by omega))
  · exact h
theorem okL_at {e : E} {c : Int} (h : coB e c = true) : okL e.now (limOf e c) = true := by
  obtain ⟨h1, h2, h3⟩ := co_iff.1 h
  exact h1.wait c.toNat (by omega)
theorem ok_re {e : E} (c o : Int) (h : Ok e) : Ok (reA e c o) := by
  unfold reA
  split
  · rename_i h0
    obtain ⟨h1, h2, h3⟩ := reE_zero.1 h0
    obtain ⟨l1, l2, l3⟩ := okL_iff.1 (okL_at h1)
    refine ok_setL h (okL_iff.2 ⟨by simp; omega, ?_, ?_⟩)
    · intro a ha
      rcases List.mem_append.1 ha with ha | ha
      · exact l2 a ha
      · rw [List.mem_singleton.1 ha]
        exact okW_iff.2 ⟨h2.1, h2.2, h.now1, Int.le_refl _⟩
    · rw [nf_iff, List.pairwise_append]
      refine ⟨nf_iff.1 l3, by simp, fun a ha b hb => ?_⟩
      rw [List.mem_singleton.1 hb]
      exact (okW_iff.1 (l2 a ha)).2.2.2
  · exact h
theorem okL_up {n m : Int} {l : List W} (h : okL n l = true) (hm : n ≤ m) : okL m l = true := by
  obtain ⟨l1, l2, l3⟩ := okL_iff.1 h
  refine okL_iff.2 ⟨l1, fun a ha => ?_, l3⟩
  have := okW_iff.1 (l2 a ha)
  exact okW_iff.2 (by omega)
theorem ok_ad {e : E} (h : Ok e) : Ok (adA e) := by
  unfold adA
  split
  · rename_i h0
    obtain ⟨h1, h2, h3⟩ := ad_iff.1 h0
    refine ⟨h.one, h.most, h.len, ?_, ?_, ?_, ?_⟩
    · have := h.now1; show 1 ≤ e.now + 1; omega
    · show e.now + 1 ≤ MaxE; omega
    · intro c hc
      have := h3 c hc
      show okP (e.now + 1) (e.pins.getD c 0) = true
      rw [okP_iff]
      omega
    · intro c hc
      exact okL_up (h.wait c hc) (show e.now ≤ e.now + 1 by omega)
  · exact h
theorem okL_filter {n : Int} {l : List W} (p : W → Bool) (h : okL n l = true) : okL n (l.filter p) = true := by
  obtain ⟨l1, l2, l3⟩ := okL_iff.1 h
  refine okL_iff.2 ⟨Nat.le_trans (List.length_filter_le _ _) l1, fun a ha => l2 a (List.mem_filter.1 ha).1, ?_⟩
  rw [nf_iff] at *
  exact l3.filter _
theorem ok_rp {e : E} (c : Int) (h : Ok e) : Ok (rpA e c) := by
  unfold rpA
  split
  · rename_i h0
    exact ok_setL h (okL_filter _ (okL_at h0))
  · exact h
theorem ok_new {n : Int} (h : newE n = 0) : Ok (newA n) := by
  have hn : 1 ≤ n ∧ n ≤ 64 := by
    unfold newE at h
    split at h
    · assumption
    · omega
  unfold newA
  rw [if_pos hn]
  refine ⟨by simp; omega, by simp; omega, by simp, by simp, by simp [MaxE], ?_, ?_⟩
  · intro c hc
    simp only [List.length_replicate] at hc
    rw [okP_iff]
    simp [List.getD, hc]
  · intro c hc
    simp only [List.length_replicate] at hc
    simp [List.getD, hc, okL, nf]

/-! ### Acts -/
structure Ac where
  kind : Int
  core : Int
  obj : Int
def doE (e : E) (a : Ac) : E := if a.kind = 0 then pinA e a.core else if a.kind = 1 then unA e a.core else if a.kind = 2 then reA e a.core a.obj else if a.kind = 3 then adA e else rpA e a.core
def doL (e : E) (a : Ac) : List Int := if a.kind = 0 then [] else if a.kind = 1 then [] else if a.kind = 2 then [] else if a.kind = 3 then [] else rpL e a.core
def doN (e : E) (a : Ac) : Int := if a.kind = 0 then pinE e a.core else if a.kind = 1 then unE e a.core else if a.kind = 2 then reE e a.core a.obj else if a.kind = 3 then (if adB e then 1000 else 0) else 0
theorem do_ok {e : E} (a : Ac) (h : Ok e) : Ok (doE e a) := by
  unfold doE
  repeat' split
  · exact ok_pin _ h
  · exact ok_un _ h
  · exact ok_re _ _ h
  · exact ok_ad h
  · exact ok_rp _ h
theorem len_pin (e : E) (c : Int) : (pinA e c).pins.length = e.pins.length := by unfold pinA; split <;> simp [setP]
theorem len_un (e : E) (c : Int) : (unA e c).pins.length = e.pins.length := by unfold unA; split <;> simp [setP]
theorem len_re (e : E) (c o : Int) : (reA e c o).pins.length = e.pins.length := by unfold reA; split <;> simp [setL]
theorem len_ad (e : E) : (adA e).pins.length = e.pins.length := by unfold adA; split <;> simp
theorem len_rp (e : E) (c : Int) : (rpA e c).pins.length = e.pins.length := by unfold rpA; split <;> simp [setL]
theorem do_len (e : E) (a : Ac) : (doE e a).pins.length = e.pins.length := by
  unfold doE
  repeat' split
  · exact len_pin _ _
  · exact len_un _ _
  · exact len_re _ _ _
  · exact len_ad _
  · exact len_rp _ _
/-- NOTHING BUT Advance CHANGES THE EPOCH. -/
theorem do_now (e : E) (a : Ac) : (doE e a).now = if a.kind = 3 ∧ doN e a = 1000 then e.now + 1 else e.now := by
  unfold doE doN
  by_cases h0 : a.kind = 0
  · simp [h0]; unfold pinA; split <;> rfl
  · by_cases h1 : a.kind = 1
    · simp [h1]; unfold unA; split <;> rfl
    · by_cases h2 : a.kind = 2
      · simp [h2]; unfold reA; split <;> rfl
      · by_cases h3 : a.kind = 3
        · simp [h3]
          unfold adA
          cases adB e <;> simp
        · simp [h0, h1, h2, h3]; unfold rpA; split <;> rfl
/-- A core that is pinned is at most one epoch behind. -/
theorem pin_near {e : E} (h : Ok e) {c : Nat} (hc : c < e.pins.length) : e.pins.getD c 0 = 0 ∨ (e.now ≤ e.pins.getD c 0 ∧ e.pins.getD c 0 ≤ e.now + 1) := by
  have := okP_iff.1 (h.pin c hc)
  omega
end Go.Proofs.Ytejghoncihdfkaa.Ep
