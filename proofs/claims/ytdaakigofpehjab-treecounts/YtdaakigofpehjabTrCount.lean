/- Those below somebody are its children, and theirs, each once, one piece of the list (P13.4); a tree that is full (P13.3). Without any program. -/
import Derived.Test.YtdaakigofpehjabTrKeep
namespace Go.Proofs.Ytdaakigofpehjab.Tr

/-- The place i is a child of the place p. -/
abbrev kid (t : List Br) (p i : Nat) : Prop := pl t (D t i) i = some p
/-- How many children there are ahead of n. -/
def kc (t : List Br) (p : Nat) : Nat → Nat
  | 0 => 0
  | n + 1 => if kid t p n then kc t p n + 1 else kc t p n
/-- How many they and those below them are. -/
def ks (t : List Br) (p : Nat) : Nat → Nat
  | 0 => 0
  | n + 1 => if kid t p n then ks t p n + 1 + ct t n else ks t p n
theorem kid_ds {t : List Br} {p i : Nat} (hi : i < t.length) (h : kid t p i) : Ds t p i := pr_ds hi h
theorem kid_far {t : List Br} {p i : Nat} (hi : i < t.length) (h : kid t p i) : p < i ∧ i ≤ p + ct t p := by
  have := ds_ct.1 (kid_ds hi h)
  omega
theorem ks_front {t : List Br} {p n : Nat} (hn : n ≤ t.length) (h : n ≤ p + 1) : ks t p n = 0 ∧ kc t p n = 0 := by
  induction n with
  | zero => exact ⟨rfl, rfl⟩
  | succ n ih =>
    have q : ¬ kid t p n := fun q => by have := (kid_far (by omega) q).1; omega
    simp only [ks, kc, if_neg q]
    exact ih (by omega) (by omega)
/-- How far the sum has come. -/
structure Far (t : List Br) (p n c : Nat) : Prop where
  le : n ≤ p + 1 + c
  ub : c ≤ ct t p
  no : ∀ i, n ≤ i → i < p + 1 + c → ¬ kid t p i
  hi : c < ct t p → ∀ m, p < m → m < p + 1 + c → D t (p + 1 + c) ≤ D t m
theorem ct_in {t : List Br} {p : Nat} (hp : p < t.length) : p + ct t p < t.length := by
  have := cn_le (D t p) (t.drop (p + 1))
  unfold ct
  simp at this
  omega
theorem far_start (t : List Br) (p : Nat) : Far t p (p + 1) 0 := ⟨by omega, by omega, fun i h1 h2 => by omega, fun _ m h1 h2 => by omega⟩
theorem far_next {t : List Br} {p n : Nat} (hp : p < t.length) (h1 : p + 1 ≤ n) (h2 : n < p + 1 + ct t p) (h : Far t p n (ks t p n)) : Far t p (n + 1) (ks t p (n + 1)) := by
  have hlen := ct_in hp
  by_cases q : n < p + 1 + ks t p n
  · have hk : ¬ kid t p n := h.no n (Nat.le_refl _) q
    simp only [ks, if_neg hk]
    exact ⟨by omega, h.ub, fun i a b => h.no i (by omega) b, h.hi⟩
  · have e : n = p + 1 + ks t p n := by have := h.le; omega
    have hn : n < t.length := by omega
    have hdp : Ds t p n := ds_ct.2 ⟨by omega, by omega⟩
    have hge : ∀ m, p < m → m < n → D t n ≤ D t m := fun m a b => by
      have := h.hi (by omega) m a (by omega)
      rwa [← e] at this
    have hk : kid t p n := pl_some.2 ⟨by omega, hdp.2.2 n hdp.1 (Nat.le_refl _), fun m a b => by have := hge m a b; omega⟩
    simp only [ks, if_pos hk]
    have hsub : n + ct t n ≤ p + ct t p := by
      rcases Nat.eq_zero_or_pos (ct t n) with z | z
      · omega
      · have hd : Ds t n (n + ct t n) := ds_ct.2 ⟨by omega, by omega⟩
        have := (ds_ct.1 (ds_trans hdp hd)).2
        omega
    refine ⟨by omega, by omega, fun i a b => ?_, fun hc m a b => ?_⟩
    · intro hi
      have hd : Ds t n i := ds_ct.2 ⟨by omega, by omega⟩
      exact (pl_some.1 hi).2.2 n (by omega) (by omega) (hd.2.2 i hd.1 (Nat.le_refl _))
    · have e2 : p + 1 + (ks t p n + 1 + ct t n) = n + ct t n + 1 := by omega
      rw [e2]
      have hqle : D t (n + ct t n + 1) ≤ D t n := by
        rcases Int.lt_or_le (D t n) (D t (n + ct t n + 1)) with z | z
        · exfalso
          have hd : Ds t n (n + ct t n + 1) := by
            refine ⟨by omega, by omega, fun m a b => ?_⟩
            rcases Nat.lt_or_ge m (n + ct t n + 1) with y | y
            · have : Ds t n m := ds_ct.2 ⟨a, by omega⟩
              exact this.2.2 m a (Nat.le_refl _)
            · obtain rfl : m = n + ct t n + 1 := by omega
              exact z
          have := (ds_ct.1 hd).2
          omega
        · exact z
      rcases Nat.lt_trichotomy m n with y | y | y
      · have := hge m a y; omega
      · subst y; exact hqle
      · have : Ds t n m := ds_ct.2 ⟨y, by omega⟩
        have := this.2.2 m y (Nat.le_refl _)
        omega
theorem far_all {t : List Br} {p : Nat} (hp : p < t.length) : ∀ d, d ≤ ct t p → Far t p (p + 1 + d) (ks t p (p + 1 + d)) := by
  intro d
  induction d with
  | zero =>
    intro _
    rw [Nat.add_zero, (ks_front (by omega) (Nat.le_refl _)).1]
    exact far_start t p
  | succ d ih =>
    intro hd
    exact far_next (n := p + 1 + d) hp (by omega) (by omega) (ih (by omega))
theorem ks_end {t : List Br} {p : Nat} (hp : p < t.length) : ∀ n, p + 1 + ct t p ≤ n → n ≤ t.length → ks t p n = ct t p := by
  intro n h1
  induction n with
  | zero => omega
  | succ n ih =>
    intro h2
    rcases Nat.lt_or_ge n (p + 1 + ct t p) with q | q
    · obtain e : n + 1 = p + 1 + ct t p := by omega
      rw [e]
      have := far_all hp (ct t p) (Nat.le_refl _)
      have a := this.le
      have b := this.ub
      omega
    · have hk : ¬ kid t p n := fun q => by have := (kid_far (by omega) q).2; omega
      simp only [ks, if_neg hk]
      exact ih q (by omega)
/-- THEY AND THOSE BELOW THEM ARE ALL BELOW. -/
theorem ks_all {t : List Br} {p : Nat} (hp : p < t.length) : ks t p t.length = ct t p := ks_end hp _ (by have := ct_in hp; omega) (Nat.le_refl _)
theorem kc_pos {t : List Br} {p i : Nat} (h : kid t p i) : ∀ n, i < n → 0 < kc t p n := by
  intro n
  induction n with
  | zero => intro h; omega
  | succ n ih =>
    intro hi
    by_cases q : kid t p n
    · simp only [kc, if_pos q]; omega
    · simp only [kc, if_neg q]
      rcases Nat.lt_or_ge i n with y | y
      · exact ih y
      · obtain rfl : i = n := by omega
        exact absurd h q
theorem kc_zero {t : List Br} {p : Nat} (h : ct t p = 0) : ∀ n, n ≤ t.length → kc t p n = 0 := by
  intro n
  induction n with
  | zero => intro _; rfl
  | succ n ih =>
    intro hn
    have q : ¬ kid t p n := fun q => by have := kid_far (by omega) q; omega
    simp only [kc, if_neg q]
    exact ih (by omega)
theorem kc_iff {t : List Br} {p : Nat} : kc t p t.length = 0 ↔ ct t p = 0 := by
  constructor
  · intro h
    rcases Nat.eq_zero_or_pos (ct t p) with z | z
    · exact z
    · exfalso
      have hd : Ds t p (p + 1) := ds_ct.2 ⟨by omega, by omega⟩
      have hk : kid t p (p + 1) := pl_some.2 ⟨by omega, hd.2.2 _ hd.1 (Nat.le_refl _), fun m a b => by omega⟩
      have := kc_pos hk t.length hd.2.1
      omega
  · exact fun h => kc_zero h _ (Nat.le_refl _)
/-- A ROOT HAS NO PARENT, ALL OTHERS HAVE ONE. -/
theorem par_dep {t : List Br} (h : Tree t) {i : Nat} (hi : i < t.length) : prB t (Ky t i) = !(D t i == 0) := by
  unfold prB pr
  rw [fd_one h hi, Option.bind_some]
  have hd := fun j (hj : j < t.length) => (dp_iff.1 h.dep j hj).1
  by_cases q : D t i = 0
  · have : pl t (D t i) i = none := pl_none.2 fun m hm => by have := hd m (by omega); omega
    rw [this]
    simp [q]
  · have h0 : D t 0 ≤ 0 := by
      have := (dp_iff.1 h.dep 0 (by omega)).2
      rw [if_pos rfl] at this
      omega
    have hpos := hd i hi
    have hi0 : 0 < i := by
      rcases Nat.eq_zero_or_pos i with z | z
      · subst z; omega
      · exact z
    cases e : pl t (D t i) i with
    | none =>
      have := pl_none.1 e 0 hi0
      omega
    | some p => simp [q]
theorem par_kid {t : List Br} (h : Tree t) {i p : Nat} {k : P} (hi : i < t.length) (hp : fd k t = some p) : (prB t (Ky t i) = true ∧ prK t (Ky t i) = k) ↔ kid t p i := by
  unfold prB prK pr kid
  rw [fd_one h hi, Option.bind_some]
  constructor
  · rintro ⟨h1, h2⟩
    cases e : pl t (D t i) i with
    | none => rw [e] at h1; cases h1
    | some q =>
      rw [e] at h2
      simp only at h2
      have hq := (pr_ds hi e)
      have := fd_one h (j := q) (by have := hq.1; omega)
      rw [h2, hp] at this
      exact this.symm
  · intro e
    rw [e]
    exact ⟨rfl, (fd_some.1 hp).2.1⟩
/-- One piece of the list. -/
theorem bl_get {t : List Br} {k : P} {p n : Nat} (h : fd k t = some p) (hn : n < (blL t k).length) : p + 1 + n < t.length ∧ (blL t k).getD n (0, 0) = Ky t (p + 1 + n) := by
  have hl := len_bl h
  have hc := ct_in (fd_some.1 h).1
  refine ⟨by omega, ?_⟩
  have e : (blL t k)[n] = Ky t (p + 1 + n) := by
    simp only [blL, h, List.getElem_map, List.getElem_take, List.getElem_drop]
    have : p + 1 + n < t.length := by omega
    simp [Ky, List.getD, this]
  rw [← e]
  simp [List.getD, hn]
end Go.Proofs.Ytdaakigofpehjab.Tr
