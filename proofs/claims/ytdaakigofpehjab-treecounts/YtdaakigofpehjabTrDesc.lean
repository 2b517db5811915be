/- Who is below whom: the order of a tree (P13.4, P13.6). Without any program. -/
import Derived.Test.YtdaakigofpehjabTrMath
namespace Go.Proofs.Ytdaakigofpehjab.Tr

/-- How many in front are deeper than d. -/
def cn (d : Int) : List Br → Nat
  | [] => 0
  | b :: r => if d < b.2.1 then cn d r + 1 else 0
theorem cn_iff {d : Int} {l : List Br} {n : Nat} : n < cn d l ↔ (n < l.length ∧ ∀ m, m ≤ n → d < D l m) := by
  induction l generalizing n with
  | nil => simp [cn]
  | cons b r ih =>
    by_cases h : d < b.2.1
    · simp only [cn, if_pos h]
      cases n with
      | zero =>
        refine ⟨fun _ => ⟨by simp, fun m hm => ?_⟩, fun _ => by omega⟩
        obtain rfl : m = 0 := by omega
        exact h
      | succ n =>
        rw [Nat.add_lt_add_iff_right, ih]
        constructor
        · rintro ⟨h1, h2⟩
          refine ⟨by simpa using h1, fun m hm => ?_⟩
          cases m with
          | zero => exact h
          | succ m => exact h2 m (by omega)
        · rintro ⟨h1, h2⟩
          exact ⟨by simpa using h1, fun m hm => h2 (m + 1) (by omega)⟩
    · simp only [cn, if_neg h]
      constructor
      · intro q; omega
      · rintro ⟨_, h2⟩
        exact absurd (h2 0 (by omega)) h
theorem cn_le (d : Int) (l : List Br) : cn d l ≤ l.length := by
  rcases Nat.eq_zero_or_pos (cn d l) with h | h
  · omega
  · have := (cn_iff.1 (show cn d l - 1 < cn d l by omega)).1
    omega
/-- How many are below the place i. -/
def ct (t : List Br) (i : Nat) : Nat := cn (D t i) (t.drop (i + 1))
theorem D_drop (t : List Br) (i m : Nat) : D (t.drop i) m = D t (i + m) := by simp [D, List.getD, List.getElem?_drop]
theorem Ky_drop (t : List Br) (i m : Nat) : Ky (t.drop i) m = Ky t (i + m) := by simp [Ky, List.getD, List.getElem?_drop]
/-- The place j is below the place i. -/
def Ds (t : List Br) (i j : Nat) : Prop := i < j ∧ j < t.length ∧ ∀ m, i < m → m ≤ j → D t i < D t m
theorem ds_ct {t : List Br} {i j : Nat} : Ds t i j ↔ (i < j ∧ j - i - 1 < ct t i) := by
  unfold ct
  rw [cn_iff]
  constructor
  · rintro ⟨h1, h2, h3⟩
    refine ⟨h1, by simp; omega, fun m hm => ?_⟩
    rw [D_drop]
    exact h3 _ (by omega) (by omega)
  · rintro ⟨h1, h2, h3⟩
    refine ⟨h1, by simp at h2; omega, fun m hm hj => ?_⟩
    have := h3 (m - i - 1) (by omega)
    rw [D_drop, show i + 1 + (m - i - 1) = m by omega] at this
    exact this
/-- Those below a key. -/
def blL (t : List Br) (k : P) : List P := match fd k t with | none => [] | some i => ((t.drop (i + 1)).take (ct t i)).map (·.1)
theorem mem_bl {t : List Br} {a b : P} : a ∈ blL t b ↔ ∃ i j, fd b t = some i ∧ Ds t i j ∧ Ky t j = a := by
  unfold blL
  cases h : fd b t with
  | none => simp
  | some i =>
    simp only [Option.some.injEq, exists_and_left, exists_eq_left']
    rw [List.mem_map]
    constructor
    · rintro ⟨x, hx, rfl⟩
      obtain ⟨n, hn, e⟩ := List.getElem_of_mem hx
      simp only [List.length_take] at hn
      refine ⟨i + 1 + n, ds_ct.2 ⟨by omega, by omega⟩, ?_⟩
      rw [List.getElem_take, List.getElem_drop] at e
      have hl : i + 1 + n < t.length := by have := hn; simp at this; omega
      simp [Ky, List.getD, hl, e]
    · rintro ⟨j, hd, rfl⟩
      obtain ⟨h1, h2⟩ := ds_ct.1 hd
      have hl := hd.2.1
      refine ⟨t[j], ?_, by simp [Ky, List.getD, hl]⟩
      rw [List.mem_iff_getElem]
      refine ⟨j - i - 1, by simp; omega, ?_⟩
      rw [List.getElem_take, List.getElem_drop]
      congr 1
      omega
def dsB (t : List Br) (a b : P) : Bool := decide (a ∈ blL t b)
theorem len_bl {t : List Br} {k : P} {i : Nat} (h : fd k t = some i) : (blL t k).length = ct t i := by
  unfold blL
  rw [h]
  simp only [List.length_map, List.length_take]
  have := cn_le (D t i) (t.drop (i + 1))
  unfold ct at *
  omega
/-- In a tree a key has one place. -/
theorem fd_one {t : List Br} (h : Tree t) {j : Nat} (hj : j < t.length) : fd (Ky t j) t = some j := by
  refine fd_some.2 ⟨hj, rfl, fun m hm e => ?_⟩
  have hu := h.uni
  rw [List.nodup_iff_pairwise_ne] at hu
  have := List.pairwise_iff_getElem.1 hu m j (by simp; omega) (by simpa using hj) hm
  apply this
  simp only [List.getElem_map]
  have h1 : m < t.length := by omega
  simpa [Ky, List.getD, hj, h1] using e
theorem des_iff {t : List Br} (h : Tree t) {a b : P} : dsB t a b = true ↔ ∃ i j, fd b t = some i ∧ fd a t = some j ∧ Ds t i j := by
  unfold dsB
  rw [decide_eq_true_iff, mem_bl]
  constructor
  · rintro ⟨i, j, h1, h2, rfl⟩
    exact ⟨i, j, h1, fd_one h h2.2.1, h2⟩
  · rintro ⟨i, j, h1, h2, h3⟩
    exact ⟨i, j, h1, h3, (fd_some.1 h2).2.1⟩
theorem ds_trans {t : List Br} {i j l : Nat} (h : Ds t i j) (g : Ds t j l) : Ds t i l := by
  refine ⟨by have := h.1; have := g.1; omega, g.2.1, fun m h1 h2 => ?_⟩
  rcases Nat.lt_or_ge j m with hm | hm
  · have a := g.2.2 m hm h2
    have b := h.2.2 j h.1 (Nat.le_refl _)
    omega
  · exact h.2.2 m h1 hm
/-- NOBODY DESCENDS FROM ITSELF. -/
theorem des_irr {t : List Br} (h : Tree t) (a : P) : dsB t a a = false := by
  cases q : dsB t a a with
  | false => rfl
  | true =>
    obtain ⟨i, j, h1, h2, h3⟩ := (des_iff h).1 q
    rw [h1] at h2
    cases h2
    exact absurd h3.1 (Nat.lt_irrefl _)
theorem des_anti {t : List Br} (h : Tree t) {a b : P} (h1 : dsB t a b = true) : dsB t b a = false := by
  cases q : dsB t b a with
  | false => rfl
  | true =>
    obtain ⟨i, j, e1, e2, e3⟩ := (des_iff h).1 h1
    obtain ⟨i', j', f1, f2, f3⟩ := (des_iff h).1 q
    rw [e2] at f1; rw [e1] at f2
    cases f1; cases f2
    have := e3.1; have := f3.1; omega
theorem des_trans {t : List Br} (h : Tree t) {a b c : P} (h1 : dsB t a b = true) (h2 : dsB t b c = true) : dsB t a c = true := by
  obtain ⟨i, j, e1, e2, e3⟩ := (des_iff h).1 h1
  obtain ⟨i', j', f1, f2, f3⟩ := (des_iff h).1 h2
  rw [e1] at f2
  cases f2
  exact (des_iff h).2 ⟨i', j, f1, e2, ds_trans f3 e3⟩

/-! ### The parent -/
/-- The last place ahead of n whose depth is less than d. -/
def pl (t : List Br) (d : Int) : Nat → Option Nat
  | 0 => none
  | n + 1 => if D t n < d then some n else pl t d n
theorem pl_some {t : List Br} {d : Int} {n p : Nat} : pl t d n = some p ↔ (p < n ∧ D t p < d ∧ ∀ m, p < m → m < n → ¬ D t m < d) := by
  induction n with
  | zero => simp [pl]
  | succ n ih =>
    by_cases h : D t n < d
    · simp only [pl, if_pos h, Option.some.injEq]
      constructor
      · rintro rfl
        exact ⟨by omega, h, fun m h1 h2 => by omega⟩
      · rintro ⟨h1, _, h3⟩
        rcases Nat.lt_or_ge p n with hp | hp
        · exact absurd h (h3 n hp (by omega))
        · omega
    · simp only [pl, if_neg h, ih]
      constructor
      · rintro ⟨h1, h2, h3⟩
        refine ⟨by omega, h2, fun m hm1 hm2 => ?_⟩
        rcases Nat.lt_or_ge m n with hm | hm
        · exact h3 m hm1 hm
        · obtain rfl : m = n := by omega
          exact h
      · rintro ⟨h1, h2, h3⟩
        refine ⟨?_, h2, fun m hm1 hm2 => h3 m hm1 (by omega)⟩
        rcases Nat.lt_or_ge p n with hp | hp
        · exact hp
        · obtain rfl : p = n := by omega
          exact absurd h2 h
theorem pl_none {t : List Br} {d : Int} {n : Nat} : pl t d n = none ↔ ∀ m, m < n → ¬ D t m < d := by
  constructor
  · intro h
    induction n with
    | zero => intro m hm; omega
    | succ n ih =>
      by_cases q : D t n < d
      · simp [pl, q] at h
      · simp only [pl, if_neg q] at h
        intro m hm
        rcases Nat.lt_or_ge m n with hl | hl
        · exact ih h m hl
        · obtain rfl : m = n := by omega
          exact q
  · intro h
    cases e : pl t d n with
    | none => rfl
    | some p =>
      obtain ⟨h1, h2, _⟩ := pl_some.1 e
      exact absurd h2 (h p h1)
/-- The parent's place. -/
def pr (t : List Br) (k : P) : Option Nat := (fd k t).bind fun i => pl t (D t i) i
def prK (t : List Br) (k : P) : P := match pr t k with | none => (0, 0) | some p => Ky t p
def prB (t : List Br) (k : P) : Bool := (pr t k).isSome
theorem pr_ds {t : List Br} {i p : Nat} (hi : i < t.length) (h : pl t (D t i) i = some p) : Ds t p i := by
  obtain ⟨h1, h2, h3⟩ := pl_some.1 h
  refine ⟨h1, hi, fun m hm1 hm2 => ?_⟩
  rcases Nat.lt_or_ge m i with hl | hl
  · have := h3 m hm1 hl; omega
  · obtain rfl : m = i := by omega
    exact h2
theorem ds_pr {t : List Br} {i j p : Nat} (h : Ds t j i) (hp : pl t (D t i) i = some p) : j = p ∨ Ds t j p := by
  obtain ⟨h1, h2, h3⟩ := pl_some.1 hp
  have hd := h.2.2 i h.1 (Nat.le_refl _)
  rcases Nat.lt_trichotomy j p with hl | hl | hl
  · exact .inr ⟨hl, by have := h.2.1; omega, fun m a b => h.2.2 m a (by omega)⟩
  · exact .inl hl
  · exact absurd hd (h3 j hl h.1)
/-- A PARENT IS AN ANCESTOR, WITH NONE IN BETWEEN. -/
theorem par_yes {t : List Br} (h : Tree t) {a : P} (hp : prB t a = true) : dsB t a (prK t a) = true ∧ ∀ b, dsB t a b = true → b = prK t a ∨ dsB t (prK t a) b = true := by
  unfold prB prK pr at *
  cases hf : fd a t with
  | none => rw [hf] at hp; simp at hp
  | some i =>
    rw [hf] at hp
    simp only [Option.bind_some] at hp ⊢
    cases hq : pl t (D t i) i with
    | none => rw [hq] at hp; simp at hp
    | some p =>
      simp only
      have hi := (fd_some.1 hf).1
      have hd := pr_ds hi hq
      have hpl : p < t.length := by have := hd.1; omega
      refine ⟨(des_iff h).2 ⟨p, i, fd_one h hpl, hf, hd⟩, fun b hb => ?_⟩
      obtain ⟨j, i', e1, e2, e3⟩ := (des_iff h).1 hb
      rw [hf] at e2
      cases e2
      rcases ds_pr e3 hq with rfl | q
      · exact .inl (fd_some.1 e1).2.1.symm
      · exact .inr ((des_iff h).2 ⟨j, p, e1, fd_one h hpl, q⟩)
theorem par_no {t : List Br} (h : Tree t) {a : P} (hp : prB t a = false) (b : P) : dsB t a b = false := by
  cases q : dsB t a b with
  | false => rfl
  | true =>
    obtain ⟨j, i, e1, e2, e3⟩ := (des_iff h).1 q
    unfold prB pr at hp
    rw [e2] at hp
    simp only [Option.bind_some] at hp
    have hn : pl t (D t i) i = none := by
      cases hq : pl t (D t i) i with
      | none => rfl
      | some p => rw [hq] at hp; simp at hp
    exact absurd (e3.2.2 i e3.1 (Nat.le_refl _)) (pl_none.1 hn j e3.1)
end Go.Proofs.Ytdaakigofpehjab.Tr
