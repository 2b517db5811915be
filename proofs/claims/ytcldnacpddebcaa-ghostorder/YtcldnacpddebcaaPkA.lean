/- What the document says of trees: lists of branches, who is below whom. Without any program. -/
import Derived.RowKit
namespace Go.Proofs.Ytcldnacpddebcaa.Tr

/-- A key. -/
abbrev P := Int × Int
/-- A branch: its key, its depth, whether it is marked. -/
abbrev Br := P × Int × Bool
abbrev zB : Br := ((0, 0), 0, false)
def okK (k : P) : Bool := decide (0 ≤ k.1 ∧ k.1 ≤ 1023 ∧ -1 ≤ k.2 ∧ k.2 ≤ 7)
theorem okK_iff {k : P} : okK k = true ↔ (0 ≤ k.1 ∧ k.1 ≤ 1023 ∧ -1 ≤ k.2 ∧ k.2 ≤ 7) := by simp [okK]
abbrev Ky (t : List Br) (i : Nat) : P := (t.getD i zB).1
abbrev D (t : List Br) (i : Nat) : Int := (t.getD i zB).2.1

/-! ### Where a key is -/
def fd (k : P) : List Br → Option Nat
  | [] => none
  | b :: r => if b.1 = k then some 0 else (fd k r).map (· + 1)
theorem fd_some {k : P} {t : List Br} {i : Nat} : fd k t = some i ↔ (i < t.length ∧ Ky t i = k ∧ ∀ j, j < i → Ky t j ≠ k) := by
  induction t generalizing i with
  | nil => simp [fd]
  | cons b r ih =>
    by_cases h : b.1 = k
    · simp only [fd, if_pos h, Option.some.injEq]
      constructor
      · rintro rfl
        exact ⟨by simp, h, fun j hj => absurd hj (by omega)⟩
      · rintro ⟨_, _, h3⟩
        rcases Nat.eq_zero_or_pos i with rfl | hp
        · rfl
        · exact absurd h (h3 0 hp)
    · simp only [fd, if_neg h, Option.map_eq_some_iff]
      constructor
      · rintro ⟨a, ha, rfl⟩
        obtain ⟨h1, h2, h3⟩ := ih.1 ha
        refine ⟨by simp; omega, by simpa [Ky] using h2, fun j hj => ?_⟩
        cases j with
        | zero => exact h
        | succ j => exact h3 j (by omega)
      · rintro ⟨h1, h2, h3⟩
        cases i with
        | zero => exact absurd h2 h
        | succ i => exact ⟨i, ih.2 ⟨by simpa using h1, h2, fun j hj => h3 (j + 1) (by omega)⟩, rfl⟩
theorem fd_none {k : P} {t : List Br} : fd k t = none ↔ ∀ j, j < t.length → Ky t j ≠ k := by
  constructor
  · intro h j hj e
    obtain ⟨i, hi⟩ : ∃ i, fd k t = some i := by
      have : ∃ n, n < t.length ∧ Ky t n = k := ⟨j, hj, e⟩
      clear h hj e j
      induction t with
      | nil => obtain ⟨n, hn, _⟩ := this; simp at hn
      | cons b r ih =>
        by_cases h : b.1 = k
        · exact ⟨0, by simp [fd, h]⟩
        · obtain ⟨n, hn, e⟩ := this
          cases n with
          | zero => exact absurd e h
          | succ n =>
            obtain ⟨i, hi⟩ := ih ⟨n, by simpa using hn, e⟩
            exact ⟨i + 1, by simp [fd, h, hi]⟩
    rw [hi] at h; cases h
  · intro h
    cases e : fd k t with
    | none => rfl
    | some i =>
      obtain ⟨h1, h2, _⟩ := fd_some.1 e
      exact absurd h2 (h i h1)

/-! ### Trees -/
/-- The depths, from one whose depth is p on. -/
def dp : Int → List Br → Prop
  | _, [] => True
  | p, b :: r => 0 ≤ b.2.1 ∧ b.2.1 ≤ p + 1 ∧ dp b.2.1 r
/-- The last one's depth. -/
def ld : Int → List Br → Int
  | p, [] => p
  | _, b :: r => ld b.2.1 r
theorem ld_cons (p : Int) (b : Br) (r : List Br) : ld p (b :: r) = ld b.2.1 r := rfl
theorem dp_app (p : Int) (l m : List Br) : dp p (l ++ m) ↔ dp p l ∧ dp (ld p l) m := by
  induction l generalizing p with
  | nil => simp [dp, ld]
  | cons b r ih => simp only [List.cons_append, dp, ih, ld_cons]; constructor <;> (rintro ⟨a, b⟩; simp_all)
theorem dp_mono {p q : Int} (h : p ≤ q) {l : List Br} (hd : dp p l) : dp q l := by
  cases l with
  | nil => trivial
  | cons b r => exact ⟨hd.1, by have := hd.2.1; omega, hd.2.2⟩
theorem ld_ge {p : Int} {l : List Br} (hp : -1 ≤ p) (h : dp p l) : -1 ≤ ld p l := by
  induction l generalizing p with
  | nil => exact hp
  | cons b r ih => rw [ld_cons]; exact ih (by have := h.1; omega) h.2.2
structure Tree (t : List Br) : Prop where
  len : t.length ≤ 512
  key : ∀ b ∈ t, okK b.1 = true
  uni : (t.map (·.1)).Nodup
  dep : dp (-1) t
theorem tree_nil : Tree [] := ⟨by simp, by simp, by simp, trivial⟩
/-- A key that is there: the list, cut at it. -/
theorem cut_at {k : P} {t : List Br} {i : Nat} (h : fd k t = some i) : t = t.take i ++ (k, D t i, (t.getD i zB).2.2) :: t.drop (i + 1) := by
  obtain ⟨h1, h2, _⟩ := fd_some.1 h
  have e : t.getD i zB = t[i] := by simp [List.getD, h1]
  conv => lhs; rw [← List.take_append_drop i t, List.drop_eq_getElem_cons h1]
  congr 2
  rw [← e]
  exact Prod.ext h2 rfl
theorem nin_of {k : P} {t : List Br} (h : fd k t = none) : k ∉ t.map (·.1) := by
  intro hk
  obtain ⟨b, hb, rfl⟩ := List.mem_map.1 hk
  obtain ⟨j, hj, e⟩ := List.getElem_of_mem hb
  exact fd_none.1 h j hj (by simp [Ky, List.getD, hj, e])
/-- ROOT keeps a tree one. -/
theorem tree_root {t : List Br} {k : P} (h : Tree t) (hk : okK k = true) (hn : fd k t = none) (hl : t.length < 512) : Tree (t ++ [(k, 0, false)]) := by
  refine ⟨by simp; omega, fun b hb => ?_, ?_, (dp_app _ _ _).2 ⟨h.dep, by simp, ?_, trivial⟩⟩
  · rcases List.mem_append.1 hb with hb | hb
    · exact h.key b hb
    · simp at hb; subst hb; exact hk
  · rw [List.map_append, List.nodup_append]
    refine ⟨h.uni, by simp, ?_⟩
    intro a ha b hb e
    simp at hb
    subst hb e
    exact nin_of hn ha
  · have := ld_ge (by omega) h.dep
    simp only; omega
/-- INSERT keeps a tree one. -/
theorem tree_insert {l1 l2 : List Br} {b : Br} {k : P} (h : Tree (l1 ++ b :: l2)) (hk : okK k = true) (hn : fd k (l1 ++ b :: l2) = none) (hl : (l1 ++ b :: l2).length < 512) : Tree (l1 ++ b :: (k, b.2.1 + 1, false) :: l2) := by
  obtain ⟨d1, d2⟩ := (dp_app _ _ _).1 h.dep
  refine ⟨by simp at hl ⊢; omega, fun c hc => ?_, ?_, (dp_app _ _ _).2 ⟨d1, d2.1, d2.2.1, by simp only; have := d2.1; omega, by simp only; omega, dp_mono (by simp only; omega) d2.2.2⟩⟩
  · simp only [List.mem_append, List.mem_cons] at hc
    rcases hc with hc | rfl | rfl | hc
    · exact h.key c (by simp [hc])
    · exact h.key c (by simp)
    · exact hk
    · exact h.key c (by simp [hc])
  · have hn := nin_of hn
    have hu := h.uni
    simp only [List.map_append, List.map_cons, List.mem_append, List.mem_cons, not_or] at hn hu ⊢
    rw [List.nodup_append] at hu ⊢
    refine ⟨hu.1, ?_, ?_⟩
    · have h2 := hu.2.1
      rw [List.nodup_cons] at h2 ⊢
      rw [List.nodup_cons]
      refine ⟨?_, hn.2.2, h2.2⟩
      simp only [List.mem_cons, not_or]
      exact ⟨fun e => hn.2.1 e.symm, h2.1⟩
    · intro a ha c hc e
      simp only [List.mem_cons] at hc
      rcases hc with rfl | rfl | hc
      · exact hu.2.2 a ha _ (by simp) e
      · subst e; exact hn.1 ha
      · exact hu.2.2 a ha c (by simp [hc]) e
/-- REMOVE keeps a tree one. -/
theorem tree_remove {l1 l2 : List Br} {b : Br} (h : Tree (l1 ++ b :: l2)) (hc : ∀ c, l2.head? = some c → c.2.1 ≤ b.2.1) : Tree (l1 ++ l2) := by
  obtain ⟨d1, d2⟩ := (dp_app _ _ _).1 h.dep
  refine ⟨by have := h.len; simp at this ⊢; omega, fun c hc => h.key c ?_, ?_, (dp_app _ _ _).2 ⟨d1, ?_⟩⟩
  · rcases List.mem_append.1 hc with hc | hc <;> simp [hc]
  · have hu := h.uni
    simp only [List.map_append, List.map_cons] at hu ⊢
    rw [List.nodup_append] at hu ⊢
    exact ⟨hu.1, (List.nodup_cons.1 hu.2.1).2, fun a ha c hc => hu.2.2 a ha c (by simp [hc])⟩
  · cases l2 with
    | nil => trivial
    | cons c s =>
      have h1 := hc c rfl
      have h2 := d2.2.1
      have h3 := d2.2.2
      exact ⟨h3.1, by omega, h3.2.2⟩
/-- Another key, or another mark, keeps a tree one. -/
theorem tree_set {l1 l2 : List Br} {b : Br} {k : P} {m : Bool} (h : Tree (l1 ++ b :: l2)) (hk : okK k = true) (hn : k = b.1 ∨ fd k (l1 ++ b :: l2) = none) : Tree (l1 ++ (k, b.2.1, m) :: l2) := by
  obtain ⟨d1, d2⟩ := (dp_app _ _ _).1 h.dep
  refine ⟨by have := h.len; simp at this ⊢; omega, fun c hc => ?_, ?_, (dp_app _ _ _).2 ⟨d1, d2.1, d2.2.1, d2.2.2⟩⟩
  · simp only [List.mem_append, List.mem_cons] at hc
    rcases hc with hc | rfl | hc
    · exact h.key c (by simp [hc])
    · exact hk
    · exact h.key c (by simp [hc])
  · have hu := h.uni
    simp only [List.map_append, List.map_cons] at hu ⊢
    rcases hn with rfl | hn
    · exact hu
    · have hn := nin_of hn
      simp only [List.map_append, List.map_cons, List.mem_append, List.mem_cons, not_or] at hn
      rw [List.nodup_append] at hu ⊢
      refine ⟨hu.1, ?_, ?_⟩
      · have h2 := hu.2.1
        rw [List.nodup_cons] at h2 ⊢
        exact ⟨hn.2.2, h2.2⟩
      · intro a ha c hc e
        simp only [List.mem_cons] at hc
        rcases hc with rfl | hc
        · subst e; exact hn.1 ha
        · exact hu.2.2 a ha c (by simp [hc]) e
end Go.Proofs.Ytcldnacpddebcaa.Tr
/- What the document says of ghosts: who is in a slot, who is above whom, what befalls. Without any program. -/
namespace Go.Proofs.Ytcldnacpddebcaa.Gh
open Go.Proofs.Ytcldnacpddebcaa.Tr

/-- A ghost: the slots, who is in them, from whom each one that ever was came. -/
structure Gt where
  ks : List P
  is : List Int
  fr : List Int
theorem gt_eq {g h : Gt} (h1 : g.ks = h.ks) (h2 : g.is = h.is) (h3 : g.fr = h.fr) : g = h := by
  cases g
  cases h
  simp_all
/-- What befalls. -/
structure Bi where
  kind : Int
  key : P
  fm : P
abbrev g0 : Gt := ⟨[], [], []⟩
abbrev Kk (l : List P) (i : Nat) : P := l.getD i (0, 0)
abbrev Ii (l : List Int) (i : Nat) : Int := l.getD i 0

/-! ### Where a key is -/
def fk (k : P) : List P → Option Nat
  | [] => none
  | b :: r => if b = k then some 0 else (fk k r).map (· + 1)
theorem fk_some {k : P} {t : List P} {i : Nat} : fk k t = some i ↔ (i < t.length ∧ Kk t i = k ∧ ∀ j, j < i → Kk t j ≠ k) := by
  induction t generalizing i with
  | nil => simp [fk]
  | cons b r ih =>
    by_cases h : b = k
    · simp only [fk, if_pos h, Option.some.injEq]
      constructor
      · rintro rfl
        exact ⟨by simp, h, fun j hj => absurd hj (by omega)⟩
      · rintro ⟨_, _, h3⟩
        rcases Nat.eq_zero_or_pos i with rfl | hp
        · rfl
        · exact absurd h (h3 0 hp)
    · simp only [fk, if_neg h, Option.map_eq_some_iff]
      constructor
      · rintro ⟨a, ha, rfl⟩
        obtain ⟨h1, h2, h3⟩ := ih.1 ha
        refine ⟨by simp; omega, by simpa [Kk] using h2, fun j hj => ?_⟩
        cases j with
        | zero => exact h
        | succ j => exact h3 j (by omega)
      · rintro ⟨h1, h2, h3⟩
        cases i with
        | zero => exact absurd h2 h
        | succ i => exact ⟨i, ih.2 ⟨by simpa using h1, h2, fun j hj => h3 (j + 1) (by omega)⟩, rfl⟩
theorem fk_none {k : P} {t : List P} : fk k t = none ↔ ∀ j, j < t.length → Kk t j ≠ k := by
  induction t with
  | nil => simp [fk]
  | cons b r ih =>
    by_cases h : b = k
    · simp only [fk, if_pos h]
      constructor
      · intro e; cases e
      · intro e; exact absurd h (e 0 (by simp))
    · simp only [fk, if_neg h, Option.map_eq_none_iff, ih]
      constructor
      · intro e j hj
        cases j with
        | zero => exact h
        | succ j => exact e j (by simpa using hj)
      · intro e j hj
        exact e (j + 1) (by simpa using hj)
/-! ### Who is above -/
/-- Those above, from n on: they are older. -/
def upF (fr : List Int) : Nat → Nat → List Nat
  | 0, _ => []
  | f + 1, n => if 0 ≤ Ii fr n ∧ Ii fr n < n then (Ii fr n).toNat :: upF fr f (Ii fr n).toNat else []
def up (fr : List Int) (n : Nat) : List Nat := upF fr n n
theorem upF_more {fr : List Int} : ∀ n f, n ≤ f → upF fr f n = upF fr n n := by
  intro n
  induction n using Nat.strongRecOn with
  | ind n ih =>
    intro f hf
    cases f with
    | zero =>
      obtain rfl : n = 0 := by omega
      rfl
    | succ f =>
      cases n with
      | zero =>
        show (if 0 ≤ Ii fr 0 ∧ Ii fr 0 < (0 : Nat) then (Ii fr 0).toNat :: upF fr f (Ii fr 0).toNat else []) = []
        rw [if_neg (by omega)]
      | succ n =>
        show (if 0 ≤ Ii fr (n + 1) ∧ Ii fr (n + 1) < (n + 1 : Nat) then (Ii fr (n + 1)).toNat :: upF fr f (Ii fr (n + 1)).toNat else []) = (if 0 ≤ Ii fr (n + 1) ∧ Ii fr (n + 1) < (n + 1 : Nat) then (Ii fr (n + 1)).toNat :: upF fr n (Ii fr (n + 1)).toNat else [])
        by_cases h : 0 ≤ Ii fr (n + 1) ∧ Ii fr (n + 1) < (n + 1 : Nat)
        · rw [if_pos h, if_pos h, ih _ (by omega) f (by omega), ih _ (by omega) n (by omega)]
        · rw [if_neg h, if_neg h]
theorem up_yes {fr : List Int} {n m : Nat} (h : Ii fr n = m) (hm : m < n) : up fr n = m :: up fr m := by
  cases n with
  | zero => omega
  | succ n =>
    show (if 0 ≤ Ii fr (n + 1) ∧ Ii fr (n + 1) < (n + 1 : Nat) then (Ii fr (n + 1)).toNat :: upF fr n (Ii fr (n + 1)).toNat else []) = m :: upF fr m m
    rw [if_pos (by omega), show (Ii fr (n + 1)).toNat = m by omega, upF_more m n (by omega)]
theorem up_no {fr : List Int} {n : Nat} (h : Ii fr n < 0 ∨ (n : Int) ≤ Ii fr n) : up fr n = [] := by
  cases n with
  | zero => rfl
  | succ n =>
    show (if 0 ≤ Ii fr (n + 1) ∧ Ii fr (n + 1) < (n + 1 : Nat) then (Ii fr (n + 1)).toNat :: upF fr n (Ii fr (n + 1)).toNat else []) = []
    rw [if_neg (by omega)]
theorem up_lt {fr : List Int} : ∀ n m, m ∈ up fr n → m < n := by
  intro n
  induction n using Nat.strongRecOn with
  | ind n ih =>
    intro m hm
    by_cases h : 0 ≤ Ii fr n ∧ Ii fr n < n
    · obtain ⟨u, hu⟩ : ∃ u : Nat, Ii fr n = u := ⟨(Ii fr n).toNat, by omega⟩
      rw [up_yes hu (by omega)] at hm
      rcases List.mem_cons.1 hm with rfl | hm
      · omega
      · have := ih u (by omega) m hm
        omega
    · rw [up_no (by omega)] at hm
      cases hm
theorem up_trans {fr : List Int} : ∀ n m j, m ∈ up fr n → j ∈ up fr m → j ∈ up fr n := by
  intro n
  induction n using Nat.strongRecOn with
  | ind n ih =>
    intro m j hm hj
    by_cases h : 0 ≤ Ii fr n ∧ Ii fr n < n
    · obtain ⟨u, hu⟩ : ∃ u : Nat, Ii fr n = u := ⟨(Ii fr n).toNat, by omega⟩
      rw [up_yes hu (by omega)] at hm ⊢
      rcases List.mem_cons.1 hm with rfl | hm
      · exact List.mem_cons_of_mem _ hj
      · exact List.mem_cons_of_mem _ (ih u (by omega) m j hm hj)
    · rw [up_no (by omega)] at hm
      cases hm
/-- One more at the end of from changes nothing of those that were there. -/
theorem up_app {fr : List Int} (v : Int) : ∀ n, n < fr.length → up (fr ++ [v]) n = up fr n := by
  intro n
  induction n using Nat.strongRecOn with
  | ind n ih =>
    intro hn
    have e : Ii (fr ++ [v]) n = Ii fr n := by simp [Ii, List.getD, List.getElem?_append_left hn]
    by_cases h : 0 ≤ Ii fr n ∧ Ii fr n < n
    · obtain ⟨u, hu⟩ : ∃ u : Nat, Ii fr n = u := ⟨(Ii fr n).toNat, by omega⟩
      rw [up_yes (e.trans hu) (by omega), up_yes hu (by omega), ih u (by omega) (by omega)]
    · rw [up_no (by rw [e]; omega), up_no (by omega)]
/-- Above, of whatever number. -/
def abv (fr : List Int) (x : Int) : List Int := if 0 ≤ x ∧ x < fr.length then (up fr x.toNat).map (fun n : Nat => (n : Int)) else []
/-- Who is in a slot. -/
def who (g : Gt) (k : P) : Option Int := (fk k g.ks).bind fun i => g.is[i]?
def whB (g : Gt) (k : P) : Bool := (who g k).isSome
def whI (g : Gt) (k : P) : Int := (who g k).getD 0
def dsG (g : Gt) (a b : P) : Bool := match who g a, who g b with
  | some x, some y => decide (y ∈ abv g.fr x)
  | _, _ => false

/-! ### Ghosts that may be -/
structure Ok (g : Gt) : Prop where
  len : g.ks.length = g.is.length
  max : g.fr.length ≤ 4096
  fro : ∀ i, i < g.fr.length → -1 ≤ Ii g.fr i ∧ Ii g.fr i < i
  key : ∀ i, i < g.ks.length → okK (Kk g.ks i) = true
  idr : ∀ i, i < g.ks.length → 0 ≤ Ii g.is i ∧ Ii g.is i < g.fr.length
  kun : ∀ i j, i < j → j < g.ks.length → Kk g.ks i ≠ Kk g.ks j
  iun : ∀ i j, i < j → j < g.ks.length → Ii g.is i ≠ Ii g.is j
theorem ok_nil : Ok g0 := ⟨rfl, by simp, fun i h => by simp at h, fun i h => by simp at h, fun i h => by simp at h, fun i j _ h => by simp at h, fun i j _ h => by simp at h⟩
def okB (g : Gt) : Bool := decide (g.ks.length = g.is.length ∧ g.fr.length ≤ 4096 ∧ (∀ i, i < g.fr.length → -1 ≤ Ii g.fr i ∧ Ii g.fr i < i) ∧ (∀ i, i < g.ks.length → okK (Kk g.ks i) = true) ∧ (∀ i, i < g.ks.length → 0 ≤ Ii g.is i ∧ Ii g.is i < g.fr.length) ∧ (∀ j, j < g.ks.length → ∀ i, i < j → Kk g.ks i ≠ Kk g.ks j) ∧ ∀ j, j < g.ks.length → ∀ i, i < j → Ii g.is i ≠ Ii g.is j)
theorem okB_iff {g : Gt} : okB g = true ↔ Ok g := by
  rw [okB, decide_eq_true_eq]
  exact ⟨fun ⟨a, b, c, d, e, f, h⟩ => ⟨a, b, c, d, e, fun i j x y => f j y i x, fun i j x y => h j y i x⟩, fun h => ⟨h.len, h.max, h.fro, h.key, h.idr, fun j y i x => h.kun i j x y, fun j y i x => h.iun i j x y⟩⟩
theorem okB_not {g : Gt} : okB g = false ↔ ¬ Ok g := by
  rw [← okB_iff]
  simp
/-- Numbers below n, no two alike, are at most n. -/
theorem pig : ∀ (n : Nat) (l : List Int), (∀ i, i < l.length → 0 ≤ Ii l i ∧ Ii l i < n) → (∀ i j, i < j → j < l.length → Ii l i ≠ Ii l j) → l.length ≤ n := by
  intro n
  induction n with
  | zero =>
    intro l h _
    rcases Nat.eq_zero_or_pos l.length with z | z
    · omega
    · have := h 0 z
      omega
  | succ n ih =>
    intro l h hu
    by_cases hn : ∃ p, p < l.length ∧ Ii l p = n
    · obtain ⟨p, hp, e⟩ := hn
      have hl : (l.eraseIdx p).length = l.length - 1 := List.length_eraseIdx_of_lt hp
      have hg : ∀ i, i < l.length - 1 → Ii (l.eraseIdx p) i = Ii l (if i < p then i else i + 1) := by
        intro i hi
        simp only [Ii, List.getD, List.getElem?_eraseIdx]
        split <;> rfl
      have := ih (l.eraseIdx p) (fun i hi => by
        rw [hl] at hi
        rw [hg i hi]
        have h1 := h (if i < p then i else i + 1) (by split <;> omega)
        have h2 : Ii l (if i < p then i else i + 1) ≠ n := by
          rw [← e]
          split
          · exact hu _ _ (by omega) hp
          · exact (hu p (i + 1) (by omega) (by omega)).symm
        omega) (fun i j hij hj => by
        rw [hl] at hj
        rw [hg i (by omega), hg j hj]
        refine hu _ _ ?_ (by split <;> omega)
        split <;> split <;> omega)
      omega
    · have := ih l (fun i hi => by
        have h1 := h i hi
        have h2 : Ii l i ≠ n := fun e => hn ⟨i, hi, e⟩
        omega) hu
      omega
theorem Ok.few {g : Gt} (h : Ok g) : g.ks.length ≤ g.fr.length := by
  rw [h.len]
  exact pig g.fr.length g.is (fun i hi => h.idr i (by rw [h.len]; exact hi)) (fun i j a b => h.iun i j a (by rw [h.len]; exact b))
end Go.Proofs.Ytcldnacpddebcaa.Gh
/- What befalls a ghost. Without any program. -/
namespace Go.Proofs.Ytcldnacpddebcaa.Gh
open Go.Proofs.Ytcldnacpddebcaa.Tr

/-! ### One more, one less, one other -/
theorem gd_app {α : Type} (l : List α) (x d : α) (j : Nat) : (l ++ [x]).getD j d = if j < l.length then l.getD j d else if j = l.length then x else d := by
  simp only [List.getD]
  rcases Nat.lt_trichotomy j l.length with h | h | h
  · rw [if_pos h, List.getElem?_append_left h]
  · rw [if_neg (by omega), if_pos h, h]
    simp
  · rw [if_neg (by omega), if_neg (by omega), List.getElem?_eq_none (by simp; omega)]
    rfl
theorem gd_set {α : Type} (l : List α) (i : Nat) (x d : α) (j : Nat) (hi : i < l.length) : (l.set i x).getD j d = if j = i then x else l.getD j d := by
  simp only [List.getD, List.getElem?_set]
  by_cases e : i = j
  · subst e
    simp [hi]
  · rw [if_neg e, if_neg (Ne.symm e)]
theorem gd_er {α : Type} (l : List α) (i : Nat) (d : α) (j : Nat) : (l.eraseIdx i).getD j d = if j < i then l.getD j d else l.getD (j + 1) d := by
  simp only [List.getD, List.getElem?_eraseIdx]
  split <;> rfl
theorem len_er {α : Type} {l : List α} {i : Nat} (hi : i < l.length) : (l.eraseIdx i).length + 1 = l.length := by
  rw [List.length_eraseIdx_of_lt hi]
  omega
theorem at_out {l : List P} {j : Nat} (h : l.length ≤ j) : Kk l j = (0, 0) := by simp [Kk, List.getD, List.getElem?_eq_none h]
/-! ### Keys -/
theorem fk_app {ks : List P} {k o : P} (hk : fk k ks = none) : fk o (ks ++ [k]) = if o = k then some ks.length else fk o ks := by
  by_cases e : o = k
  · subst e
    rw [if_pos rfl, fk_some]
    refine ⟨by simp, by simp [Kk], fun j hj => ?_⟩
    unfold Kk
    rw [gd_app, if_pos hj]
    exact fk_none.1 hk j hj
  · rw [if_neg e]
    cases h : fk o ks with
    | none =>
      refine fk_none.2 fun j hj => ?_
      unfold Kk
      rw [gd_app]
      split
      · exact fk_none.1 h j ‹_›
      · split
        · exact Ne.symm e
        · simp at hj; omega
    | some i =>
      obtain ⟨h1, h2, h3⟩ := fk_some.1 h
      refine fk_some.2 ⟨by simp; omega, ?_, fun j hj => ?_⟩
      · unfold Kk; rw [gd_app, if_pos h1]; exact h2
      · unfold Kk; rw [gd_app, if_pos (by omega)]; exact h3 j hj
theorem fk_one {ks : List P} (hu : ∀ i j, i < j → j < ks.length → Kk ks i ≠ Kk ks j) {i : Nat} (hi : i < ks.length) : fk (Kk ks i) ks = some i :=
  fk_some.2 ⟨hi, rfl, fun j hj => hu j i hj hi⟩
theorem fk_set {ks : List P} (hu : ∀ i j, i < j → j < ks.length → Kk ks i ≠ Kk ks j) {f k o : P} {i : Nat} (hf : fk f ks = some i) (hk : fk k ks = none) : fk o (ks.set i k) = if o = k then some i else if o = f then none else fk o ks := by
  obtain ⟨h1, h2, h3⟩ := fk_some.1 hf
  have hg : ∀ j, Kk (ks.set i k) j = if j = i then k else Kk ks j := fun j => gd_set ks i k (0, 0) j h1
  by_cases e : o = k
  · subst e
    rw [if_pos rfl]
    refine fk_some.2 ⟨by simpa using h1, by rw [hg, if_pos rfl], fun j hj => ?_⟩
    rw [hg, if_neg (by omega)]
    exact fk_none.1 hk j (by omega)
  · rw [if_neg e]
    by_cases e2 : o = f
    · subst e2
      rw [if_pos rfl]
      refine fk_none.2 fun j hj => ?_
      rw [hg]
      split
      · exact Ne.symm e
      · intro e3
        simp only [List.length_set] at hj
        rcases Nat.lt_trichotomy j i with q | q | q
        · exact h3 j q e3
        · contradiction
        · exact hu i j q hj (h2.trans e3.symm)
    · rw [if_neg e2]
      cases h : fk o ks with
      | none =>
        refine fk_none.2 fun j hj => ?_
        rw [hg]
        simp only [List.length_set] at hj
        split
        · exact Ne.symm e
        · exact fk_none.1 h j hj
      | some m =>
        obtain ⟨m1, m2, m3⟩ := fk_some.1 h
        refine fk_some.2 ⟨by simpa using m1, ?_, fun j hj => ?_⟩
        · rw [hg, if_neg (by rintro rfl; exact e2 (m2.symm.trans h2))]; exact m2
        · rw [hg]
          split
          · exact Ne.symm e
          · exact m3 j hj
theorem fk_er {ks : List P} (hu : ∀ i j, i < j → j < ks.length → Kk ks i ≠ Kk ks j) {k o : P} {i : Nat} (hk : fk k ks = some i) : fk o (ks.eraseIdx i) = if o = k then none else (fk o ks).map fun j => if j < i then j else j - 1 := by
  obtain ⟨h1, h2, h3⟩ := fk_some.1 hk
  have hg : ∀ j, Kk (ks.eraseIdx i) j = Kk ks (if j < i then j else j + 1) := fun j => by
    unfold Kk
    rw [gd_er]
    split <;> rfl
  have hl := len_er h1
  by_cases e : o = k
  · subst e
    rw [if_pos rfl]
    refine fk_none.2 fun j hj => ?_
    rw [hg]
    intro e3
    split at e3
    · exact h3 j ‹_› e3
    · exact hu i (j + 1) (by omega) (by omega) (h2.trans e3.symm)
  · rw [if_neg e]
    cases h : fk o ks with
    | none =>
      refine fk_none.2 fun j hj => ?_
      rw [hg]
      exact fk_none.1 h _ (by split <;> omega)
    | some m =>
      obtain ⟨m1, m2, m3⟩ := fk_some.1 h
      have hm : m ≠ i := by rintro rfl; exact e (m2.symm.trans h2)
      show fk o (ks.eraseIdx i) = some (if m < i then m else m - 1)
      refine fk_some.2 ⟨?_, ?_, fun j hj => ?_⟩
      · split <;> omega
      · rw [hg]
        by_cases q : m < i
        · rw [if_pos q, if_pos q]; exact m2
        · rw [if_neg q, if_neg (by omega), show m - 1 + 1 = m by omega]; exact m2
      · rw [hg]
        exact m3 _ (by split at hj <;> split <;> omega)
/-! ### What may be stays so -/
theorem ok_born {g : Gt} (h : Ok g) {k : P} {v : Int} (hk : okK k = true) (hn : fk k g.ks = none) (hm : g.fr.length < 4096) (hv : -1 ≤ v ∧ v < g.fr.length) : Ok ⟨g.ks ++ [k], g.is ++ [(g.fr.length : Int)], g.fr ++ [v]⟩ := by
  refine ⟨by simp [h.len], by simp; omega, fun i hi => ?_, fun i hi => ?_, fun i hi => ?_, fun i j hij hj => ?_, fun i j hij hj => ?_⟩
  · simp only [List.length_append, List.length_cons, List.length_nil] at hi
    show -1 ≤ (g.fr ++ [v]).getD i 0 ∧ (g.fr ++ [v]).getD i 0 < i
    rw [gd_app]
    split
    · exact h.fro i ‹_›
    · rw [if_pos (by omega)]; omega
  · simp only [List.length_append, List.length_cons, List.length_nil] at hi
    show okK ((g.ks ++ [k]).getD i (0, 0)) = true
    rw [gd_app]
    split
    · exact h.key i ‹_›
    · rw [if_pos (by omega)]; exact hk
  · simp only [List.length_append, List.length_cons, List.length_nil] at hi ⊢
    show 0 ≤ (g.is ++ [(g.fr.length : Int)]).getD i 0 ∧ (g.is ++ [(g.fr.length : Int)]).getD i 0 < _
    rw [gd_app]
    split
    · have : 0 ≤ g.is.getD i 0 ∧ g.is.getD i 0 < (g.fr.length : Int) := h.idr i (by rw [h.len]; assumption)
      omega
    · rw [if_pos (by have := h.len; omega)]; omega
  · simp only [List.length_append, List.length_cons, List.length_nil] at hj
    show (g.ks ++ [k]).getD i (0, 0) ≠ (g.ks ++ [k]).getD j (0, 0)
    rw [gd_app, gd_app, if_pos (by omega)]
    split
    · exact h.kun i j hij ‹_›
    · rw [if_pos (by omega)]; exact fk_none.1 hn i (by omega)
  · simp only [List.length_append, List.length_cons, List.length_nil] at hj
    have hl := h.len
    show (g.is ++ [(g.fr.length : Int)]).getD i 0 ≠ (g.is ++ [(g.fr.length : Int)]).getD j 0
    rw [gd_app, gd_app, if_pos (by omega)]
    split
    · exact h.iun i j hij (by omega)
    · rw [if_pos (by omega)]
      have := h.idr i (by omega)
      show Ii g.is i ≠ _
      omega
theorem ok_move {g : Gt} (h : Ok g) {f k : P} {i : Nat} (hk : okK k = true) (hf : fk f g.ks = some i) (hn : fk k g.ks = none) : Ok ⟨g.ks.set i k, g.is, g.fr⟩ := by
  obtain ⟨h1, _, _⟩ := fk_some.1 hf
  have hg : ∀ j, Kk (g.ks.set i k) j = if j = i then k else Kk g.ks j := fun j => gd_set g.ks i k (0, 0) j h1
  refine ⟨by simp [h.len], h.max, h.fro, fun j hj => ?_, fun j hj => h.idr j (by simpa using hj), fun a b hab hb => ?_, fun a b hab hb => h.iun a b hab (by simpa using hb)⟩
  · show okK (Kk (g.ks.set i k) j) = true
    rw [hg]
    split
    · exact hk
    · exact h.key j (by simpa using hj)
  · show Kk (g.ks.set i k) a ≠ Kk (g.ks.set i k) b
    simp only [List.length_set] at hb
    rw [hg, hg]
    split
    · rw [if_neg (by omega)]; exact (fk_none.1 hn b hb).symm
    · split
      · exact fk_none.1 hn a (by omega)
      · exact h.kun a b hab hb
theorem ok_die {g : Gt} (h : Ok g) {k : P} {i : Nat} (hk : fk k g.ks = some i) : Ok ⟨g.ks.eraseIdx i, g.is.eraseIdx i, g.fr⟩ := by
  obtain ⟨h1, _, _⟩ := fk_some.1 hk
  have hl1 := len_er h1
  have hl2 := len_er (l := g.is) (i := i) (by rw [← h.len]; exact h1)
  have hl := h.len
  have hg : ∀ j, Kk (g.ks.eraseIdx i) j = Kk g.ks (if j < i then j else j + 1) := fun j => by
    unfold Kk; rw [gd_er]; split <;> rfl
  have hi : ∀ j, Ii (g.is.eraseIdx i) j = Ii g.is (if j < i then j else j + 1) := fun j => by
    unfold Ii; rw [gd_er]; split <;> rfl
  refine ⟨by show (g.ks.eraseIdx i).length = (g.is.eraseIdx i).length; omega, h.max, h.fro, fun j hj => ?_, fun j hj => ?_, fun a b hab hb => ?_, fun a b hab hb => ?_⟩
  · show okK (Kk (g.ks.eraseIdx i) j) = true
    have hj : j < (g.ks.eraseIdx i).length := hj
    rw [hg]
    exact h.key _ (by split <;> omega)
  · show 0 ≤ Ii (g.is.eraseIdx i) j ∧ Ii (g.is.eraseIdx i) j < g.fr.length
    have hj : j < (g.ks.eraseIdx i).length := hj
    rw [hi]
    exact h.idr _ (by split <;> omega)
  · show Kk (g.ks.eraseIdx i) a ≠ Kk (g.ks.eraseIdx i) b
    have hb : b < (g.ks.eraseIdx i).length := hb
    rw [hg, hg]
    exact h.kun _ _ (by split <;> split <;> omega) (by split <;> omega)
  · show Ii (g.is.eraseIdx i) a ≠ Ii (g.is.eraseIdx i) b
    have hb : b < (g.ks.eraseIdx i).length := hb
    rw [hi, hi]
    exact h.iun _ _ (by split <;> split <;> omega) (by split <;> omega)
/-! ### Who is in a slot -/
theorem who_at {g : Gt} (h : Ok g) {k : P} {i : Nat} (hk : fk k g.ks = some i) : who g k = some (Ii g.is i) := by
  have h1 := (fk_some.1 hk).1
  have hl := h.len
  simp [who, hk, Ii, List.getD, show i < g.is.length by omega]
theorem who_no {g : Gt} {k : P} (hk : fk k g.ks = none) : who g k = none := by simp [who, hk]
theorem who_fk {g : Gt} (h : Ok g) {k : P} {x : Int} (hw : who g k = some x) : ∃ i, fk k g.ks = some i ∧ x = Ii g.is i ∧ 0 ≤ x ∧ x < g.fr.length := by
  cases hk : fk k g.ks with
  | none => rw [who_no hk] at hw; cases hw
  | some i =>
    rw [who_at h hk] at hw
    cases hw
    exact ⟨i, rfl, rfl, h.idr i (fk_some.1 hk).1⟩
theorem who_inj {g : Gt} (h : Ok g) {a b : P} {x : Int} (ha : who g a = some x) (hb : who g b = some x) : a = b := by
  obtain ⟨i, hi, ex, _⟩ := who_fk h ha
  obtain ⟨j, hj, ey, _⟩ := who_fk h hb
  obtain ⟨i1, i2, _⟩ := fk_some.1 hi
  obtain ⟨j1, j2, _⟩ := fk_some.1 hj
  have : i = j := by
    rcases Nat.lt_trichotomy i j with q | q | q
    · exact absurd (ex.symm.trans ey) (h.iun i j q j1)
    · exact q
    · exact absurd (ey.symm.trans ex) (h.iun j i q i1)
  subst this
  exact i2.symm.trans j2
theorem who_born {g : Gt} (h : Ok g) {k : P} {v : Int} (hn : fk k g.ks = none) (o : P) : who ⟨g.ks ++ [k], g.is ++ [(g.fr.length : Int)], g.fr ++ [v]⟩ o = if o = k then some (g.fr.length : Int) else who g o := by
  have hl := h.len
  unfold who
  simp only [fk_app hn]
  by_cases e : o = k
  · rw [if_pos e, if_pos e]
    simp [hl]
  · rw [if_neg e, if_neg e]
    cases ho : fk o g.ks with
    | none => rfl
    | some i =>
      have := (fk_some.1 ho).1
      simp only [Option.bind_some]
      rw [List.getElem?_append_left (by omega)]
theorem who_move {g : Gt} (h : Ok g) {f k : P} {i : Nat} (hf : fk f g.ks = some i) (hn : fk k g.ks = none) (o : P) : who ⟨g.ks.set i k, g.is, g.fr⟩ o = if o = k then who g f else if o = f then none else who g o := by
  unfold who
  simp only [fk_set h.kun hf hn, hf]
  by_cases e : o = k
  · rw [if_pos e, if_pos e]
  · rw [if_neg e, if_neg e]
    by_cases e2 : o = f
    · rw [if_pos e2, if_pos e2]; rfl
    · rw [if_neg e2, if_neg e2]
theorem who_die {g : Gt} (h : Ok g) {k : P} {i : Nat} (hk : fk k g.ks = some i) (o : P) : who ⟨g.ks.eraseIdx i, g.is.eraseIdx i, g.fr⟩ o = if o = k then none else who g o := by
  obtain ⟨h1, h2, h3⟩ := fk_some.1 hk
  unfold who
  simp only [fk_er h.kun hk]
  by_cases e : o = k
  · rw [if_pos e, if_pos e]; rfl
  · rw [if_neg e, if_neg e]
    cases ho : fk o g.ks with
    | none => rfl
    | some m =>
      have hm : m ≠ i := by rintro rfl; exact e ((fk_some.1 ho).2.1.symm.trans h2)
      simp only [Option.map_some, Option.bind_some, List.getElem?_eraseIdx]
      by_cases q : m < i
      · rw [if_pos q, if_pos q]
      · rw [if_neg q, if_neg (by omega), show m - 1 + 1 = m by omega]
end Go.Proofs.Ytcldnacpddebcaa.Gh
/- Who descends from whom, and what befalls: what stays. Without any program. -/
namespace Go.Proofs.Ytcldnacpddebcaa.Gh
open Go.Proofs.Ytcldnacpddebcaa.Tr

theorem mem_abv {fr : List Int} {x y : Int} (hx : 0 ≤ x ∧ x < fr.length) : y ∈ abv fr x ↔ ∃ n m : Nat, x = n ∧ y = m ∧ m ∈ up fr n := by
  unfold abv
  rw [if_pos hx, List.mem_map]
  constructor
  · rintro ⟨m, hm, rfl⟩
    exact ⟨x.toNat, m, by omega, rfl, hm⟩
  · rintro ⟨n, m, rfl, rfl, h⟩
    exact ⟨m, h, rfl⟩
theorem abv_app {fr : List Int} (v : Int) {x : Int} (hx : 0 ≤ x ∧ x < fr.length) : abv (fr ++ [v]) x = abv fr x := by
  unfold abv
  rw [if_pos hx, if_pos (by simp; omega), up_app v x.toNat (by omega)]
theorem abv_new {fr : List Int} {v : Int} (hv : 0 ≤ v ∧ v < fr.length) : abv (fr ++ [v]) (fr.length : Int) = v :: abv fr v := by
  obtain ⟨m, rfl⟩ : ∃ m : Nat, v = m := ⟨v.toNat, by omega⟩
  have e : Ii (fr ++ [(m : Int)]) fr.length = m := by
    unfold Ii
    rw [gd_app, if_neg (by omega), if_pos rfl]
  unfold abv
  rw [if_pos (by simp; omega), if_pos hv]
  simp only [Int.toNat_natCast]
  rw [up_yes e (by omega), up_app _ m (by omega), List.map_cons]
theorem abv_none {fr : List Int} {v : Int} (hv : v < 0) : abv (fr ++ [v]) (fr.length : Int) = [] := by
  have e : Ii (fr ++ [v]) fr.length = v := by
    unfold Ii
    rw [gd_app, if_neg (by omega), if_pos rfl]
  unfold abv
  rw [if_pos (by simp; omega)]
  simp only [Int.toNat_natCast]
  rw [up_no (by rw [e]; omega)]
  rfl
theorem ds_iff {g : Gt} {a b : P} : dsG g a b = true ↔ ∃ x y, who g a = some x ∧ who g b = some y ∧ y ∈ abv g.fr x := by
  unfold dsG
  cases ha : who g a with
  | none => simp
  | some x =>
    cases hb : who g b with
    | none => simp
    | some y => simp
theorem ds_no {g : Gt} {a b : P} (h : ¬ ∃ x y, who g a = some x ∧ who g b = some y ∧ y ∈ abv g.fr x) : dsG g a b = false := by
  cases q : dsG g a b with
  | false => rfl
  | true => exact absurd (ds_iff.1 q) h
/-! ### An order -/
theorem gds_irr {g : Gt} (h : Ok g) (a : P) : dsG g a a = false := by
  refine ds_no fun ⟨x, y, h1, h2, h3⟩ => ?_
  rw [h1] at h2
  cases h2
  obtain ⟨_, _, _, hr⟩ := who_fk h h1
  obtain ⟨n, m, e1, e2, hm⟩ := (mem_abv hr).1 h3
  have := up_lt n m hm
  omega
theorem gds_anti {g : Gt} (h : Ok g) {a b : P} (hd : dsG g a b = true) : dsG g b a = false := by
  refine ds_no fun ⟨y, x, h1, h2, h3⟩ => ?_
  obtain ⟨x', y', k1, k2, k3⟩ := ds_iff.1 hd
  rw [h2] at k1; rw [h1] at k2
  cases k1; cases k2
  obtain ⟨_, _, _, hr⟩ := who_fk h h1
  obtain ⟨_, _, _, hs⟩ := who_fk h h2
  obtain ⟨n, m, e1, e2, hm⟩ := (mem_abv hr).1 h3
  obtain ⟨n', m', e3, e4, hm'⟩ := (mem_abv hs).1 k3
  have := up_lt n m hm
  have := up_lt n' m' hm'
  omega
theorem gds_trans {g : Gt} (h : Ok g) {a b c : P} (h1 : dsG g a b = true) (h2 : dsG g b c = true) : dsG g a c = true := by
  obtain ⟨x, y, a1, a2, a3⟩ := ds_iff.1 h1
  obtain ⟨y', z, b1, b2, b3⟩ := ds_iff.1 h2
  rw [a2] at b1
  cases b1
  obtain ⟨_, _, _, hr⟩ := who_fk h a1
  obtain ⟨_, _, _, hs⟩ := who_fk h a2
  obtain ⟨n, m, e1, e2, hm⟩ := (mem_abv hr).1 a3
  obtain ⟨n', m', e3, e4, hm'⟩ := (mem_abv hs).1 b3
  have : n' = m := by omega
  subst this
  exact ds_iff.2 ⟨x, z, a1, b2, (mem_abv hr).2 ⟨n, m', e1, e4, up_trans n n' m' hm hm'⟩⟩
/-! ### What stays -/
theorem ds_root {g : Gt} (h : Ok g) {k : P} (hn : fk k g.ks = none) (a b : P) : dsG ⟨g.ks ++ [k], g.is ++ [(g.fr.length : Int)], g.fr ++ [-1]⟩ a b = if a = k ∨ b = k then false else dsG g a b := by
  by_cases hb : b = k
  · rw [if_pos (.inr hb)]
    refine ds_no fun ⟨x, y, h1, h2, h3⟩ => ?_
    rw [who_born h hn] at h1 h2
    rw [if_pos hb] at h2
    cases h2
    by_cases ha : a = k
    · rw [if_pos ha] at h1
      cases h1
      simp only [abv_none (show (-1 : Int) < 0 by omega)] at h3
      cases h3
    · rw [if_neg ha] at h1
      obtain ⟨_, _, _, hr⟩ := who_fk h h1
      simp only [abv_app (-1) hr] at h3
      obtain ⟨n, m, e1, e2, hm⟩ := (mem_abv hr).1 h3
      have := up_lt n m hm
      omega
  · by_cases ha : a = k
    · rw [if_pos (.inl ha)]
      refine ds_no fun ⟨x, y, h1, h2, h3⟩ => ?_
      rw [who_born h hn, if_pos ha] at h1
      cases h1
      simp only [abv_none (show (-1 : Int) < 0 by omega)] at h3
      cases h3
    · rw [if_neg (by rintro (e | e); exact ha e; exact hb e)]
      unfold dsG
      rw [who_born h hn, who_born h hn, if_neg ha, if_neg hb]
      cases h1 : who g a with
      | none => rfl
      | some x =>
        cases h2 : who g b with
        | none => rfl
        | some y =>
          obtain ⟨_, _, _, hr⟩ := who_fk h h1
          simp only [abv_app (-1) hr]
theorem ds_der {g : Gt} (h : Ok g) {f k : P} {i : Nat} (hf : fk f g.ks = some i) (hn : fk k g.ks = none) (a b : P) : dsG ⟨g.ks ++ [k], g.is ++ [(g.fr.length : Int)], g.fr ++ [Ii g.is i]⟩ a b = if b = k then false else if a = k then decide (b = f) || dsG g f b else dsG g a b := by
  have hwf := who_at h hf
  have hv := h.idr i (fk_some.1 hf).1
  by_cases hb : b = k
  · rw [if_pos hb]
    refine ds_no fun ⟨x, y, h1, h2, h3⟩ => ?_
    rw [who_born h hn] at h1 h2
    rw [if_pos hb] at h2
    cases h2
    by_cases ha : a = k
    · rw [if_pos ha] at h1
      cases h1
      simp only [abv_new hv] at h3
      rcases List.mem_cons.1 h3 with e | e
      · omega
      · obtain ⟨n, m, e1, e2, hm⟩ := (mem_abv hv).1 e
        have := up_lt n m hm
        omega
    · rw [if_neg ha] at h1
      obtain ⟨_, _, _, hr⟩ := who_fk h h1
      simp only [abv_app _ hr] at h3
      obtain ⟨n, m, e1, e2, hm⟩ := (mem_abv hr).1 h3
      have := up_lt n m hm
      omega
  · rw [if_neg hb]
    by_cases ha : a = k
    · rw [if_pos ha, Bool.eq_iff_iff, ds_iff]
      constructor
      · rintro ⟨x, y, h1, h2, h3⟩
        rw [who_born h hn, if_pos ha] at h1
        cases h1
        rw [who_born h hn, if_neg hb] at h2
        simp only [abv_new hv] at h3
        rcases List.mem_cons.1 h3 with e | e
        · rw [e] at h2
          rw [who_inj h h2 hwf]
          simp
        · rw [Bool.or_eq_true]
          exact .inr (ds_iff.2 ⟨_, y, hwf, h2, e⟩)
      · intro hh
        rw [Bool.or_eq_true] at hh
        rcases hh with hh | hh
        · have e : b = f := by simpa using hh
          refine ⟨_, Ii g.is i, by rw [who_born h hn, if_pos ha], by rw [who_born h hn, if_neg hb, e]; exact hwf, ?_⟩
          simp only [abv_new hv]
          exact List.mem_cons_self
        · obtain ⟨x, y, h1, h2, h3⟩ := ds_iff.1 hh
          rw [hwf] at h1
          cases h1
          refine ⟨_, y, by rw [who_born h hn, if_pos ha], by rw [who_born h hn, if_neg hb]; exact h2, ?_⟩
          simp only [abv_new hv]
          exact List.mem_cons_of_mem _ h3
    · rw [if_neg ha]
      unfold dsG
      rw [who_born h hn, who_born h hn, if_neg ha, if_neg hb]
      cases h1 : who g a with
      | none => rfl
      | some x =>
        cases h2 : who g b with
        | none => rfl
        | some y =>
          obtain ⟨_, _, _, hr⟩ := who_fk h h1
          simp only [abv_app _ hr]
theorem ds_gone {g : Gt} {a b : P} (h : who g a = none ∨ who g b = none) : dsG g a b = false :=
  ds_no fun ⟨x, y, h1, h2, _⟩ => by
    rcases h with h | h
    · rw [h] at h1; cases h1
    · rw [h] at h2; cases h2
theorem ds_die {g : Gt} (h : Ok g) {k : P} {i : Nat} (hk : fk k g.ks = some i) (a b : P) : dsG ⟨g.ks.eraseIdx i, g.is.eraseIdx i, g.fr⟩ a b = if a = k ∨ b = k then false else dsG g a b := by
  by_cases hab : a = k ∨ b = k
  · rw [if_pos hab]
    exact ds_gone (hab.elim (fun e => .inl (by rw [who_die h hk, if_pos e])) (fun e => .inr (by rw [who_die h hk, if_pos e])))
  · rw [if_neg hab]
    unfold dsG
    rw [who_die h hk, who_die h hk, if_neg (fun e => hab (.inl e)), if_neg (fun e => hab (.inr e))]
theorem ds_move {g : Gt} (h : Ok g) {f k : P} {i : Nat} (hf : fk f g.ks = some i) (hn : fk k g.ks = none) {a b : P} (ha : a ≠ k) (hb : b ≠ k) : dsG ⟨g.ks.set i k, g.is, g.fr⟩ (if a = f then k else a) (if b = f then k else b) = dsG g a b := by
  have hfk : f ≠ k := by
    rintro rfl
    rw [hf] at hn
    cases hn
  have e : ∀ o, o ≠ k → who ⟨g.ks.set i k, g.is, g.fr⟩ (if o = f then k else o) = who g o := fun o ho => by
    rw [who_move h hf hn]
    by_cases e : o = f
    · rw [if_pos e, if_pos rfl, e]
    · rw [if_neg e, if_neg ho, if_neg e]
  unfold dsG
  rw [e a ha, e b hb]
/-! ### Add, Run -/
def two (b : Bi) : Bool := decide (b.kind = 2 ∨ b.kind = 3)
def hasG (g : Gt) (k : P) : Bool := (fk k g.ks).isSome
def pk (g : Gt) (k : P) : Nat := (fk k g.ks).getD 0
def adE (g : Gt) (b : Bi) : Int :=
  if !okB g || (decide (b.kind < 1) || (decide (4 < b.kind) || (!okK b.key || (two b && !okK b.fm)))) then 2
  else if (two b && !hasG g b.fm) || (decide (b.kind = 4) && !hasG g b.key) then 7
  else if decide (b.kind ≠ 4) && hasG g b.key then 8
  else if decide (b.kind = 1 ∨ b.kind = 2) && decide (4096 ≤ g.fr.length) then 6 else 0
def adA (g : Gt) (b : Bi) : Gt :=
  if adE g b ≠ 0 then g
  else if b.kind = 3 then ⟨g.ks.set (pk g b.fm) b.key, g.is, g.fr⟩
  else if b.kind = 4 then ⟨g.ks.eraseIdx (pk g b.key), g.is.eraseIdx (pk g b.key), g.fr⟩
  else ⟨g.ks ++ [b.key], g.is ++ [(g.fr.length : Int)], g.fr ++ [if b.kind = 2 then Ii g.is (pk g b.fm) else -1]⟩
/-- What a thing that befell has done. -/
def Did (g : Gt) (b : Bi) (h : Gt) : Prop :=
  (b.kind = 1 ∧ fk b.key g.ks = none ∧ h = ⟨g.ks ++ [b.key], g.is ++ [(g.fr.length : Int)], g.fr ++ [-1]⟩ ∧ g.fr.length < 4096) ∨
  (b.kind = 2 ∧ ∃ i : Nat, fk b.fm g.ks = some i ∧ fk b.key g.ks = none ∧ h = ⟨g.ks ++ [b.key], g.is ++ [(g.fr.length : Int)], g.fr ++ [Ii g.is i]⟩ ∧ g.fr.length < 4096) ∨
  (b.kind = 3 ∧ ∃ i : Nat, fk b.fm g.ks = some i ∧ fk b.key g.ks = none ∧ h = ⟨g.ks.set i b.key, g.is, g.fr⟩) ∨
  (b.kind = 4 ∧ ∃ i : Nat, fk b.key g.ks = some i ∧ h = ⟨g.ks.eraseIdx i, g.is.eraseIdx i, g.fr⟩)
theorem has_i {g : Gt} {k : P} (h : hasG g k = true) : ∃ i, fk k g.ks = some i := Option.isSome_iff_exists.1 h
theorem has_n {g : Gt} {k : P} (h : hasG g k = false) : fk k g.ks = none := by simpa [hasG] using h
theorem pk_of {g : Gt} {k : P} {i : Nat} (h : fk k g.ks = some i) : pk g k = i := by simp [pk, h]
/-- ADD, WHERE IT IS NOT REFUSED. -/
theorem ad_did {g : Gt} {b : Bi} (h : adE g b = 0) : Ok g ∧ okK b.key = true ∧ Did g b (adA g b) := by
  have hA : adA g b = if b.kind = 3 then ⟨g.ks.set (pk g b.fm) b.key, g.is, g.fr⟩ else if b.kind = 4 then ⟨g.ks.eraseIdx (pk g b.key), g.is.eraseIdx (pk g b.key), g.fr⟩ else ⟨g.ks ++ [b.key], g.is ++ [(g.fr.length : Int)], g.fr ++ [if b.kind = 2 then Ii g.is (pk g b.fm) else -1]⟩ := by
    unfold adA
    rw [if_neg (by simp [h])]
  unfold adE at h
  split at h
  · cases h
  rename_i c1
  split at h
  · cases h
  rename_i c2
  split at h
  · cases h
  rename_i c3
  split at h
  · cases h
  rename_i c4
  simp only [Bool.or_eq_true, not_or, Bool.not_eq_true, Bool.not_eq_false', Bool.and_eq_true, not_and, decide_eq_true_eq] at c1 c2 c3 c4
  obtain ⟨o1, o2, o3, o4, o5⟩ := c1
  refine ⟨okB_iff.1 o1, o4, ?_⟩
  have hk : b.kind = 1 ∨ b.kind = 2 ∨ b.kind = 3 ∨ b.kind = 4 := by omega
  rcases hk with hk | hk | hk | hk
  · have hn := has_n (g := g) (k := b.key) (c3 (by omega))
    rw [if_neg (by omega), if_neg (by omega), if_neg (by omega)] at hA
    exact .inl ⟨hk, hn, hA, by have := c4 (by omega); omega⟩
  · have hn := has_n (g := g) (k := b.key) (c3 (by omega))
    obtain ⟨i, hi⟩ := has_i (g := g) (k := b.fm) (c2.1 (by simp [two, hk]))
    rw [if_neg (by omega), if_neg (by omega), if_pos hk, pk_of hi] at hA
    exact .inr (.inl ⟨hk, i, hi, hn, hA, by have := c4 (by omega); omega⟩)
  · have hn := has_n (g := g) (k := b.key) (c3 (by omega))
    obtain ⟨i, hi⟩ := has_i (g := g) (k := b.fm) (c2.1 (by simp [two, hk]))
    rw [if_pos hk, pk_of hi] at hA
    exact .inr (.inr (.inl ⟨hk, i, hi, hn, hA⟩))
  · obtain ⟨i, hi⟩ := has_i (g := g) (k := b.key) (c2.2 hk)
    rw [if_neg (by omega), if_pos hk, pk_of hi] at hA
    exact .inr (.inr (.inr ⟨hk, i, hi, hA⟩))
theorem ad_ok {g : Gt} (h : Ok g) (b : Bi) : Ok (adA g b) := by
  by_cases e : adE g b = 0
  · obtain ⟨_, hk, hd⟩ := ad_did e
    rcases hd with ⟨_, hn, e, hm⟩ | ⟨_, i, hf, hn, e, hm⟩ | ⟨_, i, hf, hn, e⟩ | ⟨_, i, hf, e⟩
    · rw [e]; exact ok_born h hk hn hm (by omega)
    · rw [e]; exact ok_born h hk hn hm (by have := h.idr i (fk_some.1 hf).1; omega)
    · rw [e]; exact ok_move h hk hf hn
    · rw [e]; exact ok_die h hf
  · unfold adA
    rw [if_pos e]
    exact h
/-- Run: the ghost, and how many were passed over. -/
def rnA (l : List Bi) : Gt := l.foldl adA g0
def rnF (g : Gt) : List Bi → Nat
  | [] => 0
  | b :: r => (if adE g b ≠ 0 then 1 else 0) + rnF (adA g b) r
def rnN (l : List Bi) : Nat := rnF g0 l
theorem fold_ok (l : List Bi) : ∀ g, Ok g → Ok (l.foldl adA g) := by
  induction l with
  | nil => exact fun g h => h
  | cons b r ih => exact fun g h => ih _ (ad_ok h b)
theorem rn_ok (l : List Bi) : Ok (rnA l) := fold_ok l g0 ok_nil
theorem rn_snoc (l : List Bi) (b : Bi) : rnA (l ++ [b]) = adA (rnA l) b := by simp [rnA]
theorem rnF_app (l m : List Bi) : ∀ g, rnF g (l ++ m) = rnF g l + rnF (l.foldl adA g) m := by
  induction l with
  | nil => intro g; simp [rnF]
  | cons b r ih => intro g; simp only [List.cons_append, rnF, List.foldl_cons, ih]; omega
theorem rnN_snoc (l : List Bi) (b : Bi) : rnN (l ++ [b]) = rnN l + if adE (rnA l) b ≠ 0 then 1 else 0 := by
  unfold rnN
  rw [rnF_app]
  rfl
end Go.Proofs.Ytcldnacpddebcaa.Gh
/- Who is below whom: the order of a tree (P13.4, P13.6). Without any program. -/
namespace Go.Proofs.Ytcldnacpddebcaa.Tr

/-- How many in front are deeper than d. -/
def cn (d : Int) : List Br → Nat
  | [] => 0
  | b :: r => if d < b.2.1 then cn d r + 1 else 0
theorem cn_iff {d : Int} {l : List Br} {n : Nat} : n < cn d l ↔ (n < l.length ∧ ∀ m, m ≤ n → d < D l m) := by
  induction l generalizing n with
  | nil => simp [cn]
  | cons b r ih =>
    by_cases h : d < b.2.1
    · simp only [cn, if_pos h]
      cases n with
      | zero =>
        refine ⟨fun _ => ⟨by simp, fun m hm => ?_⟩, fun _ => by omega⟩
        obtain rfl : m = 0 := by omega
        exact h
      | succ n =>
        rw [Nat.add_lt_add_iff_right, ih]
        constructor
        · rintro ⟨h1, h2⟩
          refine ⟨by simpa using h1, fun m hm => ?_⟩
          cases m with
          | zero => exact h
          | succ m => exact h2 m (by omega)
        · rintro ⟨h1, h2⟩
          exact ⟨by simpa using h1, fun m hm => h2 (m + 1) (by omega)⟩
    · simp only [cn, if_neg h]
      constructor
      · intro q; omega
      · rintro ⟨_, h2⟩
        exact absurd (h2 0 (by omega)) h
theorem cn_le (d : Int) (l : List Br) : cn d l ≤ l.length := by
  rcases Nat.eq_zero_or_pos (cn d l) with h | h
  · omega
  · have := (cn_iff.1 (show cn d l - 1 < cn d l by omega)).1
    omega
/-- How many are below the place i. -/
def ct (t : List Br) (i : Nat) : Nat := cn (D t i) (t.drop (i + 1))
theorem D_drop (t : List Br) (i m : Nat) : D (t.drop i) m = D t (i + m) := by simp [D, List.getD, List.getElem?_drop]
theorem Ky_drop (t : List Br) (i m : Nat) : Ky (t.drop i) m = Ky t (i + m) := by simp [Ky, List.getD, List.getElem?_drop]
/-- The place j is below the place i. -/
def Ds (t : List Br) (i j : Nat) : Prop := i < j ∧ j < t.length ∧ ∀ m, i < m → m ≤ j → D t i < D t m
theorem ds_ct {t : List Br} {i j : Nat} : Ds t i j ↔ (i < j ∧ j - i - 1 < ct t i) := by
  unfold ct
  rw [cn_iff]
  constructor
  · rintro ⟨h1, h2, h3⟩
    refine ⟨h1, by simp; omega, fun m hm => ?_⟩
    rw [D_drop]
    exact h3 _ (by omega) (by omega)
  · rintro ⟨h1, h2, h3⟩
    refine ⟨h1, by simp at h2; omega, fun m hm hj => ?_⟩
    have := h3 (m - i - 1) (by omega)
    rw [D_drop, show i + 1 + (m - i - 1) = m by omega] at this
    exact this
/-- Those below a key. -/
def blL (t : List Br) (k : P) : List P := match fd k t with | none => [] | some i => ((t.drop (i + 1)).take (ct t i)).map (·.1)
theorem mem_bl {t : List Br} {a b : P} : a ∈ blL t b ↔ ∃ i j, fd b t = some i ∧ Ds t i j ∧ Ky t j = a := by
  unfold blL
  cases h : fd b t with
  | none => simp
  | some i =>
    simp only [Option.some.injEq, exists_and_left, exists_eq_left']
    rw [List.mem_map]
    constructor
    · rintro ⟨x, hx, rfl⟩
      obtain ⟨n, hn, e⟩ := List.getElem_of_mem hx
      simp only [List.length_take] at hn
      refine ⟨i + 1 + n, ds_ct.2 ⟨by omega, by omega⟩, ?_⟩
      rw [List.getElem_take, List.getElem_drop] at e
      have hl : i + 1 + n < t.length := by have := hn; simp at this; omega
      simp [Ky, List.getD, hl, e]
    · rintro ⟨j, hd, rfl⟩
      obtain ⟨h1, h2⟩ := ds_ct.1 hd
      have hl := hd.2.1
      refine ⟨t[j], ?_, by simp [Ky, List.getD, hl]⟩
      rw [List.mem_iff_getElem]
      refine ⟨j - i - 1, by simp; omega, ?_⟩
      rw [List.getElem_take, List.getElem_drop]
      congr 1
      omega
def dsB (t : List Br) (a b : P) : Bool := decide (a ∈ blL t b)
theorem len_bl {t : List Br} {k : P} {i : Nat} (h : fd k t = some i) : (blL t k).length = ct t i := by
  unfold blL
  rw [h]
  simp only [List.length_map, List.length_take]
  have := cn_le (D t i) (t.drop (i + 1))
  unfold ct at *
  omega
/-- In a tree a key has one place. -/
theorem fd_one {t : List Br} (h : Tree t) {j : Nat} (hj : j < t.length) : fd (Ky t j) t = some j := by
  refine fd_some.2 ⟨hj, rfl, fun m hm e => ?_⟩
  have hu := h.uni
  rw [List.nodup_iff_pairwise_ne] at hu
  have := List.pairwise_iff_getElem.1 hu m j (by simp; omega) (by simpa using hj) hm
  apply this
  simp only [List.getElem_map]
  have h1 : m < t.length := by omega
  simpa [Ky, List.getD, hj, h1] using e
theorem des_iff {t : List Br} (h : Tree t) {a b : P} : dsB t a b = true ↔ ∃ i j, fd b t = some i ∧ fd a t = some j ∧ Ds t i j := by
  unfold dsB
  rw [decide_eq_true_iff, mem_bl]
  constructor
  · rintro ⟨i, j, h1, h2, rfl⟩
    exact ⟨i, j, h1, fd_one h h2.2.1, h2⟩
  · rintro ⟨i, j, h1, h2, h3⟩
    exact ⟨i, j, h1, h3, (fd_some.1 h2).2.1⟩
theorem ds_trans {t : List Br} {i j l : Nat} (h : Ds t i j) (g : Ds t j l) : Ds t i l := by
  refine ⟨by have := h.1; have := g.1; omega, g.2.1, fun m h1 h2 => ?_⟩
  rcases Nat.lt_or_ge j m with hm | hm
  · have a := g.2.2 m hm h2
    have b := h.2.2 j h.1 (Nat.le_refl _)
    omega
  · exact h.2.2 m h1 hm
/-- NOBODY DESCENDS FROM ITSELF. -/
theorem des_irr {t : List Br} (h : Tree t) (a : P) : dsB t a a = false := by
  cases q : dsB t a a with
  | false => rfl
  | true =>
    obtain ⟨i, j, h1, h2, h3⟩ := (des_iff h).1 q
    rw [h1] at h2
    cases h2
    exact absurd h3.1 (Nat.lt_irrefl _)
theorem des_anti {t : List Br} (h : Tree t) {a b : P} (h1 : dsB t a b = true) : dsB t b a = false := by
  cases q : dsB t b a with
  | false => rfl
  | true =>
    obtain ⟨i, j, e1, e2, e3⟩ := (des_iff h).1 h1
    obtain ⟨i', j', f1, f2, f3⟩ := (des_iff h).1 q
    rw [e2] at f1; rw [e1] at f2
    cases f1; cases f2
    have := e3.1; have := f3.1; omega
theorem des_trans {t : List Br} (h : Tree t) {a b c : P} (h1 : dsB t a b = true) (h2 : dsB t b c = true) : dsB t a c = true := by
  obtain ⟨i, j, e1, e2, e3⟩ := (des_iff h).1 h1
  obtain ⟨i', j', f1, f2, f3⟩ := (des_iff h).1 h2
  rw [e1] at f2
  cases f2
  exact (des_iff h).2 ⟨i', j, f1, e2, ds_trans f3 e3⟩

/-! ### The parent -/
/-- The last place ahead of n whose depth is less than d. -/
def pl (t : List Br) (d : Int) : Nat → Option Nat
  | 0 => none
  | n + 1 => if D t n < d then some n else pl t d n
theorem pl_some {t : List Br} {d : Int} {n p : Nat} : pl t d n = some p ↔ (p < n ∧ D t p < d ∧ ∀ m, p < m → m < n → ¬ D t m < d) := by
  induction n with
  | zero => simp [pl]
  | succ n ih =>
    by_cases h : D t n < d
    · simp only [pl, if_pos h, Option.some.injEq]
      constructor
      · rintro rfl
        exact ⟨by omega, h, fun m h1 h2 => by omega⟩
      · rintro ⟨h1, _, h3⟩
        rcases Nat.lt_or_ge p n with hp | hp
        · exact absurd h (h3 n hp (by omega))
        · omega
    · simp only [pl, if_neg h, ih]
      constructor
      · rintro ⟨h1, h2, h3⟩
        refine ⟨by omega, h2, fun m hm1 hm2 => ?_⟩
        rcases Nat.lt_or_ge m n with hm | hm
        · exact h3 m hm1 hm
        · obtain rfl : m = n := by omega
          exact h
      · rintro ⟨h1, h2, h3⟩
        refine ⟨?_, h2, fun m hm1 hm2 => h3 m hm1 (by omega)⟩
        rcases Nat.lt_or_ge p n with hp | hp
        · exact hp
        · obtain rfl : p = n := by omega
          exact absurd h2 h
theorem pl_none {t : List Br} {d : Int} {n : Nat} : pl t d n = none ↔ ∀ m, m < n → ¬ D t m < d := by
  constructor
  · intro h
    induction n with
    | zero => intro m hm; omega
    | succ n ih =>
      by_cases q : D t n < d
      · simp [pl, q] at h
      · simp only [pl, if_neg q] at h
        intro m hm
        rcases Nat.lt_or_ge m n with hl | hl
        · exact ih h m hl
        · obtain rfl : m = n := by omega
          exact q
  · intro h
    cases e : pl t d n with
    | none => rfl
    | some p =>
      obtain ⟨h1, h2, _⟩ := pl_some.1 e
      exact absurd h2 (h p h1)
/-- The parent's place. -/
def pr (t : List Br) (k : P) : Option Nat := (fd k t).bind fun i => pl t (D t i) i
def prK (t : List Br) (k : P) : P := match pr t k with | none => (0, 0) | some p => Ky t p
def prB (t : List Br) (k : P) : Bool := (pr t k).isSome
theorem pr_ds {t : List Br} {i p : Nat} (hi : i < t.length) (h : pl t (D t i) i = some p) : Ds t p i := by
  obtain ⟨h1, h2, h3⟩ := pl_some.1 h
  refine ⟨h1, hi, fun m hm1 hm2 => ?_⟩
  rcases Nat.lt_or_ge m i with hl | hl
  · have := h3 m hm1 hl; omega
  · obtain rfl : m = i := by omega
    exact h2
theorem ds_pr {t : List Br} {i j p : Nat} (h : Ds t j i) (hp : pl t (D t i) i = some p) : j = p ∨ Ds t j p := by
  obtain ⟨h1, h2, h3⟩ := pl_some.1 hp
  have hd := h.2.2 i h.1 (Nat.le_refl _)
  rcases Nat.lt_trichotomy j p with hl | hl | hl
  · exact .inr ⟨hl, by have := h.2.1; omega, fun m a b => h.2.2 m a (by omega)⟩
  · exact .inl hl
  · exact absurd hd (h3 j hl h.1)
/-- A PARENT IS AN ANCESTOR, WITH NONE IN BETWEEN. -/
theorem par_yes {t : List Br} (h : Tree t) {a : P} (hp : prB t a = true) : dsB t a (prK t a) = true ∧ ∀ b, dsB t a b = true → b = prK t a ∨ dsB t (prK t a) b = true := by
  unfold prB prK pr at *
  cases hf : fd a t with
  | none => rw [hf] at hp; simp at hp
  | some i =>
    rw [hf] at hp
    simp only [Option.bind_some] at hp ⊢
    cases hq : pl t (D t i) i with
    | none => rw [hq] at hp; simp at hp
    | some p =>
      simp only
      have hi := (fd_some.1 hf).1
      have hd := pr_ds hi hq
      have hpl : p < t.length := by have := hd.1; omega
      refine ⟨(des_iff h).2 ⟨p, i, fd_one h hpl, hf, hd⟩, fun b hb => ?_⟩
      obtain ⟨j, i', e1, e2, e3⟩ := (des_iff h).1 hb
      rw [hf] at e2
      cases e2
      rcases ds_pr e3 hq with rfl | q
      · exact .inl (fd_some.1 e1).2.1.symm
      · exact .inr ((des_iff h).2 ⟨j, p, e1, fd_one h hpl, q⟩)
theorem par_no {t : List Br} (h : Tree t) {a : P} (hp : prB t a = false) (b : P) : dsB t a b = false := by
  cases q : dsB t a b with
  | false => rfl
  | true =>
    obtain ⟨j, i, e1, e2, e3⟩ := (des_iff h).1 q
    unfold prB pr at hp
    rw [e2] at hp
    simp only [Option.bind_some] at hp
    have hn : pl t (D t i) i = none := by
      cases hq : pl t (D t i) i with
      | none => rfl
      | some p => rw [hq] at hp; simp at hp
    exact absurd (e3.2.2 i e3.1 (Nat.le_refl _)) (pl_none.1 hn j e3.1)
end Go.Proofs.Ytcldnacpddebcaa.Tr
/- What is done to a tree: the document's answers; what is inserted is removed again (P13.3, P13.5). Without any program. -/
namespace Go.Proofs.Ytcldnacpddebcaa.Tr

/-! ### Whether a list is a tree -/
theorem dp_iff {p : Int} {t : List Br} : dp p t ↔ ∀ i, i < t.length → 0 ≤ D t i ∧ D t i ≤ (if i = 0 then p else D t (i - 1)) + 1 := by
  induction t generalizing p with
  | nil => simp [dp]
  | cons b r ih =>
    simp only [dp, ih]
    constructor
    · rintro ⟨h1, h2, h3⟩ i hi
      cases i with
      | zero => exact ⟨h1, by simpa [D] using h2⟩
      | succ i =>
        have := h3 i (by simpa using hi)
        refine ⟨this.1, ?_⟩
        cases i with
        | zero => simpa [D] using this.2
        | succ i => simpa [D] using this.2
    · intro h
      have h0 := h 0 (by simp)
      refine ⟨h0.1, by simpa [D] using h0.2, fun i hi => ?_⟩
      have := h (i + 1) (by simpa using hi)
      refine ⟨this.1, ?_⟩
      cases i with
      | zero => simpa [D] using this.2
      | succ i => simpa [D] using this.2
/-- A branch that may be where it is. -/
structure Gd (t : List Br) (i : Nat) : Prop where
  at' : fd (Ky t i) t = some i
  key : okK (Ky t i) = true
  pos : 0 ≤ D t i
  dep : D t i ≤ (if i = 0 then -1 else D t (i - 1)) + 1
theorem tree_gd {t : List Br} : Tree t ↔ (t.length ≤ 512 ∧ ∀ i, i < t.length → Gd t i) := by
  constructor
  · intro h
    refine ⟨h.len, fun i hi => ⟨fd_one h hi, h.key _ ?_, (dp_iff.1 h.dep i hi).1, (dp_iff.1 h.dep i hi).2⟩⟩
    simp [List.getD, hi]
  · rintro ⟨h1, h2⟩
    refine ⟨h1, fun b hb => ?_, ?_, dp_iff.2 fun i hi => ⟨(h2 i hi).pos, (h2 i hi).dep⟩⟩
    · obtain ⟨i, hi, rfl⟩ := List.getElem_of_mem hb
      have := (h2 i hi).key
      simpa [Ky, List.getD, hi] using this
    · rw [List.nodup_iff_pairwise_ne, List.pairwise_iff_getElem]
      intro i j hi hj hij e
      simp only [List.length_map] at hi hj
      have a := (h2 j hj).at'
      refine (fd_some.1 a).2.2 i hij ?_
      simp only [List.getElem_map] at e
      simpa [Ky, List.getD, hi, hj] using e
def dpB : Int → List Br → Bool
  | _, [] => true
  | p, b :: r => decide (0 ≤ b.2.1) && (decide (b.2.1 ≤ p + 1) && dpB b.2.1 r)
theorem dpB_iff {p : Int} {t : List Br} : dpB p t = true ↔ dp p t := by
  induction t generalizing p with
  | nil => simp [dpB, dp]
  | cons b r ih => simp [dpB, dp, ih]
/-- Whether a list is a tree. -/
def isB (t : List Br) : Bool := decide (t.length ≤ 512 ∧ (∀ b ∈ t, okK b.1 = true) ∧ (t.map (·.1)).Nodup ∧ dpB (-1) t = true)
theorem isB_iff {t : List Br} : isB t = true ↔ Tree t := by
  simp only [isB, decide_eq_true_eq, dpB_iff]
  exact ⟨fun ⟨a, b, c, d⟩ => ⟨a, b, c, d⟩, fun h => ⟨h.len, h.key, h.uni, h.dep⟩⟩
theorem isB_not {t : List Br} : isB t = false ↔ ¬ Tree t := by
  rw [← isB_iff]
  simp

/-! ### One more, one less -/
/-- With b at the place n. -/
def ins (t : List Br) (n : Nat) (b : Br) : List Br := t.take n ++ b :: t.drop n
/-- Without the one at the place n. -/
def del (t : List Br) (n : Nat) : List Br := t.take n ++ t.drop (n + 1)
theorem ins_len {t : List Br} {n : Nat} {b : Br} : (ins t n b).length = t.length + 1 := by simp [ins]; omega
theorem ins_get {t : List Br} {n : Nat} {b : Br} (hn : n ≤ t.length) (j : Nat) : (ins t n b).getD j zB = if j < n then t.getD j zB else if j = n then b else t.getD (j - 1) zB := by
  have hl : (t.take n).length = n := by simp; omega
  simp only [ins, List.getD]
  by_cases h1 : j < n
  · rw [if_pos h1, List.getElem?_append_left (by omega), List.getElem?_take_of_lt h1]
  · rw [if_neg h1, List.getElem?_append_right (by omega), hl]
    by_cases h2 : j = n
    · subst h2; simp
    · rw [if_neg h2, show j - n = (j - n - 1) + 1 by omega, List.getElem?_cons_succ, List.getElem?_drop, show n + (j - n - 1) = j - 1 by omega]
theorem del_ins {t : List Br} {n : Nat} {b : Br} (hn : n ≤ t.length) : del (ins t n b) n = t := by
  have hl : (t.take n).length = n := by simp; omega
  have e1 : (ins t n b).take n = t.take n := by
    unfold ins
    rw [List.take_append_of_le_length (by omega), List.take_of_length_le (by omega)]
  have e2 : (ins t n b).drop (n + 1) = t.drop n := by
    unfold ins
    rw [List.drop_append, hl, show n + 1 - n = 1 by omega]
    simp
    omega
  unfold del
  rw [e1, e2, List.take_append_drop]

/-! ### The document's answers -/
def hasK (t : List Br) (k : P) : Bool := (fd k t).isSome
def plc (t : List Br) (k : P) : Nat := (fd k t).getD 0
def roE (t : List Br) (k : P) : Int := if !isB t || !okK k then 2 else if hasK t k then 8 else if 512 ≤ t.length then 6 else 0
def roA (t : List Br) (k : P) : List Br := if roE t k = 0 then t ++ [(k, 0, false)] else t
def inE (t : List Br) (from' k : P) : Int := if !isB t || !okK from' || !okK k then 2 else if !hasK t from' then 7 else if hasK t k then 8 else if 512 ≤ t.length then 6 else 0
def inA (t : List Br) (from' k : P) : List Br := if inE t from' k = 0 then ins t (plc t from' + 1) (k, D t (plc t from') + 1, false) else t
def reE (t : List Br) (k : P) : Int := if !isB t || !okK k then 2 else if !hasK t k then 7 else if 0 < ct t (plc t k) then 130 else 0
def reA (t : List Br) (k : P) : List Br := if reE t k = 0 then del t (plc t k) else t
def moE (t : List Br) (from' to : P) : Int := if !isB t || !okK from' || !okK to then 2 else if !hasK t from' then 7 else if hasK t to then 8 else 0
def moA (t : List Br) (from' to : P) : List Br := if moE t from' to = 0 then t.set (plc t from') (to, (t.getD (plc t from') zB).2) else t
def maE (t : List Br) (k : P) : Int := if !isB t || !okK k then 2 else if !hasK t k then 7 else 0
def maA (t : List Br) (k : P) (on : Bool) : List Br := if maE t k = 0 then t.set (plc t k) (k, D t (plc t k), on) else t

/-- All that holds where an insertion goes. -/
structure InOk (t : List Br) (from' k : P) (i : Nat) : Prop where
  tree : Tree t
  kf : okK from' = true
  kk : okK k = true
  at' : fd from' t = some i
  non : fd k t = none
  len : t.length < 512
theorem in_ok {t : List Br} {from' k : P} (h : inE t from' k = 0) : ∃ i, InOk t from' k i ∧ inA t from' k = ins t (i + 1) (k, D t i + 1, false) := by
  have h' := h
  unfold inE at h
  split at h
  · cases h
  · rename_i q1
    split at h
    · cases h
    · rename_i q2
      split at h
      · cases h
      · rename_i q3
        split at h
        · cases h
        · rename_i q4
          simp only [Bool.or_eq_true, Bool.not_eq_true', not_or, Bool.not_eq_false] at q1
          simp only [Bool.not_eq_true', Bool.not_eq_false, hasK] at q2
          obtain ⟨i, hi⟩ := Option.isSome_iff_exists.1 q2
          simp only [hasK, Bool.not_eq_true, Option.isSome_eq_false_iff, Option.isNone_iff_eq_none] at q3
          refine ⟨i, ⟨isB_iff.1 q1.1.1, q1.1.2, q1.2, hi, q3, by omega⟩, ?_⟩
          unfold inA
          rw [if_pos h']
          simp [plc, hi]
theorem ins_cut {t : List Br} {k : P} {i : Nat} {b : Br} (h : fd k t = some i) : ins t (i + 1) b = t.take i ++ (k, D t i, (t.getD i zB).2.2) :: b :: t.drop (i + 1) := by
  have hi := (fd_some.1 h).1
  have e := cut_at h
  have hl : (t.take i).length = i := by simp; omega
  have e1 : t.take (i + 1) = t.take i ++ [(k, D t i, (t.getD i zB).2.2)] := by
    rw [List.take_succ_eq_append_getElem hi]
    congr 2
    have : t.getD i zB = t[i] := by simp [List.getD, hi]
    rw [← this]
    exact Prod.ext (fd_some.1 h).2.1 rfl
  unfold ins
  rw [e1]
  simp
theorem in_tree {t : List Br} {from' k : P} {i : Nat} (h : InOk t from' k i) : Tree (ins t (i + 1) (k, D t i + 1, false)) := by
  rw [ins_cut h.at']
  have hc := cut_at h.at'
  exact tree_insert (b := (from', D t i, (t.getD i zB).2.2)) (hc ▸ h.tree) h.kk (hc ▸ h.non) (by have := h.len; rw [hc] at this; exact this)
/-- Where the others are, behind an insertion. -/
theorem in_fd {t : List Br} {from' k o : P} {i j : Nat} (h : InOk t from' k i) (ho : fd o t = some j) : fd o (ins t (i + 1) (k, D t i + 1, false)) = some (if j < i + 1 then j else j + 1) := by
  have hi := (fd_some.1 h.at').1
  obtain ⟨h1, h2, h3⟩ := fd_some.1 ho
  have hne : o ≠ k := by
    rintro rfl
    rw [h.non] at ho; cases ho
  refine fd_some.2 ⟨by rw [ins_len]; split <;> omega, ?_, fun m hm => ?_⟩
  · unfold Ky
    rw [ins_get (by omega)]
    by_cases q : j < i + 1
    · simp only [if_pos q]; exact h2
    · simp only [if_neg q]
      rw [if_neg (by omega), if_neg (by omega), Nat.add_sub_cancel]; exact h2
  · unfold Ky
    rw [ins_get (by omega)]
    split at hm
    · rw [if_pos (by omega)]; exact h3 m hm
    · by_cases q1 : m < i + 1
      · rw [if_pos q1]; exact h3 m (by omega)
      · rw [if_neg q1]
        by_cases q2 : m = i + 1
        · rw [if_pos q2]; exact fun e => hne e.symm
        · rw [if_neg q2]; exact h3 (m - 1) (by omega)
theorem in_new {t : List Br} {from' k : P} {i : Nat} (h : InOk t from' k i) : fd k (ins t (i + 1) (k, D t i + 1, false)) = some (i + 1) := by
  have hi := (fd_some.1 h.at').1
  refine fd_some.2 ⟨by rw [ins_len]; omega, ?_, fun m hm => ?_⟩
  · unfold Ky
    rw [ins_get (by omega), if_neg (by omega), if_pos rfl]
  · unfold Ky
    rw [ins_get (by omega), if_pos hm]
    exact fd_none.1 h.non m (by omega)
theorem in_D {t : List Br} {from' k : P} {i : Nat} (h : InOk t from' k i) (j : Nat) : D (ins t (i + 1) (k, D t i + 1, false)) j = if j < i + 1 then D t j else if j = i + 1 then D t i + 1 else D t (j - 1) := by
  have hi := (fd_some.1 h.at').1
  unfold D
  rw [ins_get (by omega)]
  split
  · rfl
  · split <;> rfl
theorem in_ct {t : List Br} {from' k : P} {i : Nat} (h : InOk t from' k i) : ct (ins t (i + 1) (k, D t i + 1, false)) (i + 1) = 0 := by
  have hi := (fd_some.1 h.at').1
  rcases Nat.eq_zero_or_pos (ct (ins t (i + 1) (k, D t i + 1, false)) (i + 1)) with e | e
  · exact e
  · have hd : Ds (ins t (i + 1) (k, D t i + 1, false)) (i + 1) (i + 2) := ds_ct.2 ⟨by omega, by omega⟩
    have h1 := hd.2.2 (i + 2) (by omega) (by omega)
    have h2 := hd.2.1
    rw [ins_len] at h2
    rw [in_D h, in_D h, if_neg (by omega), if_pos rfl, if_neg (by omega), if_neg (by omega), show i + 2 - 1 = i + 1 by omega] at h1
    have h3 := (dp_iff.1 h.tree.dep (i + 1) (by omega)).2
    rw [if_neg (by omega), Nat.add_sub_cancel] at h3
    omega
/-- REMOVED AGAIN, THE TREE IS AS IT WAS. -/
theorem in_back {t : List Br} {from' k : P} {i : Nat} (h : InOk t from' k i) : reE (ins t (i + 1) (k, D t i + 1, false)) k = 0 ∧ reA (ins t (i + 1) (k, D t i + 1, false)) k = t := by
  have hi := (fd_some.1 h.at').1
  have e : reE (ins t (i + 1) (k, D t i + 1, false)) k = 0 := by
    unfold reE
    rw [isB_iff.2 (in_tree h), h.kk]
    simp [hasK, plc, in_new h, in_ct h]
  refine ⟨e, ?_⟩
  unfold reA
  rw [if_pos e]
  simp only [plc, in_new h, Option.getD_some]
  exact del_ins (by omega)
theorem in_par {t : List Br} {from' k : P} {i : Nat} (h : InOk t from' k i) : prB (ins t (i + 1) (k, D t i + 1, false)) k = true ∧ prK (ins t (i + 1) (k, D t i + 1, false)) k = from' := by
  have hi := fd_some.1 h.at'
  have e : pr (ins t (i + 1) (k, D t i + 1, false)) k = some i := by
    unfold pr
    rw [in_new h, Option.bind_some]
    refine pl_some.2 ⟨by omega, ?_, fun m h1 h2 => by omega⟩
    rw [in_D h, in_D h, if_pos (by omega), if_neg (by omega), if_pos rfl]
    omega
  refine ⟨by simp [prB, e], ?_⟩
  simp only [prK, e]
  unfold Ky
  rw [ins_get (by have := hi.1; omega), if_pos (by omega)]
  exact hi.2.1
/-- WHAT IS INSERTED IS BELOW ITS PARENT, AND ALL ABOVE THAT; NOBODY IS BELOW IT. -/
theorem in_des {t : List Br} {from' k o : P} {i : Nat} (h : InOk t from' k i) (ho : hasK t o = true) : dsB (ins t (i + 1) (k, D t i + 1, false)) k o = (decide (o = from') || dsB t from' o) ∧ dsB (ins t (i + 1) (k, D t i + 1, false)) o k = false := by
  obtain ⟨j, hj⟩ := Option.isSome_iff_exists.1 ho
  have hi := fd_some.1 h.at'
  have hu := in_tree h
  constructor
  · rw [Bool.eq_iff_iff, Bool.or_eq_true, decide_eq_true_iff, des_iff hu, des_iff h.tree]
    constructor
    · rintro ⟨a, b, e1, e2, e3⟩
      rw [in_fd h hj] at e1
      rw [in_new h] at e2
      cases e1; cases e2
      have hlt := e3.1
      have hja : j < i + 1 := by
        rcases Nat.lt_or_ge j (i + 1) with q | q
        · exact q
        · rw [if_neg (by omega)] at hlt; omega
      rw [if_pos hja] at e3
      rcases Nat.lt_or_ge j i with q | q
      · refine .inr ⟨j, i, hj, h.at', q, hi.1, fun m h1 h2 => ?_⟩
        have := e3.2.2 m h1 (by omega)
        rwa [in_D h, in_D h, if_pos (by omega), if_pos (by omega)] at this
      · obtain rfl : j = i := by omega
        exact .inl ((fd_some.1 hj).2.1.symm.trans hi.2.1)
    · intro hh
      have key : j < i + 1 ∧ (j = i ∨ Ds t j i) := by
        rcases hh with rfl | ⟨a, b, e1, e2, e3⟩
        · rw [h.at'] at hj; cases hj; exact ⟨by omega, .inl rfl⟩
        · rw [hj] at e1; rw [h.at'] at e2
          cases e1; cases e2
          exact ⟨by have := e3.1; omega, .inr e3⟩
      refine ⟨j, i + 1, by rw [in_fd h hj, if_pos key.1], in_new h, by omega, by rw [ins_len]; have := hi.1; omega, fun m h1 h2 => ?_⟩
      rw [in_D h, in_D h, if_pos key.1]
      rcases key.2 with rfl | hd
      · obtain rfl : m = j + 1 := by omega
        rw [if_neg (by omega), if_pos rfl]; omega
      · by_cases q : m < i + 1
        · rw [if_pos q]; exact hd.2.2 m h1 (by omega)
        · obtain rfl : m = i + 1 := by omega
          rw [if_neg q, if_pos rfl]
          have := hd.2.2 i hd.1 (Nat.le_refl _)
          omega
  · cases q : dsB (ins t (i + 1) (k, D t i + 1, false)) o k with
    | false => rfl
    | true =>
      obtain ⟨a, b, e1, e2, e3⟩ := (des_iff hu).1 q
      rw [in_new h] at e1
      cases e1
      have := (ds_ct.1 e3).2
      rw [in_ct h] at this
      omega
end Go.Proofs.Ytcldnacpddebcaa.Tr
/- What follows a tree is one; what is moved or marked keeps who descends from whom (P13.3, P13.5). Without any program. -/
namespace Go.Proofs.Ytcldnacpddebcaa.Tr

theorem set_cut {t : List Br} {i : Nat} {b : Br} (hi : i < t.length) : t.set i b = t.take i ++ b :: t.drop (i + 1) := by
  rw [List.set_eq_take_append_cons_drop, if_pos hi]
theorem plc_of {t : List Br} {k : P} {i : Nat} (h : fd k t = some i) : plc t k = i := by simp [plc, h]
theorem has_of {t : List Br} {k : P} {i : Nat} (h : fd k t = some i) : hasK t k = true := by simp [hasK, h]
theorem has_fd {t : List Br} {k : P} (h : hasK t k = true) : ∃ i, fd k t = some i := Option.isSome_iff_exists.1 h
theorem has_no {t : List Br} {k : P} (h : hasK t k = false) : fd k t = none := by simpa [hasK] using h
theorem ro_tree {t : List Br} {k : P} (h : Tree t) : Tree (roA t k) := by
  unfold roA
  split
  · rename_i e
    unfold roE at e
    split at e
    · cases e
    · rename_i q1
      split at e
      · cases e
      · rename_i q2
        split at e
        · cases e
        · rename_i q3
          simp only [Bool.or_eq_true, Bool.not_eq_true', not_or, Bool.not_eq_false] at q1
          exact tree_root h q1.2 (has_no (by simpa using q2)) (by omega)
  · exact h
theorem in_keep {t : List Br} {a k : P} (h : Tree t) : Tree (inA t a k) := by
  by_cases e : inE t a k = 0
  · obtain ⟨i, h1, h2⟩ := in_ok e
    rw [h2]
    exact in_tree h1
  · unfold inA
    rw [if_neg e]
    exact h
/-- All that holds where a removal goes. -/
theorem re_ok {t : List Br} {k : P} (h : reE t k = 0) : ∃ i, Tree t ∧ okK k = true ∧ fd k t = some i ∧ ct t i = 0 ∧ reA t k = del t i := by
  have h' := h
  unfold reE at h
  split at h
  · cases h
  · rename_i q1
    split at h
    · cases h
    · rename_i q2
      split at h
      · cases h
      · rename_i q3
        simp only [Bool.or_eq_true, Bool.not_eq_true', not_or, Bool.not_eq_false] at q1
        obtain ⟨i, hi⟩ := has_fd (by simpa using q2)
        rw [plc_of hi] at q3
        refine ⟨i, isB_iff.1 q1.1, q1.2, hi, by omega, ?_⟩
        unfold reA
        rw [if_pos h', plc_of hi]
theorem re_tree {t : List Br} {k : P} (h : Tree t) : Tree (reA t k) := by
  by_cases e : reE t k = 0
  · obtain ⟨i, _, _, hi, hc, he⟩ := re_ok e
    rw [he]
    have hcut := cut_at hi
    refine tree_remove (b := (k, D t i, (t.getD i zB).2.2)) (hcut ▸ h) (fun c hh => ?_)
    rcases Int.lt_or_le (D t i) c.2.1 with q | q
    · exfalso
      have : 0 < ct t i := by
        unfold ct
        cases hd : t.drop (i + 1) with
        | nil => rw [hd] at hh; cases hh
        | cons x r =>
          rw [hd] at hh
          cases hh
          simp [cn, q]
      omega
    · exact q
  · unfold reA
    rw [if_neg e]
    exact h
theorem mo_ok {t : List Br} {a b : P} (h : moE t a b = 0) : ∃ i, Tree t ∧ okK b = true ∧ fd a t = some i ∧ fd b t = none ∧ moA t a b = t.set i (b, (t.getD i zB).2) := by
  have h' := h
  unfold moE at h
  split at h
  · cases h
  · rename_i q1
    split at h
    · cases h
    · rename_i q2
      split at h
      · cases h
      · rename_i q3
        simp only [Bool.or_eq_true, Bool.not_eq_true', not_or, Bool.not_eq_false] at q1
        obtain ⟨i, hi⟩ := has_fd (by simpa using q2)
        refine ⟨i, isB_iff.1 q1.1.1, q1.2, hi, has_no (by simpa using q3), ?_⟩
        unfold moA
        rw [if_pos h', plc_of hi]
theorem mo_tree {t : List Br} {a b : P} (h : Tree t) : Tree (moA t a b) := by
  by_cases e : moE t a b = 0
  · obtain ⟨i, _, hb, hi, hn, he⟩ := mo_ok e
    rw [he, set_cut (fd_some.1 hi).1]
    have hcut := cut_at hi
    exact tree_set (b := (a, D t i, (t.getD i zB).2.2)) (hcut ▸ h) hb (.inr (hcut ▸ hn))
  · unfold moA
    rw [if_neg e]
    exact h
theorem ma_ok {t : List Br} {k : P} {on : Bool} (h : maE t k = 0) : ∃ i, Tree t ∧ okK k = true ∧ fd k t = some i ∧ maA t k on = t.set i (k, D t i, on) := by
  have h' := h
  unfold maE at h
  split at h
  · cases h
  · rename_i q1
    split at h
    · cases h
    · rename_i q2
      simp only [Bool.or_eq_true, Bool.not_eq_true', not_or, Bool.not_eq_false] at q1
      obtain ⟨i, hi⟩ := has_fd (by simpa using q2)
      refine ⟨i, isB_iff.1 q1.1, q1.2, hi, ?_⟩
      unfold maA
      rw [if_pos h', plc_of hi]
theorem ma_tree {t : List Br} {k : P} {on : Bool} (h : Tree t) : Tree (maA t k on) := by
  by_cases e : maE t k = 0
  · obtain ⟨i, _, hk, hi, he⟩ := ma_ok (on := on) e
    rw [he, set_cut (fd_some.1 hi).1]
    have hcut := cut_at hi
    exact tree_set (b := (k, D t i, (t.getD i zB).2.2)) (hcut ▸ h) hk (.inl rfl)
  · unfold maA
    rw [if_neg e]
    exact h

/-! ### Acts -/
structure Ac where
  kind : Int
  a : P
  b : P
  on : Bool
def doA (t : List Br) (x : Ac) : List Br := if x.kind = 0 then roA t x.a else if x.kind = 1 then inA t x.a x.b else if x.kind = 2 then reA t x.a else if x.kind = 3 then moA t x.a x.b else maA t x.a x.on
def doE (t : List Br) (x : Ac) : Int := if x.kind = 0 then roE t x.a else if x.kind = 1 then inE t x.a x.b else if x.kind = 2 then reE t x.a else if x.kind = 3 then moE t x.a x.b else maE t x.a
theorem do_tree {t : List Br} (h : Tree t) (x : Ac) : Tree (doA t x) := by
  unfold doA
  split
  · exact ro_tree h
  · split
    · exact in_keep h
    · split
      · exact re_tree h
      · split
        · exact mo_tree h
        · exact ma_tree h
/-- What was grown by acts. -/
def gr (l : List Ac) : List Br := l.foldl doA []
theorem gr_snoc (l : List Ac) (x : Ac) : gr (l ++ [x]) = doA (gr l) x := by simp [gr]
theorem gr_any (l : List Ac) : ∀ t, Tree t → Tree (l.foldl doA t) := by
  induction l with
  | nil => exact fun t h => h
  | cons x r ih => exact fun t h => ih _ (do_tree h x)
/-- WHATEVER IS DONE FROM NONE ON: A TREE. -/
theorem gr_tree (l : List Ac) : Tree (gr l) := gr_any l [] tree_nil

/-! ### Moved, marked -/
theorem set_get {t : List Br} {i : Nat} {b : Br} (hi : i < t.length) (j : Nat) : (t.set i b).getD j zB = if j = i then b else t.getD j zB := by
  simp only [List.getD]
  by_cases h : j = i
  · subst h; rw [if_pos rfl]; simp [hi]
  · rw [if_neg h, List.getElem?_set_ne (fun e => h e.symm)]
theorem fd_same {t u : List Br} (hl : u.length = t.length) (hk : ∀ j, Ky u j = Ky t j) (k : P) : fd k u = fd k t := by
  cases h : fd k t with
  | none =>
    refine fd_none.2 fun j hj => ?_
    rw [hk]
    exact fd_none.1 h j (by omega)
  | some i =>
    obtain ⟨h1, h2, h3⟩ := fd_some.1 h
    exact fd_some.2 ⟨by omega, by rw [hk]; exact h2, fun j hj => by rw [hk]; exact h3 j hj⟩
theorem ds_same {t u : List Br} (hl : u.length = t.length) (hd : ∀ j, D u j = D t j) {i j : Nat} : Ds u i j ↔ Ds t i j := by
  unfold Ds
  simp only [hl, hd]
/-- WHAT IS MARKED KEEPS WHO DESCENDS FROM WHOM. -/
theorem ma_des {t : List Br} {k : P} {on : Bool} (h : Tree t) (e : maE t k = 0) (a b : P) : dsB (maA t k on) a b = dsB t a b := by
  obtain ⟨i, _, _, hi, he⟩ := ma_ok (on := on) e
  obtain ⟨h1, h2, _⟩ := fd_some.1 hi
  have hu := ma_tree (k := k) (on := on) h
  rw [he] at hu ⊢
  have hk : ∀ j, Ky (t.set i (k, D t i, on)) j = Ky t j := fun j => by
    unfold Ky
    rw [set_get h1]
    split
    · rename_i q; subst q; exact h2.symm
    · rfl
  have hd : ∀ j, D (t.set i (k, D t i, on)) j = D t j := fun j => by
    unfold D
    rw [set_get h1]
    split
    · rename_i q; subst q; rfl
    · rfl
  rw [Bool.eq_iff_iff, des_iff hu, des_iff h]
  simp only [fd_same (by simp) hk, ds_same (by simp) hd]
/-- Another key's name behind a move. -/
def rn (a b x : P) : P := if x = a then b else x
theorem mo_fd {t : List Br} {a b x : P} {i : Nat} (hi : fd a t = some i) (hn : fd b t = none) (hx : x ≠ b) : fd (rn a b x) (t.set i (b, (t.getD i zB).2)) = fd x t := by
  obtain ⟨h1, h2, h3⟩ := fd_some.1 hi
  have hk : ∀ j, Ky (t.set i (b, (t.getD i zB).2)) j = if j = i then b else Ky t j := fun j => by
    unfold Ky
    rw [set_get h1]
    split <;> rfl
  unfold rn
  by_cases e : x = a
  · rw [if_pos e, e, hi]
    refine fd_some.2 ⟨by simpa using h1, by rw [hk, if_pos rfl], fun j hj => ?_⟩
    rw [hk, if_neg (by omega)]
    exact fd_none.1 hn j (by omega)
  · rw [if_neg e]
    cases q : fd x t with
    | none =>
      refine fd_none.2 fun j hj => ?_
      rw [hk]
      split
      · exact fun y => hx y.symm
      · exact fd_none.1 q j (by simpa using hj)
    | some n =>
      obtain ⟨g1, g2, g3⟩ := fd_some.1 q
      have hni : n ≠ i := by
        rintro rfl
        exact e (g2.symm.trans h2)
      refine fd_some.2 ⟨by simpa using g1, by rw [hk, if_neg hni]; exact g2, fun j hj => ?_⟩
      rw [hk]
      split
      · exact fun y => hx y.symm
      · exact g3 j hj
/-- WHAT IS MOVED KEEPS WHO DESCENDS FROM WHOM. -/
theorem mo_des {t : List Br} {a b x y : P} (h : Tree t) (e : moE t a b = 0) (hx : x ≠ b) (hy : y ≠ b) : dsB (moA t a b) (rn a b x) (rn a b y) = dsB t x y ∧ hasK (moA t a b) a = false ∧ (moA t a b).length = t.length := by
  have hu := mo_tree (a := a) (b := b) h
  obtain ⟨i, _, _, hi, hn, he⟩ := mo_ok e
  obtain ⟨h1, h2, h3⟩ := fd_some.1 hi
  rw [he] at hu ⊢
  have hd : ∀ j, D (t.set i (b, (t.getD i zB).2)) j = D t j := fun j => by
    unfold D
    rw [set_get h1]
    split
    · rename_i q; subst q; rfl
    · rfl
  refine ⟨?_, ?_, by simp⟩
  · rw [Bool.eq_iff_iff, des_iff hu, des_iff h]
    simp only [mo_fd hi hn hx, mo_fd hi hn hy, ds_same (by simp) hd]
  · have hab : a ≠ b := by
      rintro rfl
      rw [hi] at hn; cases hn
    have : fd a (t.set i (b, (t.getD i zB).2)) = none := by
      refine fd_none.2 fun j hj => ?_
      unfold Ky
      rw [set_get h1]
      split
      · exact fun y => hab y.symm
      · rename_i q
        intro y
        have := fd_one h (j := j) (by simpa using hj)
        unfold Ky at this
        rw [y, hi] at this
        cases this
        exact q rfl
    unfold hasK
    rw [this]
    rfl
end Go.Proofs.Ytcldnacpddebcaa.Tr
/- Those below somebody are its children, and theirs, each once, one piece of the list (P13.4); a tree that is full (P13.3). Without any program. -/
namespace Go.Proofs.Ytcldnacpddebcaa.Tr

/-- The place i is a child of the place p. -/
abbrev kid (t : List Br) (p i : Nat) : Prop := pl t (D t i) i = some p
/-- How many children there are ahead of n. -/
def kc (t : List Br) (p : Nat) : Nat → Nat
  | 0 => 0
  | n + 1 => if kid t p n then kc t p n + 1 else kc t p n
/-- How many they and those below them are. -/
def ks (t : List Br) (p : Nat) : Nat → Nat
  | 0 => 0
  | n + 1 => if kid t p n then ks t p n + 1 + ct t n else ks t p n
theorem kid_ds {t : List Br} {p i : Nat} (hi : i < t.length) (h : kid t p i) : Ds t p i := pr_ds hi h
theorem kid_far {t : List Br} {p i : Nat} (hi : i < t.length) (h : kid t p i) : p < i ∧ i ≤ p + ct t p := by
  have := ds_ct.1 (kid_ds hi h)
  omega
theorem ks_front {t : List Br} {p n : Nat} (hn : n ≤ t.length) (h : n ≤ p + 1) : ks t p n = 0 ∧ kc t p n = 0 := by
  induction n with
  | zero => exact ⟨rfl, rfl⟩
  | succ n ih =>
    have q : ¬ kid t p n := fun q => by have := (kid_far (by omega) q).1; omega
    simp only [ks, kc, if_neg q]
    exact ih (by omega) (by omega)
/-- How far the sum has come. -/
structure Far (t : List Br) (p n c : Nat) : Prop where
  le : n ≤ p + 1 + c
  ub : c ≤ ct t p
  no : ∀ i, n ≤ i → i < p + 1 + c → ¬ kid t p i
  hi : c < ct t p → ∀ m, p < m → m < p + 1 + c → D t (p + 1 + c) ≤ D t m
theorem ct_in {t : List Br} {p : Nat} (hp : p < t.length) : p + ct t p < t.length := by
  have := cn_le (D t p) (t.drop (p + 1))
  unfold ct
  simp at this
  omega
theorem far_start (t : List Br) (p : Nat) : Far t p (p + 1) 0 := ⟨by omega, by omega, fun i h1 h2 => by omega, fun _ m h1 h2 => by omega⟩
theorem far_next {t : List Br} {p n : Nat} (hp : p < t.length) (h1 : p + 1 ≤ n) (h2 : n < p + 1 + ct t p) (h : Far t p n (ks t p n)) : Far t p (n + 1) (ks t p (n + 1)) := by
  have hlen := ct_in hp
  by_cases q : n < p + 1 + ks t p n
  · have hk : ¬ kid t p n := h.no n (Nat.le_refl _) q
    simp only [ks, if_neg hk]
    exact ⟨by omega, h.ub, fun i a b => h.no i (by omega) b, h.hi⟩
  · have e : n = p + 1 + ks t p n := by have := h.le; omega
    have hn : n < t.length := by omega
    have hdp : Ds t p n := ds_ct.2 ⟨by omega, by omega⟩
    have hge : ∀ m, p < m → m < n → D t n ≤ D t m := fun m a b => by
      have := h.hi (by omega) m a (by omega)
      rwa [← e] at this
    have hk : kid t p n := pl_some.2 ⟨by omega, hdp.2.2 n hdp.1 (Nat.le_refl _), fun m a b => by have := hge m a b; omega⟩
    simp only [ks, if_pos hk]
    have hsub : n + ct t n ≤ p + ct t p := by
      rcases Nat.eq_zero_or_pos (ct t n) with z | z
      · omega
      · have hd : Ds t n (n + ct t n) := ds_ct.2 ⟨by omega, by omega⟩
        have := (ds_ct.1 (ds_trans hdp hd)).2
        omega
    refine ⟨by omega, by omega, fun i a b => ?_, fun hc m a b => ?_⟩
    · intro hi
      have hd : Ds t n i := ds_ct.2 ⟨by omega, by omega⟩
      exact (pl_some.1 hi).2.2 n (by omega) (by omega) (hd.2.2 i hd.1 (Nat.le_refl _))
    · have e2 : p + 1 + (ks t p n + 1 + ct t n) = n + ct t n + 1 := by omega
      rw [e2]
      have hqle : D t (n + ct t n + 1) ≤ D t n := by
        rcases Int.lt_or_le (D t n) (D t (n + ct t n + 1)) with z | z
        · exfalso
          have hd : Ds t n (n + ct t n + 1) := by
            refine ⟨by omega, by omega, fun m a b => ?_⟩
            rcases Nat.lt_or_ge m (n + ct t n + 1) with y | y
            · have : Ds t n m := ds_ct.2 ⟨a, by omega⟩
              exact this.2.2 m a (Nat.le_refl _)
            · obtain rfl : m = n + ct t n + 1 := by omega
              exact z
          have := (ds_ct.1 hd).2
          omega
        · exact z
      rcases Nat.lt_trichotomy m n with y | y | y
      · have := hge m a y; omega
      · subst y; exact hqle
      · have : Ds t n m := ds_ct.2 ⟨y, by omega⟩
        have := this.2.2 m y (Nat.le_refl _)
        omega
theorem far_all {t : List Br} {p : Nat} (hp : p < t.length) : ∀ d, d ≤ ct t p → Far t p (p + 1 + d) (ks t p (p + 1 + d)) := by
  intro d
  induction d with
  | zero =>
    intro _
    rw [Nat.add_zero, (ks_front (by omega) (Nat.le_refl _)).1]
    exact far_start t p
  | succ d ih =>
    intro hd
    exact far_next (n := p + 1 + d) hp (by omega) (by omega) (ih (by omega))
theorem ks_end {t : List Br} {p : Nat} (hp : p < t.length) : ∀ n, p + 1 + ct t p ≤ n → n ≤ t.length → ks t p n = ct t p := by
  intro n h1
  induction n with
  | zero => omega
  | succ n ih =>
    intro h2
    rcases Nat.lt_or_ge n (p + 1 + ct t p) with q | q
    · obtain e : n + 1 = p + 1 + ct t p := by omega
      rw [e]
      have := far_all hp (ct t p) (Nat.le_refl _)
      have a := this.le
      have b := this.ub
      omega
    · have hk : ¬ kid t p n := fun q => by have := (kid_far (by omega) q).2; omega
      simp only [ks, if_neg hk]
      exact ih q (by omega)
/-- THEY AND THOSE BELOW THEM ARE ALL BELOW. -/
theorem ks_all {t : List Br} {p : Nat} (hp : p < t.length) : ks t p t.length = ct t p := ks_end hp _ (by have := ct_in hp; omega) (Nat.le_refl _)
theorem kc_pos {t : List Br} {p i : Nat} (h : kid t p i) : ∀ n, i < n → 0 < kc t p n := by
  intro n
  induction n with
  | zero => intro h; omega
  | succ n ih =>
    intro hi
    by_cases q : kid t p n
    · simp only [kc, if_pos q]; omega
    · simp only [kc, if_neg q]
      rcases Nat.lt_or_ge i n with y | y
      · exact ih y
      · obtain rfl : i = n := by omega
        exact absurd h q
theorem kc_zero {t : List Br} {p : Nat} (h : ct t p = 0) : ∀ n, n ≤ t.length → kc t p n = 0 := by
  intro n
  induction n with
  | zero => intro _; rfl
  | succ n ih =>
    intro hn
    have q : ¬ kid t p n := fun q => by have := kid_far (by omega) q; omega
    simp only [kc, if_neg q]
    exact ih (by omega)
theorem kc_iff {t : List Br} {p : Nat} : kc t p t.length = 0 ↔ ct t p = 0 := by
  constructor
  · intro h
    rcases Nat.eq_zero_or_pos (ct t p) with z | z
    · exact z
    · exfalso
      have hd : Ds t p (p + 1) := ds_ct.2 ⟨by omega, by omega⟩
      have hk : kid t p (p + 1) := pl_some.2 ⟨by omega, hd.2.2 _ hd.1 (Nat.le_refl _), fun m a b => by omega⟩
      have := kc_pos hk t.length hd.2.1
      omega
  · exact fun h => kc_zero h _ (Nat.le_refl _)
/-- A ROOT HAS NO PARENT, ALL OTHERS HAVE ONE. -/
theorem par_dep {t : List Br} (h : Tree t) {i : Nat} (hi : i < t.length) : prB t (Ky t i) = !(D t i == 0) := by
  unfold prB pr
  rw [fd_one h hi, Option.bind_some]
  have hd := fun j (hj : j < t.length) => (dp_iff.1 h.dep j hj).1
  by_cases q : D t i = 0
  · have : pl t (D t i) i = none := pl_none.2 fun m hm => by have := hd m (by omega); omega
    rw [this]
    simp [q]
  · have h0 : D t 0 ≤ 0 := by
      have := (dp_iff.1 h.dep 0 (by omega)).2
      rw [if_pos rfl] at this
      omega
    have hpos := hd i hi
    have hi0 : 0 < i := by
      rcases Nat.eq_zero_or_pos i with z | z
      · subst z; omega
      · exact z
    cases e : pl t (D t i) i with
    | none =>
      have := pl_none.1 e 0 hi0
      omega
    | some p => simp [q]
theorem par_kid {t : List Br} (h : Tree t) {i p : Nat} {k : P} (hi : i < t.length) (hp : fd k t = some p) : (prB t (Ky t i) = true ∧ prK t (Ky t i) = k) ↔ kid t p i := by
  unfold prB prK pr kid
  rw [fd_one h hi, Option.bind_some]
  constructor
  · rintro ⟨h1, h2⟩
    cases e : pl t (D t i) i with
    | none => rw [e] at h1; cases h1
    | some q =>
      rw [e] at h2
      simp only at h2
      have hq := (pr_ds hi e)
      have := fd_one h (j := q) (by have := hq.1; omega)
      rw [h2, hp] at this
      exact this.symm
  · intro e
    rw [e]
    exact ⟨rfl, (fd_some.1 hp).2.1⟩
/-- One piece of the list. -/
theorem bl_get {t : List Br} {k : P} {p n : Nat} (h : fd k t = some p) (hn : n < (blL t k).length) : p + 1 + n < t.length ∧ (blL t k).getD n (0, 0) = Ky t (p + 1 + n) := by
  have hl := len_bl h
  have hc := ct_in (fd_some.1 h).1
  refine ⟨by omega, ?_⟩
  have e : (blL t k)[n] = Ky t (p + 1 + n) := by
    simp only [blL, h, List.getElem_map, List.getElem_take, List.getElem_drop]
    have : p + 1 + n < t.length := by omega
    simp [Ky, List.getD, this]
  rw [← e]
  simp [List.getD, hn]
end Go.Proofs.Ytcldnacpddebcaa.Tr
