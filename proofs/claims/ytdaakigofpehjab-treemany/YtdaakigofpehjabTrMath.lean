/- What the document says of trees: lists of branches, who is below whom. Without any program. -/
import Derived.RowKit
namespace Go.Proofs.Ytdaakigofpehjab.Tr

/-- A key. -/
abbrev P := Int × Int
/-- A branch: its key, its depth, whether it is marked. -/
abbrev Br := P × Int × Bool
abbrev zB : Br := ((0, 0), 0, false)
def okK (k : P) : Bool := decide (0 ≤ k.1 ∧ k.1 ≤ 1023 ∧ -1 ≤ k.2 ∧ k.2 ≤ 7)
theorem okK_iff {k : P} : okK k = true ↔ (0 ≤ k.1 ∧ k.1 ≤ 1023 ∧ -1 ≤ k.2 ∧ k.2 ≤ 7) := by simp [okK]
abbrev Ky (t : List Br) (i : Nat) : P := (t.getD i zB).1
abbrev D (t : List Br) (i : Nat) : Int := (t.getD i zB).2.1

/-! ### Where a key is -/
def fd (k : P) : List Br → Option Nat
  | [] => none
  | b :: r => if b.1 = k then some 0 else (fd k r).map (· + 1)
theorem fd_some {k : P} {t : List Br} {i : Nat} : fd k t = some i ↔ (i < t.length ∧ Ky t i = k ∧ ∀ j, j < i → Ky t j ≠ k) := by
  induction t generalizing i with
  | nil => simp [fd]
  | cons b r ih =>
    by_cases h : b.1 = k
    · simp only [fd, if_pos h, Option.some.injEq]
      constructor
      · rintro rfl
        exact ⟨by simp, h, fun j hj => absurd hj (by omega)⟩
      · rintro ⟨_, _, h3⟩
        rcases Nat.eq_zero_or_pos i with rfl | hp
        · rfl
        · exact absurd h (h3 0 hp)
    · simp only [fd, if_neg h, Option.map_eq_some_iff]
      constructor
      · rintro ⟨a, ha, rfl⟩
        obtain ⟨h1, h2, h3⟩ := ih.1 ha
        refine ⟨by simp; omega, by simpa [Ky] using h2, fun j hj => ?_⟩
        cases j with
        | zero => exact h
        | succ j => exact h3 j (by omega)
      · rintro ⟨h1, h2, h3⟩
        cases i with
        | zero => exact absurd h2 h
        | succ i => exact ⟨i, ih.2 ⟨by simpa using h1, h2, fun j hj => h3 (j + 1) (by omega)⟩, rfl⟩
theorem fd_none {k : P} {t : List Br} : fd k t = none ↔ ∀ j, j < t.length → Ky t j ≠ k := by
  constructor
  · intro h j hj e
    obtain ⟨i, hi⟩ : ∃ i, fd k t = some i := by
      have : ∃ n, n < t.length ∧ Ky t n = k := ⟨j, hj, e⟩
      clear h hj e j
      induction t with
      | nil => obtain ⟨n, hn, _⟩ := this; simp at hn
      | cons b r ih =>
        by_cases h : b.1 = k
        · exact ⟨0, by simp [fd, h]⟩
        · obtain ⟨n, hn, e⟩ := this
          cases n with
          | zero => exact absurd e h
          | succ n =>
            obtain ⟨i, hi⟩ := ih ⟨n, by simpa using hn, e⟩
            exact ⟨i + 1, by simp [fd, h, hi]⟩
    rw [hi] at h; cases h
  · intro h
    cases e : fd k t with
    | none => rfl
    | some i =>
      obtain ⟨h1, h2, _⟩ := fd_some.1 e
      exact absurd h2 (h i h1)

/-! ### Trees -/
/-- The depths, from one whose depth is p on. -/
def dp : Int → List Br → Prop
  | _, [] => True
  | p, b :: r => 0 ≤ b.2.1 ∧ b.2.1 ≤ p + 1 ∧ dp b.2.1 r
/-- The last one's depth. -/
def ld : Int → List Br → Int
  | p, [] => p
  | _, b :: r => ld b.2.1 r
theorem ld_cons (p : Int) (b : Br) (r : List Br) : ld p (b :: r) = ld b.2.1 r := rfl
theorem dp_app (p : Int) (l m : List Br) : dp p (l ++ m) ↔ dp p l ∧ dp (ld p l) m := by
  induction l generalizing p with
  | nil => simp [dp, ld]
  | cons b r ih => simp only [List.cons_append, dp, ih, ld_cons]; constructor <;> (rintro ⟨a, b⟩; simp_all)
theorem dp_mono {p q : Int} (h : p ≤ q) {l : List Br} (hd : dp p l) : dp q l := by
  cases l with
  | nil => trivial
  | cons b r => exact ⟨hd.1, by have := hd.2.1; omega, hd.2.2⟩
theorem ld_ge {p : Int} {l : List Br} (hp : -1 ≤ p) (h : dp p l) : -1 ≤ ld p l := by
  induction l generalizing p with
  | nil => exact hp
  | cons b r ih => rw [ld_cons]; exact ih (by have := h.1; omega) h.2.2
structure Tree (t : List Br) : Prop where
  len : t.length ≤ 512
  key : ∀ b ∈ t, okK b.1 = true
  uni : (t.map (·.1)).Nodup
  dep : dp (-1) t
theorem tree_nil : Tree [] := ⟨by simp, by simp, by simp, trivial⟩
/-- A key that is there: the list, cut at it. -/
theorem cut_at {k : P} {t : List Br} {i : Nat} (h : fd k t = some i) : t = t.take i ++ (k, D t i, (t.getD i zB).2.2) :: t.drop (i + 1) := by
  obtain ⟨h1, h2, _⟩ := fd_some.1 h
  have e : t.getD i zB = t[i] := by simp [List.getD, h1]
  conv => lhs; rw [← List.take_append_drop i t, List.drop_eq_getElem_cons h1]
  congr 2
  rw [← e]
  exact Prod.ext h2 rfl
theorem nin_of {k : P} {t : List Br} (h : fd k t = none) : k ∉ t.map (·.1) := by
  intro hk
  obtain ⟨b, hb, rfl⟩ := List.mem_map.1 hk
  obtain ⟨j, hj, e⟩ := List.getElem_of_mem hb
  exact fd_none.1 h j hj (by simp [Ky, List.getD, hj, e])
/-- ROOT keeps a tree one. -/
theorem tree_root {t : List Br} {k : P} (h : Tree t) (hk : okK k = true) (hn : fd k t = none) (hl : t.length < 512) : Tree (t ++ [(k, 0, false)]) := by
  refine ⟨by simp; omega, fun b hb => ?_, ?_, (dp_app _ _ _).2 ⟨h.dep, by simp, ?_, trivial⟩⟩
  · rcases List.mem_append.1 hb with hb | hb
    · exact h.key b hb
    · simp at hb; subst hb; exact hk
  · rw [List.map_append, List.nodup_append]
    refine ⟨h.uni, by simp, ?_⟩
    intro a ha b hb e
    simp at hb
    subst hb e
    exact nin_of hn ha
  · have := ld_ge (by omega) h.dep
    simp only; omega
/-- INSERT keeps a tree one. -/
theorem tree_insert {l1 l2 : List Br} {b : Br} {k : P} (h : Tree (l1 ++ b :: l2)) (hk : okK k = true) (hn : fd k (l1 ++ b :: l2) = none) (hl : (l1 ++ b :: l2).length < 512) : Tree (l1 ++ b :: (k, b.2.1 + 1, false) :: l2) := by
  obtain ⟨d1, d2⟩ := (dp_app _ _ _).1 h.dep
  refine ⟨by simp at hl ⊢; omega, fun c hc => ?_, ?_, (dp_app _ _ _).2 ⟨d1, d2.1, d2.2.1, by simp only; have := d2.1; omega, by simp only; omega, dp_mono (by simp only; omega) d2.2.2⟩⟩
  · simp only [List.mem_append, List.mem_cons] at hc
    rcases hc with hc | rfl | rfl | hc
    · exact h.key c (by simp [hc])
    · exact h.key c (by simp)
    · exact hk
    · exact h.key c (by simp [hc])
  · have hn := nin_of hn
    have hu := h.uni
    simp only [List.map_append, List.map_cons, List.mem_append, List.mem_cons, not_or] at hn hu ⊢
    rw [List.nodup_append] at hu ⊢
    refine ⟨hu.1, ?_, ?_⟩
    · have h2 := hu.2.1
      rw [List.nodup_cons] at h2 ⊢
      rw [List.nodup_cons]
      refine ⟨?_, hn.2.2, h2.2⟩
      simp only [List.mem_cons, not_or]
      exact ⟨fun e => hn.2.1 e.symm, h2.1⟩
    · intro a ha c hc e
      simp only [List.mem_cons] at hc
      rcases hc with rfl | rfl | hc
      · exact hu.2.2 a ha _ (by simp) e
      · subst e; exact hn.1 ha
      · exact hu.2.2 a ha c (by simp [hc]) e
/-- REMOVE keeps a tree one. -/
theorem tree_remove {l1 l2 : List Br} {b : Br} (h : Tree (l1 ++ b :: l2)) (hc : ∀ c, l2.head? = some c → c.2.1 ≤ b.2.1) : Tree (l1 ++ l2) := by
  obtain ⟨d1, d2⟩ := (dp_app _ _ _).1 h.dep
  refine ⟨by have := h.len; simp at this ⊢; omega, fun c hc => h.key c ?_, ?_, (dp_app _ _ _).2 ⟨d1, ?_⟩⟩
  · rcases List.mem_append.1 hc with hc | hc <;> simp [hc]
  · have hu := h.uni
    simp only [List.map_append, List.map_cons] at hu ⊢
    rw [List.nodup_append] at hu ⊢
    exact ⟨hu.1, (List.nodup_cons.1 hu.2.1).2, fun a ha c hc => hu.2.2 a ha c (by simp [hc])⟩
  · cases l2 with
    | nil => trivial
    | cons c s =>
      have h1 := hc c rfl
      have h2 := d2.2.1
      have h3 := d2.2.2
      exact ⟨h3.1, by omega, h3.2.2⟩
/-- Another key, or another mark, keeps a tree one. -/
theorem tree_set {l1 l2 : List Br} {b : Br} {k : P} {m : Bool} (h : Tree (l1 ++ b :: l2)) (hk : okK k = true) (hn : k = b.1 ∨ fd k (l1 ++ b :: l2) = none) : Tree (l1 ++ (k, b.2.1, m) :: l2) := by
  obtain ⟨d1, d2⟩ := (dp_app _ _ _).1 h.dep
  refine ⟨by have := h.len; simp at this ⊢; omega, fun c hc => ?_, ?_, (dp_app _ _ _).2 ⟨d1, d2.1, d2.2.1, d2.2.2⟩⟩
  · simp only [List.mem_append, List.mem_cons] at hc
    rcases hc with hc | rfl | hc
    · exact h.key c (by simp [hc])
    · exact hk
    · exact h.key c (by simp [hc])
  · have hu := h.uni
    simp only [List.map_append, List.map_cons] at hu ⊢
    rcases hn with rfl | hn
    · exact hu
    · have hn := nin_of hn
      simp only [List.map_append, List.map_cons, List.mem_append, List.mem_cons, not_or] at hn
      rw [List.nodup_append] at hu ⊢
      refine ⟨hu.1, ?_, ?_⟩
      · have h2 := hu.2.1
        rw [List.nodup_cons] at h2 ⊢
        exact ⟨hn.2.2, h2.2⟩
      · intro a ha c hc e
        simp only [List.mem_cons] at hc
        rcases hc with rfl | hc
        · subst e; exact hn.1 ha
        · exact hu.2.2 a ha c (by simp [hc]) e
end Go.Proofs.Ytdaakigofpehjab.Tr
