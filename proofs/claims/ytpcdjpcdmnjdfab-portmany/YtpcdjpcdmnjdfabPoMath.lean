/- What the document says of ports: who waits, who meets whom. Without any program. -/
import Derived.Test.YtpcdjpcdmnjdfabChecked
import Derived.WalkKit
namespace Go.Proofs.Ytpcdjpcdmnjdfab.Po

/-- One who waits: core, value, badge, has, slot (object, slot), generation, grant. -/
structure Wt where
  c : Int
  v : Int
  b : Int
  h : Bool
  o : Int
  s : Int
  g : Int
  t : Bool
abbrev z0 : Wt := ⟨0, 0, 0, false, 0, 0, 0, false⟩
/-- A port: kind, word, who waits. -/
structure Pt where
  k : Int
  w : Int
  l : List Wt
abbrev p0 : Pt := ⟨0, 0, []⟩
/-- Who comes. -/
structure Ac where
  kind : Int
  x : Wt
  n : Int
abbrev Cc (l : List Wt) (i : Nat) : Int := (l.getD i z0).c

/-! ### The same -/
def eqW (a b : Wt) : Bool := a.c == b.c && (a.v == b.v && (a.b == b.b && (a.h == b.h && (a.o == b.o && (a.s == b.s && (a.g == b.g && a.t == b.t))))))
theorem eqW_iff {a b : Wt} : eqW a b = true ↔ a = b := by
  cases a
  cases b
  simp [eqW]
theorem eqW_refl (a : Wt) : eqW a a = true := eqW_iff.2 rfl
theorem eqW_not {a b : Wt} : eqW a b = false ↔ ¬ a = b := by rw [← eqW_iff]; simp
def eqL : List Wt → List Wt → Bool
  | [], [] => true
  | a :: r, b :: q => eqW a b && eqL r q
  | _, _ => false
theorem eqL_iff : ∀ {l m : List Wt}, eqL l m = true ↔ l = m := by
  intro l
  induction l with
  | nil => intro m; cases m <;> simp [eqL]
  | cons a r ih => intro m; cases m <;> simp [eqL, eqW_iff, ih]
theorem eqL_refl (l : List Wt) : eqL l l = true := eqL_iff.2 rfl
theorem eqL_not {l m : List Wt} : eqL l m = false ↔ ¬ l = m := by rw [← eqL_iff]; simp
def eqP (p q : Pt) : Bool := p.k == q.k && (p.w == q.w && eqL p.l q.l)
theorem pt_eq {p q : Pt} (h1 : p.k = q.k) (h2 : p.w = q.w) (h3 : p.l = q.l) : p = q := by
  cases p
  cases q
  simp_all
theorem eqP_iff {p q : Pt} : eqP p q = true ↔ p = q := by
  simp only [eqP, Bool.and_eq_true, beq_iff_eq, eqL_iff]
  exact ⟨fun ⟨a, b, c⟩ => pt_eq a b c, fun e => by rw [e]; exact ⟨rfl, rfl, rfl⟩⟩
theorem eqP_refl (p : Pt) : eqP p p = true := eqP_iff.2 rfl

/-! ### Where a core waits -/
def fd (c : Int) : List Wt → Option Nat
  | [] => none
  | b :: r => if b.c = c then some 0 else (fd c r).map (· + 1)
theorem fd_some {c : Int} {t : List Wt} {i : Nat} : fd c t = some i ↔ (i < t.length ∧ Cc t i = c ∧ ∀ j, j < i → Cc t j ≠ c) := by
  induction t generalizing i with
  | nil => simp [fd]
  | cons b r ih =>
    by_cases h : b.c = c
    · simp only [fd, if_pos h, Option.some.injEq]
      constructor
      · rintro rfl
        exact ⟨by simp, h, fun j hj => absurd hj (by omega)⟩
      · rintro ⟨_, _, h3⟩
        rcases Nat.eq_zero_or_pos i with rfl | hp
        · rfl
        · exact absurd h (h3 0 hp)
    · simp only [fd, if_neg h, Option.map_eq_some_iff]
      constructor
      · rintro ⟨a, ha, rfl⟩
        obtain ⟨h1, h2, h3⟩ := ih.1 ha
        refine ⟨by simp; omega, by simpa [Cc] using h2, fun j hj => ?_⟩
        cases j with
        | zero => exact h
        | succ j => exact h3 j (by omega)
      · rintro ⟨h1, h2, h3⟩
        cases i with
        | zero => exact absurd h2 h
        | succ i => exact ⟨i, ih.2 ⟨by simpa using h1, h2, fun j hj => h3 (j + 1) (by omega)⟩, rfl⟩
theorem fd_none {c : Int} {t : List Wt} : fd c t = none ↔ ∀ j, j < t.length → Cc t j ≠ c := by
  induction t with
  | nil => simp [fd]
  | cons b r ih =>
    by_cases h : b.c = c
    · simp only [fd, if_pos h]
      constructor
      · intro e; cases e
      · intro e; exact absurd h (e 0 (by simp))
    · simp only [fd, if_neg h, Option.map_eq_none_iff, ih]
      constructor
      · intro e j hj
        cases j with
        | zero => exact h
        | succ j => exact e j (by simpa using hj)
      · intro e j hj
        exact e (j + 1) (by simpa using hj)
def fI (c : Int) (l : List Wt) : Int := match fd c l with
  | some i => i
  | none => -1
theorem fI_some {c : Int} {l : List Wt} {i : Nat} (h : fd c l = some i) : fI c l = i := by simp [fI, h]
theorem fI_none {c : Int} {l : List Wt} (h : fd c l = none) : fI c l = -1 := by simp [fI, h]

/-! ### Whether a port may be -/
def okC (c : Int) : Bool := decide (0 ≤ c) && decide (c < 64)
theorem okC_iff {c : Int} : okC c = true ↔ 0 ≤ c ∧ c < 64 := by simp [okC]
theorem okC_not {c : Int} : okC c = false ↔ ¬ (0 ≤ c ∧ c < 64) := by rw [← okC_iff]; simp
def OkL (l : List Wt) : Prop := ∀ i, i < l.length → okC (Cc l i) = true ∧ ∀ j, j < i → Cc l j ≠ Cc l i
def okL (l : List Wt) : Bool := decide (∀ i, i < l.length → okC (Cc l i) = true ∧ ∀ j, j < i → Cc l j ≠ Cc l i)
theorem okL_iff {l : List Wt} : okL l = true ↔ OkL l := by rw [okL, decide_eq_true_eq]; exact Iff.rfl
theorem okL_not {l : List Wt} : okL l = false ↔ ¬ OkL l := by rw [← okL_iff]; simp
def ftB (p : Pt) : Bool := (p.k == 0 && p.l.length == 0) || ((p.k == 1 || p.k == 2) && (decide (0 < p.l.length) && p.w == 0))
theorem ftB_iff {p : Pt} : ftB p = true ↔ (p.k = 0 ∧ p.l.length = 0) ∨ ((p.k = 1 ∨ p.k = 2) ∧ 0 < p.l.length ∧ p.w = 0) := by simp [ftB]
def okP (p : Pt) : Bool := ftB p && okL p.l
theorem okP_iff {p : Pt} : okP p = true ↔ ftB p = true ∧ OkL p.l := by simp [okP, okL_iff]
def ckE (p : Pt) : Int := if okP p = true then 0 else 2
theorem ck_yes {p : Pt} (h : okP p = true) : ckE p = 0 := by simp [ckE, h]
theorem ck_no {p : Pt} (h : okP p = false) : ckE p = 2 := by simp [ckE, h]
/-- Numbers below n, no two alike, are at most n. -/
theorem pig : ∀ (n : Nat) (l : List Wt), (∀ i, i < l.length → 0 ≤ Cc l i ∧ Cc l i < n) → (∀ i j, i < j → j < l.length → Cc l i ≠ Cc l j) → l.length ≤ n := by
  intro n
  induction n with
  | zero =>
    intro l h _
    rcases Nat.eq_zero_or_pos l.length with z | z
    · omega
    · have := h 0 z
      omega
  | succ n ih =>
    intro l h hu
    by_cases hn : ∃ p, p < l.length ∧ Cc l p = n
    · obtain ⟨p, hp, e⟩ := hn
      have hl : (l.eraseIdx p).length = l.length - 1 := List.length_eraseIdx_of_lt hp
      have hg : ∀ i, i < l.length - 1 → Cc (l.eraseIdx p) i = Cc l (if i < p then i else i + 1) := by
        intro i hi
        simp only [Cc, List.getD, List.getElem?_eraseIdx]
        split <;> rfl
      have := ih (l.eraseIdx p) (fun i hi => by
        rw [hl] at hi
        rw [hg i hi]
        have h1 := h (if i < p then i else i + 1) (by split <;> omega)
        have h2 : Cc l (if i < p then i else i + 1) ≠ n := by
          rw [← e]
          split
          · exact hu _ _ (by omega) hp
          · exact (hu p (i + 1) (by omega) (by omega)).symm
        omega) (fun i j hij hj => by
        rw [hl] at hj
        rw [hg i (by omega), hg j hj]
        refine hu _ _ ?_ (by split <;> omega)
        split <;> split <;> omega)
      omega
    · have := ih l (fun i hi => by
        have h1 := h i hi
        have h2 : Cc l i ≠ n := fun e => hn ⟨i, hi, e⟩
        omega) hu
      omega
theorem OkL.few {l : List Wt} (h : OkL l) : l.length ≤ 64 := pig 64 l (fun i hi => okC_iff.1 (h i hi).1) (fun i j a b => (h j b).2 i a)

/-! ### What each call does -/
/-- What a core that comes is refused for. -/
def rfE (p : Pt) (c : Int) : Int := if okP p = true ∧ okC c = true then (if (fd c p.l).isSome = true then 8 else 0) else 2
def woP (p : Pt) (i : Nat) : Pt := ⟨if (p.l.eraseIdx i).length = 0 then 0 else p.k, p.w, p.l.eraseIdx i⟩
def wiP (p : Pt) (k : Int) (x : Wt) : Pt := ⟨k, p.w, p.l ++ [x]⟩
def cmP (p : Pt) (x : Wt) (own meets : Int) : Pt := if rfE p x.c = 0 then (if p.k = meets then woP p 0 else wiP p own x) else p
def cmX (p : Pt) (x : Wt) (meets : Int) : Wt := if rfE p x.c = 0 then (if p.k = meets then p.l.getD 0 z0 else z0) else z0
def cmB (p : Pt) (x : Wt) (meets : Int) : Bool := rfE p x.c == 0 && p.k == meets
/-- Bits of two numbers. -/
def bor (a b : Int) : Int := bits .or .i64 a b
def sgP (p : Pt) (n : Int) : Pt := if okP p = true then (if p.k = 2 then woP p 0 else if p.k = 0 then ⟨p.k, bor p.w n, p.l⟩ else p) else p
def setV (x : Wt) (n : Int) : Wt := ⟨x.c, n, x.b, x.h, x.o, x.s, x.g, x.t⟩
def sgX (p : Pt) (n : Int) : Wt := if okP p = true then (if p.k = 2 then setV (p.l.getD 0 z0) n else z0) else z0
def sgB (p : Pt) : Bool := okP p && p.k == 2
def coW (c : Int) : Wt := ⟨c, 0, 0, false, 0, 0, 0, false⟩
def waP (p : Pt) (c : Int) : Pt := if rfE p c = 0 then (if p.w = 0 then wiP p 2 (coW c) else ⟨p.k, 0, p.l⟩) else p
def waN (p : Pt) (c : Int) : Int := if rfE p c = 0 then p.w else 0
def drP (p : Pt) (c : Int) : Pt := match fd c p.l with
  | some i => woP p i
  | none => p
def drB (p : Pt) (c : Int) : Bool := (fd c p.l).isSome
end Go.Proofs.Ytpcdjpcdmnjdfab.Po
