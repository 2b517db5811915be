/- Plain facts on cells and steps: no program. -/
import Derived.Below
namespace Go.Proofs.Ytaihabkacjbfjaa.Ce

/-- A STEP's FIVE NUMBERS: its kind, its cell, the old value, the new one, by whom. -/
structure O where
  k : Int
  c : Int
  a : Int
  v : Int
  w : Int
def O.zero : O := ⟨0, 0, 0, 0, 0⟩
theorem O.ext' {x y : O} (h0 : x.k = y.k) (h1 : x.c = y.c) (h2 : x.a = y.a) (h3 : x.v = y.v) (h4 : x.w = y.w) : x = y := by
  cases x; cases y; simp_all
/-- A step that was done. -/
structure Rc where
  o : O
  got : Int
  ok : Bool
def Rc.zero : Rc := ⟨O.zero, 0, false⟩
theorem Rc.ext' {x y : Rc} (h0 : x.o = y.o) (h1 : x.got = y.got) (h2 : x.ok = y.ok) : x = y := by
  cases x; cases y; simp_all

def inB (c n : Int) : Bool := decide (0 ≤ c ∧ c < n)
theorem inB_iff {c n : Int} : inB c n = true ↔ (0 ≤ c ∧ c < n) := by simp [inB]
theorem inB_not {c n : Int} : inB c n = false ↔ ¬ (0 ≤ c ∧ c < n) := by simp [inB]
/-- Whether the kind is one of the five, and its Who is one where it must be. -/
def kindB (o : O) : Bool := decide (1 ≤ o.k ∧ o.k ≤ 5 ∧ (o.k < 4 ∨ 1 ≤ o.w))
theorem kindB_iff {o : O} : kindB o = true ↔ (1 ≤ o.k ∧ o.k ≤ 5 ∧ (o.k < 4 ∨ 1 ≤ o.w)) := by simp [kindB]
theorem kindB_not {o : O} : kindB o = false ↔ ¬ (1 ≤ o.k ∧ o.k ≤ 5 ∧ (o.k < 4 ∨ 1 ≤ o.w)) := by simp [kindB]
/-- WHETHER A STEP MAY BE DONE ON n CELLS. -/
def okO (o : O) (n : Int) : Bool := kindB o && inB o.c n
theorem okO_iff {o : O} {n : Int} : okO o n = true ↔ ((1 ≤ o.k ∧ o.k ≤ 5 ∧ (o.k < 4 ∨ 1 ≤ o.w)) ∧ (0 ≤ o.c ∧ o.c < n)) := by simp [okO, kindB_iff, inB_iff]
theorem okO_not {o : O} {n : Int} : okO o n = false ↔ ¬ ((1 ≤ o.k ∧ o.k ≤ 5 ∧ (o.k < 4 ∨ 1 ≤ o.w)) ∧ (0 ≤ o.c ∧ o.c < n)) := by
  rw [← okO_iff]; simp
def chk (o : O) (n : Int) : Int := if okO o n then 0 else 2
theorem chk_yes {o : O} {n : Int} (h : okO o n = true) : chk o n = 0 := by simp [chk, h]
theorem chk_no {o : O} {n : Int} (h : okO o n = false) : chk o n = 2 := by simp [chk, h]

/-- Whether the step is done as it is meant. -/
def stB (got : Int) (o : O) : Bool := decide (o.k = 1 ∨ o.k = 2 ∨ (o.k = 3 ∧ got = o.a) ∨ (o.k = 4 ∧ got = 0) ∨ (o.k = 5 ∧ got = o.w))
/-- What the cell has behind it. -/
def stV (got : Int) (o : O) : Int := if stB got o then (if o.k = 1 then got else if o.k = 4 then o.w else if o.k = 5 then 0 else o.v) else got
theorem stB_iff {got : Int} {o : O} : stB got o = true ↔ (o.k = 1 ∨ o.k = 2 ∨ (o.k = 3 ∧ got = o.a) ∨ (o.k = 4 ∧ got = 0) ∨ (o.k = 5 ∧ got = o.w)) := by simp [stB]
theorem stB_not {got : Int} {o : O} : stB got o = false ↔ ¬ (o.k = 1 ∨ o.k = 2 ∨ (o.k = 3 ∧ got = o.a) ∨ (o.k = 4 ∧ got = 0) ∨ (o.k = 5 ∧ got = o.w)) := by simp [stB]
theorem stV_no {got : Int} {o : O} (h : stB got o = false) : stV got o = got := by simp [stV, h]

/-- What the cell of the step has. -/
def at0 (l : List Int) (o : O) : Int := l.getD o.c.toNat 0
/-- THE VALUES BEHIND A STEP, AND ITS RECORD. -/
def apV (l : List Int) (o : O) : List Int := if okO o l.length then l.set o.c.toNat (stV (at0 l o) o) else l
def apR (l : List Int) (o : O) : Rc := if okO o l.length then ⟨o, at0 l o, stB (at0 l o) o⟩ else Rc.zero
theorem apV_len (l : List Int) (o : O) : (apV l o).length = l.length := by
  unfold apV; split <;> simp
theorem apV_yes {l : List Int} {o : O} (h : okO o l.length = true) : apV l o = l.set o.c.toNat (stV (at0 l o) o) := by simp [apV, h]
theorem apV_no {l : List Int} {o : O} (h : okO o l.length = false) : apV l o = l := by simp [apV, h]
theorem apR_yes {l : List Int} {o : O} (h : okO o l.length = true) : apR l o = ⟨o, at0 l o, stB (at0 l o) o⟩ := by simp [apR, h]
theorem apR_no {l : List Int} {o : O} (h : okO o l.length = false) : apR l o = Rc.zero := by simp [apR, h]

/-- Cells, how many steps were done, and the trace of the first 2000. -/
structure S where
  vs : List Int
  n : Nat
  tr : List Rc
def S.new (n : Nat) : S := ⟨List.replicate n 0, 0, []⟩
def S.step (s : S) (o : O) : S := if okO o s.vs.length then ⟨apV s.vs o, s.n + 1, if s.tr.length < 2000 then s.tr ++ [apR s.vs o] else s.tr⟩ else s
theorem S.step_no {s : S} {o : O} (h : okO o s.vs.length = false) : s.step o = s := by simp [S.step, h]
theorem S.step_yes {s : S} {o : O} (h : okO o s.vs.length = true) : s.step o = ⟨apV s.vs o, s.n + 1, if s.tr.length < 2000 then s.tr ++ [apR s.vs o] else s.tr⟩ := by simp [S.step, h]
theorem S.step_vs (s : S) (o : O) : (s.step o).vs = apV s.vs o := by
  cases h : okO o s.vs.length with
  | true => rw [S.step_yes h]
  | false => rw [S.step_no h, apV_no h]
theorem S.step_len (s : S) (o : O) : (s.step o).vs.length = s.vs.length := by rw [S.step_vs, apV_len]
def S.run (s : S) (l : List O) : S := l.foldl S.step s
theorem S.run_snoc (s : S) (l : List O) (o : O) : s.run (l ++ [o]) = (s.run l).step o := by simp [S.run]
theorem S.run_len (s : S) (l : List O) : (s.run l).vs.length = s.vs.length := by
  induction l generalizing s with
  | nil => rfl
  | cons o r ih => exact (ih (s.step o)).trans (S.step_len s o)
theorem S.run_n (s : S) (l : List O) : s.n ≤ (s.run l).n ∧ (s.run l).n ≤ s.n + l.length := by
  induction l generalizing s with
  | nil => exact ⟨Nat.le_refl _, Nat.le_refl _⟩
  | cons o r ih =>
    have h := ih (s.step o)
    have hs : (s.step o).n = s.n ∨ (s.step o).n = s.n + 1 := by
      cases h : okO o s.vs.length with
      | true => rw [S.step_yes h]; exact .inr rfl
      | false => rw [S.step_no h]; exact .inl rfl
    have e : s.run (o :: r) = (s.step o).run r := rfl
    rw [e]
    simp only [List.length_cons]
    omega
theorem take_snoc {α : Type} (l : List α) (d : α) (k : Nat) (h : k < l.length) : l.take (k + 1) = l.take k ++ [l.getD k d] := by
  rw [List.take_succ_eq_append_getElem h]; simp [List.getD, h]
end Go.Proofs.Ytaihabkacjbfjaa.Ce
