/- What the document says of histories: who called when, who was answered when. Without any program. -/
import Derived.Test.YtmnkbkhfonngeaaChecked
import Derived.WalkKit
namespace Go.Proofs.Ytmnkbkhfonngeaa.Hi

/-- A call's eight numbers. -/
structure C where
  k : Int
  a : Int
  b : Int
  r : Int
  g : Int
  t : Int
  s : Int
  v : Int
abbrev c0 : C := ⟨0, 0, 0, 0, 0, 0, 0, 0⟩
/-- A reply: code, value, badge, whether a capability came or went. -/
structure Rp where
  e : Int
  v : Int
  b : Int
  t : Bool
abbrev r0 : Rp := ⟨0, 0, 0, false⟩
/-- A span: core, call, start, end, reply. -/
structure Sp where
  co : Int
  c : C
  st : Int
  en : Int
  r : Rp
abbrev s0 : Sp := ⟨0, c0, 0, 0, r0⟩
/-- Who is answered, and what. -/
structure Dn where
  c : Int
  r : Rp
abbrev d0 : Dn := ⟨0, r0⟩
/-- An event: kind, core, call, stamp, replies. -/
structure Ev where
  k : Int
  co : Int
  c : C
  sp : Int
  l : List Dn
abbrev e0 : Ev := ⟨0, 0, c0, 0, []⟩
/-- A history. -/
structure Hs where
  s : List Sp
  e : List Ev
abbrev h0 : Hs := ⟨[], []⟩
/-- What is recorded: kind, core, time, call, reply, event. -/
structure Ac where
  k : Int
  co : Int
  now : Int
  c : C
  r : Rp
  e : Ev
abbrev a0 : Ac := ⟨0, 0, 0, c0, r0, e0⟩

/-! ### The same -/
def eqC (c d : C) : Bool := c.k == d.k && (c.a == d.a && (c.b == d.b && (c.r == d.r && (c.g == d.g && (c.t == d.t && (c.s == d.s && c.v == d.v))))))
theorem eqC_iff {c d : C} : eqC c d = true ↔ c = d := by
  cases c; cases d; simp [eqC]
theorem eqC_self (c : C) : eqC c c = true := eqC_iff.2 rfl
theorem eqC_not {c d : C} : eqC c d = false ↔ ¬ c = d := by rw [← eqC_iff]; simp
def eqR (c d : Rp) : Bool := c.e == d.e && (c.v == d.v && (c.b == d.b && c.t == d.t))
theorem eqR_iff {c d : Rp} : eqR c d = true ↔ c = d := by
  cases c; cases d; simp [eqR]
theorem eqR_self (c : Rp) : eqR c c = true := eqR_iff.2 rfl
theorem eqR_not {c d : Rp} : eqR c d = false ↔ ¬ c = d := by rw [← eqR_iff]; simp
def eqS (c d : Sp) : Bool := c.co == d.co && (eqC c.c d.c && (c.st == d.st && (c.en == d.en && eqR c.r d.r)))
theorem eqS_iff {c d : Sp} : eqS c d = true ↔ c = d := by
  cases c; cases d; simp [eqS, eqC_iff, eqR_iff]
theorem eqS_self (c : Sp) : eqS c c = true := eqS_iff.2 rfl
theorem eqS_not {c d : Sp} : eqS c d = false ↔ ¬ c = d := by rw [← eqS_iff]; simp
def eqD (c d : Dn) : Bool := c.c == d.c && eqR c.r d.r
theorem eqD_iff {c d : Dn} : eqD c d = true ↔ c = d := by
  cases c; cases d; simp [eqD, eqR_iff]
theorem eqD_not {c d : Dn} : eqD c d = false ↔ ¬ c = d := by rw [← eqD_iff]; simp
def eqL {α : Type} (q : α → α → Bool) : List α → List α → Bool
  | [], [] => true
  | a :: r, b :: s => q a b && eqL q r s
  | _, _ => false
theorem eqL_iff {α : Type} {q : α → α → Bool} (hq : ∀ a b, q a b = true ↔ a = b) {l m : List α} : eqL q l m = true ↔ l = m := by
  induction l generalizing m with
  | nil => cases m <;> simp [eqL]
  | cons a r ih => cases m <;> simp [eqL, hq, ih]
theorem eqL_not {α : Type} {q : α → α → Bool} (hq : ∀ a b, q a b = true ↔ a = b) {l m : List α} : eqL q l m = false ↔ ¬ l = m := by rw [← eqL_iff hq]; simp
def eqDs (l m : List Dn) : Bool := eqL eqD l m
theorem eqDs_iff {l m : List Dn} : eqDs l m = true ↔ l = m := eqL_iff fun _ _ => eqD_iff
theorem eqDs_not {l m : List Dn} : eqDs l m = false ↔ ¬ l = m := by rw [← eqDs_iff]; simp
def eqE (c d : Ev) : Bool := c.k == d.k && (c.co == d.co && (eqC c.c d.c && (c.sp == d.sp && eqDs c.l d.l)))
theorem eqE_iff {c d : Ev} : eqE c d = true ↔ c = d := by
  cases c; cases d; simp [eqE, eqC_iff, eqDs_iff]
theorem eqE_not {c d : Ev} : eqE c d = false ↔ ¬ c = d := by rw [← eqE_iff]; simp
def eqSs (l m : List Sp) : Bool := eqL eqS l m
theorem eqSs_iff {l m : List Sp} : eqSs l m = true ↔ l = m := eqL_iff fun _ _ => eqS_iff
theorem eqSs_not {l m : List Sp} : eqSs l m = false ↔ ¬ l = m := by rw [← eqSs_iff]; simp
def eqEs (l m : List Ev) : Bool := eqL eqE l m
theorem eqEs_iff {l m : List Ev} : eqEs l m = true ↔ l = m := eqL_iff fun _ _ => eqE_iff
theorem eqEs_not {l m : List Ev} : eqEs l m = false ↔ ¬ l = m := by rw [← eqEs_iff]; simp
def eqH (a b : Hs) : Bool := eqSs a.s b.s && eqEs a.e b.e
theorem eqH_iff {a b : Hs} : eqH a b = true ↔ a = b := by
  cases a; cases b; simp [eqH, eqSs_iff, eqEs_iff]
theorem eqH_self (a : Hs) : eqH a a = true := eqH_iff.2 rfl
theorem eqH_not {a b : Hs} : eqH a b = false ↔ ¬ a = b := by rw [← eqH_iff]; simp

/-! ### What may be -/
def okC (c : Int) : Bool := decide (0 ≤ c) && decide (c < 64)
theorem okC_iff {c : Int} : okC c = true ↔ 0 ≤ c ∧ c < 64 := by simp [okC]
theorem okC_not {c : Int} : okC c = false ↔ ¬ (0 ≤ c ∧ c < 64) := by rw [← okC_iff]; simp
abbrev S (l : List Sp) (i : Nat) : Sp := l.getD i s0
abbrev E (l : List Ev) (i : Nat) : Ev := l.getD i e0
/-- The last span of a core ahead of a place. -/
def lst (l : List Sp) (c : Int) : Nat → Option Nat
  | 0 => none
  | n + 1 => if (S l n).co = c then some n else lst l c n
def opB (s : Sp) : Bool := s.en == 0
def ahB (a b : Sp) : Bool := !opB a && decide (a.en < b.st)
theorem ahB_iff {a b : Sp} : ahB a b = true ↔ a.en ≠ 0 ∧ a.en < b.st := by simp [ahB, opB]
/-- Its end may be. -/
def enB (s : Sp) : Bool := if s.en = 0 then eqR s.r r0 else decide (s.st ≤ s.en)
/-- When the span at a place may start, at the least. -/
def lo (l : List Sp) : Nat → Int
  | 0 => 1
  | n + 1 => (S l n).st
def bhB (l : List Sp) (i : Nat) (s : Sp) : Bool := match lst l s.co i with
  | none => true
  | some j => ahB (S l j) s
def spB (l : List Sp) (i : Nat) : Bool := okC (S l i).co && (decide (lo l i ≤ (S l i).st) && (enB (S l i) && bhB l i (S l i)))
def okS (l : List Sp) : Bool := decide (∀ i, i < l.length → spB l i = true)
theorem okS_iff {l : List Sp} : okS l = true ↔ ∀ i, i < l.length → spB l i = true := by simp [okS]
theorem okS_not {l : List Sp} : okS l = false ↔ ¬ ∀ i, i < l.length → spB l i = true := by rw [← okS_iff]; simp
def lp (l : List Ev) : Nat → Int
  | 0 => 0
  | n + 1 => (E l n).sp
/-- An event may follow one of that stamp. -/
def flB (e : Ev) (p : Int) : Bool := decide (0 ≤ e.k) && (decide (e.k ≤ 3) && (okC e.co && decide (p < e.sp)))
theorem flB_iff {e : Ev} {p : Int} : flB e p = true ↔ 0 ≤ e.k ∧ e.k ≤ 3 ∧ okC e.co = true ∧ p < e.sp := by simp [flB]
def evB (l : List Ev) (i : Nat) : Bool := flB (E l i) (lp l i)
def okE (l : List Ev) : Bool := decide (∀ i, i < l.length → evB l i = true)
theorem okE_iff {l : List Ev} : okE l = true ↔ ∀ i, i < l.length → evB l i = true := by simp [okE]
theorem okE_not {l : List Ev} : okE l = false ↔ ¬ ∀ i, i < l.length → evB l i = true := by rw [← okE_iff]; simp
def okH (h : Hs) : Bool := okS h.s && okE h.e
def ckE (h : Hs) : Int := if okH h then 0 else 180

/-! ### Who is not answered yet -/
def lastO (l : List Sp) (c : Int) : Option Nat := lst l c l.length
/-- The place, or -1. -/
def lastI (l : List Sp) (c : Int) : Int := match lastO l c with
  | none => -1
  | some i => i
def pnO (l : List Sp) (c : Int) : Option Nat := match lastO l c with
  | none => none
  | some i => if opB (S l i) then some i else none
def pnI (l : List Sp) (c : Int) : Int := match pnO l c with
  | none => 0
  | some i => i
def pnB (l : List Sp) (c : Int) : Bool := (pnO l c).isSome

/-! ### What is recorded -/
def invE (h : Hs) (c now : Int) : Int :=
  if okH h = false then 180 else if (okC c && decide (lo h.s h.s.length ≤ now)) = false then 2
  else match lastO h.s c with
    | none => 0
    | some j => if ahB (S h.s j) ⟨0, c0, now, 0, r0⟩ then 0 else 8
def invH (h : Hs) (c : Int) (x : C) (now : Int) : Hs := if invE h c now = 0 then ⟨h.s ++ [⟨c, x, now, 0, r0⟩], h.e⟩ else h
def ansE (h : Hs) (c now : Int) : Int :=
  if okH h = false then 180 else match pnO h.s c with
    | none => 7
    | some j => if now < (S h.s j).st then 2 else 0
def clS (s : Sp) (now : Int) (r : Rp) : Sp := ⟨s.co, s.c, s.st, now, r⟩
def ansH (h : Hs) (c : Int) (r : Rp) (now : Int) : Hs := if ansE h c now = 0 then ⟨h.s.set (pnI h.s c).toNat (clS (S h.s (pnI h.s c).toNat) now r), h.e⟩ else h
def notE (h : Hs) (e : Ev) : Int := if okH h = false then 180 else if flB e (lp h.e h.e.length) then 0 else 2
def notH (h : Hs) (e : Ev) : Hs := if notE h e = 0 then ⟨h.s, h.e ++ [e]⟩ else h
def doH (h : Hs) (a : Ac) : Hs := if a.k = 0 then invH h a.co a.c a.now else if a.k = 1 then ansH h a.co a.r a.now else notH h a.e
def doE (h : Hs) (a : Ac) : Int := if a.k = 0 then invE h a.co a.now else if a.k = 1 then ansE h a.co a.now else notE h a.e

/-! ### Facts -/
theorem lst_some {l : List Sp} {c : Int} {n i : Nat} (h : lst l c n = some i) : i < n ∧ (S l i).co = c ∧ ∀ j, i < j → j < n → (S l j).co ≠ c := by
  induction n with
  | zero => simp [lst] at h
  | succ n ih =>
    simp only [lst] at h
    split at h
    · next e => cases h; exact ⟨Nat.lt_succ_self _, e, fun j a b => by omega⟩
    · next e =>
      obtain ⟨a, b, d⟩ := ih h
      refine ⟨by omega, b, fun j p q => ?_⟩
      rcases Nat.lt_or_ge j n with y | y
      · exact d j p y
      · obtain rfl : j = n := by omega
        exact e
theorem lst_none {l : List Sp} {c : Int} {n : Nat} (h : lst l c n = none) : ∀ j, j < n → (S l j).co ≠ c := by
  induction n with
  | zero => intro j hj; omega
  | succ n ih =>
    simp only [lst] at h
    split at h
    · cases h
    · next e =>
      intro j hj
      rcases Nat.lt_or_ge j n with y | y
      · exact ih h j y
      · obtain rfl : j = n := by omega
        exact e
theorem lst_of {l : List Sp} {c : Int} {n i : Nat} (h1 : i < n) (h2 : (S l i).co = c) (h3 : ∀ j, i < j → j < n → (S l j).co ≠ c) : lst l c n = some i := by
  cases e : lst l c n with
  | none => exact absurd h2 (lst_none e i h1)
  | some k =>
    obtain ⟨a, b, d⟩ := lst_some e
    rcases Nat.lt_trichotomy i k with y | y | y
    · exact absurd b (h3 k y a)
    · rw [y]
    · exact absurd h2 (d i y h1)
theorem lst_no {l : List Sp} {c : Int} {n : Nat} (h : ∀ j, j < n → (S l j).co ≠ c) : lst l c n = none := by
  cases e : lst l c n with
  | none => rfl
  | some k => exact absurd (lst_some e).2.1 (h k (lst_some e).1)
/-- What is behind has no part. -/
theorem lst_same {l m : List Sp} {c : Int} {n : Nat} (h : ∀ j, j < n → (S l j).co = (S m j).co) : lst l c n = lst m c n := by
  induction n with
  | zero => rfl
  | succ n ih => simp only [lst]; rw [ih (fun j hj => h j (by omega)), h n (Nat.lt_succ_self _)]
theorem spB_iff {l : List Sp} {i : Nat} : spB l i = true ↔ okC (S l i).co = true ∧ lo l i ≤ (S l i).st ∧ enB (S l i) = true ∧ bhB l i (S l i) = true := by simp [spB]
theorem lo_one {l : List Sp} (h : okS l = true) : ∀ i, i ≤ l.length → 1 ≤ lo l i := by
  intro i
  induction i with
  | zero => intro _; exact Int.le_refl _
  | succ n ih =>
    intro hn
    have := (spB_iff.1 (okS_iff.1 h n (by omega))).2.1
    exact Int.le_trans (ih (by omega)) this
/-- Starts rise. -/
theorem st_le {l : List Sp} (h : okS l = true) {i j : Nat} (hij : i ≤ j) (hj : j < l.length) : (S l i).st ≤ (S l j).st := by
  induction j with
  | zero => obtain rfl : i = 0 := by omega
            exact Int.le_refl _
  | succ n ih =>
    rcases Nat.lt_or_ge i (n + 1) with y | y
    · exact Int.le_trans (ih (by omega) (by omega)) (spB_iff.1 (okS_iff.1 h (n + 1) hj)).2.1
    · obtain rfl : i = n + 1 := by omega
      exact Int.le_refl _
theorem st_one {l : List Sp} (h : okS l = true) {j : Nat} (hj : j < l.length) : 1 ≤ (S l j).st := Int.le_trans (lo_one h j (by omega)) (spB_iff.1 (okS_iff.1 h j hj)).2.1
theorem en_ge {l : List Sp} (h : okS l = true) {j : Nat} (hj : j < l.length) (h0 : (S l j).en ≠ 0) : (S l j).st ≤ (S l j).en := by
  have := (spB_iff.1 (okS_iff.1 h j hj)).2.2.1
  rw [enB, if_neg h0] at this
  simpa using this
/-- A CORE'S SPANS ARE ONE BEHIND THE OTHER. -/
theorem core_ah {l : List Sp} (h : okS l = true) {i : Nat} : ∀ j, i < j → j < l.length → (S l i).co = (S l j).co → ahB (S l i) (S l j) = true := by
  intro j
  induction j using Nat.strongRecOn with
  | _ j ih =>
    intro hij hj hc
    have hb := (spB_iff.1 (okS_iff.1 h j hj)).2.2.2
    simp only [bhB] at hb
    cases e : lst l (S l j).co j with
    | none => exact absurd hc (lst_none e i hij)
    | some k =>
      rw [e] at hb
      obtain ⟨k1, k2, k3⟩ := lst_some e
      rcases Nat.lt_trichotomy i k with y | y | y
      · have g := ih k k1 y (by omega) (hc.trans k2.symm)
        rw [ahB_iff] at g hb ⊢
        have := en_ge h (j := k) (by omega) hb.1
        exact ⟨g.1, by omega⟩
      · rw [y]; exact hb
      · exact absurd hc (k3 i y hij)
theorem ah_lt {l : List Sp} (h : okS l = true) {a b : Nat} (ha : a < l.length) (g : ahB (S l a) (S l b) = true) : a < b := by
  rw [ahB_iff] at g
  have h1 := en_ge h ha g.1
  rcases Nat.lt_or_ge a b with y | y
  · exact y
  · have := st_le h y ha
    omega
theorem ah_trans {l : List Sp} (h : okS l = true) {a b c : Nat} (hb : b < l.length) (g : ahB (S l a) (S l b) = true) (k : ahB (S l b) (S l c) = true) : ahB (S l a) (S l c) = true := by
  rw [ahB_iff] at g k ⊢
  have := en_ge h hb k.1
  exact ⟨g.1, by omega⟩
theorem ah_irr {l : List Sp} (h : okS l = true) {a : Nat} (ha : a < l.length) : ahB (S l a) (S l a) = false := by
  cases e : ahB (S l a) (S l a) with
  | false => rfl
  | true => exact absurd (ah_lt h ha e) (Nat.lt_irrefl _)

/-! ### What follows may be -/
theorem S_app1 {l : List Sp} {s : Sp} {i : Nat} (h : i < l.length) : S (l ++ [s]) i = S l i := by simp [S, List.getD, List.getElem?_append_left h]
theorem S_app2 {l : List Sp} {s : Sp} : S (l ++ [s]) l.length = s := by simp [S, List.getD]
theorem lst_app {l : List Sp} {s : Sp} {c : Int} {n : Nat} (h : n ≤ l.length) : lst (l ++ [s]) c n = lst l c n := lst_same fun j hj => by rw [S_app1 (by omega)]
theorem lo_app {l : List Sp} {s : Sp} {n : Nat} (h : n ≤ l.length) : lo (l ++ [s]) n = lo l n := by
  cases n with
  | zero => rfl
  | succ n => simp only [lo]; rw [S_app1 (by omega)]
theorem spB_app {l : List Sp} {s : Sp} {i : Nat} (h : i < l.length) : spB (l ++ [s]) i = spB l i := by
  have g : bhB (l ++ [s]) i (S l i) = bhB l i (S l i) := by
    simp only [bhB]
    rw [lst_app (by omega)]
    cases e : lst l (S l i).co i with
    | none => rfl
    | some j => simp only []; rw [S_app1 (by have := (lst_some e).1; omega)]
  simp only [spB]
  rw [S_app1 h, lo_app (by omega), g]
theorem E_app1 {l : List Ev} {s : Ev} {i : Nat} (h : i < l.length) : E (l ++ [s]) i = E l i := by simp [E, List.getD, List.getElem?_append_left h]
theorem E_app2 {l : List Ev} {s : Ev} : E (l ++ [s]) l.length = s := by simp [E, List.getD]
theorem lp_app {l : List Ev} {s : Ev} {n : Nat} (h : n ≤ l.length) : lp (l ++ [s]) n = lp l n := by
  cases n with
  | zero => rfl
  | succ n => simp only [lp]; rw [E_app1 (by omega)]
theorem okH_iff {h : Hs} : okH h = true ↔ okS h.s = true ∧ okE h.e = true := by simp [okH]
theorem inv_okH {h : Hs} {c now : Int} (e : invE h c now = 0) : okH h = true := by
  cases g : okH h with
  | true => rfl
  | false => rw [invE, if_pos g] at e; cases e
theorem inv_arg {h : Hs} {c now : Int} (e : invE h c now = 0) : okC c = true ∧ lo h.s h.s.length ≤ now := by
  rw [invE, if_neg (by rw [inv_okH e]; decide)] at e
  cases g : okC c && decide (lo h.s h.s.length ≤ now) with
  | true => simpa using g
  | false => rw [if_pos g] at e; cases e
theorem inv_ah {h : Hs} {c now : Int} (e : invE h c now = 0) : ∀ j, lastO h.s c = some j → ahB (S h.s j) ⟨0, c0, now, 0, r0⟩ = true := by
  intro j hj
  have ga := inv_arg e
  rw [invE, if_neg (by rw [inv_okH e]; decide), if_neg (by simp [ga.1, ga.2]), hj] at e
  simp only [] at e
  cases g : ahB (S h.s j) ⟨0, c0, now, 0, r0⟩ with
  | true => rfl
  | false => rw [g] at e; cases e
theorem inv_ok {h : Hs} {c now : Int} {x : C} (e : invE h c now = 0) : okH ⟨h.s ++ [⟨c, x, now, 0, r0⟩], h.e⟩ = true := by
  obtain ⟨h1, h2⟩ := okH_iff.1 (inv_okH e)
  obtain ⟨g1, g2⟩ := inv_arg e
  refine okH_iff.2 ⟨okS_iff.2 fun i hi => ?_, h2⟩
  have hi : i < (h.s ++ [(⟨c, x, now, 0, r0⟩ : Sp)]).length := hi
  rw [List.length_append, List.length_singleton] at hi
  rcases Nat.lt_or_ge i h.s.length with y | y
  · exact (spB_app y).trans (okS_iff.1 h1 i y)
  · obtain rfl : i = h.s.length := by omega
    refine spB_iff.2 ?_
    show okC (S (h.s ++ [(⟨c, x, now, 0, r0⟩ : Sp)]) h.s.length).co = true ∧ lo (h.s ++ [(⟨c, x, now, 0, r0⟩ : Sp)]) h.s.length ≤ (S (h.s ++ [(⟨c, x, now, 0, r0⟩ : Sp)]) h.s.length).st ∧ enB (S (h.s ++ [(⟨c, x, now, 0, r0⟩ : Sp)]) h.s.length) = true ∧ bhB (h.s ++ [(⟨c, x, now, 0, r0⟩ : Sp)]) h.s.length (S (h.s ++ [(⟨c, x, now, 0, r0⟩ : Sp)]) h.s.length) = true
    rw [S_app2, lo_app (Nat.le_refl _)]
    refine ⟨g1, g2, by simp [enB, eqR], ?_⟩
    simp only [bhB]
    rw [lst_app (Nat.le_refl _)]
    cases e9 : lst h.s c h.s.length with
    | none => rfl
    | some j =>
      have := inv_ah e j e9
      simp only []
      rw [S_app1 (lst_some e9).1]
      exact this
theorem pn_some {l : List Sp} {c : Int} {i : Nat} (h : pnO l c = some i) : lastO l c = some i ∧ i < l.length ∧ (S l i).co = c ∧ (S l i).en = 0 := by
  unfold pnO at h
  cases e : lastO l c with
  | none => rw [e] at h; cases h
  | some j =>
    rw [e] at h
    simp only [] at h
    split at h
    · next g =>
      cases h
      have := lst_some e
      exact ⟨rfl, this.1, this.2.1, by simpa [opB] using g⟩
    · cases h
theorem ans_okH {h : Hs} {c now : Int} (e : ansE h c now = 0) : okH h = true := by
  cases g : okH h with
  | true => rfl
  | false => rw [ansE, if_pos g] at e; cases e
theorem ans_some {h : Hs} {c now : Int} (e : ansE h c now = 0) : ∃ i, pnO h.s c = some i ∧ (S h.s i).st ≤ now := by
  rw [ansE, if_neg (by rw [ans_okH e]; decide)] at e
  cases g : pnO h.s c with
  | none => rw [g] at e; cases e
  | some i =>
    rw [g] at e
    simp only [] at e
    split at e
    · cases e
    · exact ⟨i, rfl, by omega⟩
theorem S_set {l : List Sp} {s : Sp} {i j : Nat} (h : i < l.length) : S (l.set i s) j = if j = i then s else S l j := by
  by_cases e : j = i
  · subst e; simp [S, List.getD, h]
  · rw [if_neg e]; simp [S, List.getD, Ne.symm e]
theorem set_co {l : List Sp} {i : Nat} (h : i < l.length) (now : Int) (r : Rp) (j : Nat) : (S (l.set i (clS (S l i) now r)) j).co = (S l j).co := by
  rw [S_set h]; split
  · next e => rw [e]; rfl
  · rfl
theorem set_st {l : List Sp} {i : Nat} (h : i < l.length) (now : Int) (r : Rp) (j : Nat) : (S (l.set i (clS (S l i) now r)) j).st = (S l j).st := by
  rw [S_set h]; split
  · next e => rw [e]; rfl
  · rfl
theorem ans_ok' {l : List Sp} {c now : Int} {r : Rp} {i : Nat} (h : okS l = true) (hp : pnO l c = some i) (hn : (S l i).st ≤ now) : okS (l.set i (clS (S l i) now r)) = true := by
  obtain ⟨hl, hi, hc, he⟩ := pn_some hp
  refine okS_iff.2 fun j hj => ?_
  have hj : j < l.length := by simpa using hj
  obtain ⟨b1, b2, b3, b4⟩ := spB_iff.1 (okS_iff.1 h j hj)
  have h1 := st_one h hi
  refine spB_iff.2 ⟨by rw [set_co hi]; exact b1, ?_, ?_, ?_⟩
  · rw [set_st hi]
    cases j with
    | zero => exact b2
    | succ n => simp only [lo] at b2 ⊢; rw [set_st hi]; exact b2
  · rw [S_set hi]
    split
    · have h0 : now ≠ 0 := by omega
      have e2 : (clS (S l i) now r).en = now := rfl
      rw [enB, e2, if_neg h0]
      exact decide_eq_true hn
    · exact b3
  · have hq : lst (l.set i (clS (S l i) now r)) (S l j).co j = lst l (S l j).co j := lst_same fun k _ => set_co hi now r k
    simp only [bhB] at b4 ⊢
    rw [set_co hi, hq]
    cases e : lst l (S l j).co j with
    | none => rfl
    | some k =>
      rw [e] at b4
      simp only [] at b4 ⊢
      obtain ⟨k1, k2, k3⟩ := lst_some e
      rw [ahB_iff, set_st hi, S_set hi]
      have hk : k ≠ i := by
        rintro rfl
        rw [ahB_iff] at b4
        exact b4.1 he
      rw [if_neg hk]
      exact ahB_iff.1 b4
theorem pnI_of {l : List Sp} {c : Int} {i : Nat} (h : pnO l c = some i) : pnI l c = i := by simp [pnI, h]
theorem ansH_of {h : Hs} {c now : Int} {r : Rp} {i : Nat} (e : ansE h c now = 0) (hp : pnO h.s c = some i) : ansH h c r now = ⟨h.s.set i (clS (S h.s i) now r), h.e⟩ := by
  rw [ansH, if_pos e, pnI_of hp]; rfl
theorem ansH_no {h : Hs} {c now : Int} {r : Rp} (e : ansE h c now ≠ 0) : ansH h c r now = h := by rw [ansH, if_neg e]
theorem invH_of {h : Hs} {c now : Int} {x : C} (e : invE h c now = 0) : invH h c x now = ⟨h.s ++ [⟨c, x, now, 0, r0⟩], h.e⟩ := by rw [invH, if_pos e]
theorem invH_no {h : Hs} {c now : Int} {x : C} (e : invE h c now ≠ 0) : invH h c x now = h := by rw [invH, if_neg e]
theorem notH_of {h : Hs} {e : Ev} (g : notE h e = 0) : notH h e = ⟨h.s, h.e ++ [e]⟩ := by rw [notH, if_pos g]
theorem notH_no {h : Hs} {e : Ev} (g : notE h e ≠ 0) : notH h e = h := by rw [notH, if_neg g]
theorem ans_ok {h : Hs} {c now : Int} {r : Rp} (hk : okH h = true) : okH (ansH h c r now) = true := by
  by_cases e : ansE h c now = 0
  · obtain ⟨i, hp, hn⟩ := ans_some e
    rw [ansH_of e hp]
    exact okH_iff.2 ⟨ans_ok' (okH_iff.1 hk).1 hp hn, (okH_iff.1 hk).2⟩
  · rw [ansH_no e]; exact hk
theorem inv_ok2 {h : Hs} {c now : Int} {x : C} (hk : okH h = true) : okH (invH h c x now) = true := by
  by_cases e : invE h c now = 0
  · rw [invH_of e]; exact inv_ok e
  · rw [invH_no e]; exact hk
theorem not_ok {h : Hs} {e : Ev} (hk : okH h = true) : okH (notH h e) = true := by
  by_cases g : notE h e = 0
  · rw [notH_of g]
    obtain ⟨h1, h2⟩ := okH_iff.1 hk
    refine okH_iff.2 ⟨h1, okE_iff.2 fun i hi => ?_⟩
    have hi : i < (h.e ++ [e]).length := hi
    rw [List.length_append, List.length_singleton] at hi
    show flB (E (h.e ++ [e]) i) (lp (h.e ++ [e]) i) = true
    rcases Nat.lt_or_ge i h.e.length with y | y
    · rw [E_app1 y, lp_app (by omega)]; exact okE_iff.1 h2 i y
    · obtain rfl : i = h.e.length := by omega
      rw [E_app2, lp_app (Nat.le_refl _)]
      rw [notE, if_neg (by rw [hk]; decide)] at g
      cases q : flB e (lp h.e h.e.length) with
      | true => rfl
      | false => rw [q] at g; cases g
  · rw [notH_no g]; exact hk
/-- WHAT FOLLOWS A HISTORY THAT MAY BE MAY BE. -/
theorem do_ok {h : Hs} (a : Ac) (hk : okH h = true) : okH (doH h a) = true := by
  unfold doH
  split
  · exact inv_ok2 hk
  · split
    · exact ans_ok hk
    · exact not_ok hk
theorem h0_ok : okH h0 = true := rfl
theorem inv_len (h : Hs) (c : Int) (x : C) (now : Int) : (invH h c x now).s.length ≤ h.s.length + 1 ∧ (invH h c x now).e.length ≤ h.e.length + 1 := by
  unfold invH; split <;> simp
theorem ans_len (h : Hs) (c : Int) (r : Rp) (now : Int) : (ansH h c r now).s.length = h.s.length ∧ (ansH h c r now).e.length = h.e.length := by
  unfold ansH; split <;> simp
theorem not_len (h : Hs) (e : Ev) : (notH h e).s.length ≤ h.s.length + 1 ∧ (notH h e).e.length ≤ h.e.length + 1 := by
  unfold notH; split <;> simp
theorem do_len (h : Hs) (a : Ac) : (doH h a).s.length ≤ h.s.length + 1 ∧ (doH h a).e.length ≤ h.e.length + 1 := by
  unfold doH
  split
  · exact inv_len _ _ _ _
  · split
    · have := ans_len h a.co a.r a.now; omega
    · exact not_len _ _
end Go.Proofs.Ytmnkbkhfonngeaa.Hi
