/- Capabilities and nodes in memory; '==' of steps, keys and capabilities. -/
import Derived.Test.YtilannincbcgkaaDoorAdMem0
import Derived.Laws.StructEq
namespace Go.Proofs.YtilannincbcgkaaDoor.Ad
open Go.RowKit
open Cp (K noneB someB okB eqK noneB_iff eqK_iff)

/-! ### Capabilities as cells -/
def kC (k : K) : List Value := [.int .i64 k.t, .int .i64 k.r, .int .i64 k.b, .int .i64 k.o, .int .i64 k.g]
def kps (l : List K) : List Value := l.flatMap kC
theorem len_kps (l : List K) : (kps l).length = l.length * 5 := by
  induction l with
  | nil => rfl
  | cons o r ih => simp only [kps, List.flatMap_cons, List.length_append, List.length_cons] at ih ⊢; rw [ih]; simp [kC]; omega
theorem kps_app (l m : List K) : kps (l ++ m) = kps l ++ kps m := by simp [kps]
theorem kps_nil : kps [] = [] := rfl
theorem kps_one (l : List K) : ∀ u ∈ kps l, u.oneCell' = true := by
  intro u hu
  simp only [kps, List.mem_flatMap, kC, List.mem_cons, List.not_mem_nil, or_false] at hu
  obtain ⟨r, _, rfl | rfl | rfl | rfl | rfl⟩ := hu <;> rfl
theorem kps_at (l : List K) (j i : Nat) (hi : i < 5) (h : j < l.length) : (kps l)[j * 5 + i]? = (kC (l.getD j K.zero))[i]? := by
  induction l generalizing j with
  | nil => simp at h
  | cons o r ih =>
    cases j with
    | zero => simp only [kps, List.flatMap_cons]; rw [List.getElem?_append_left (by simp [kC]; omega)]; simp
    | succ j =>
      have := ih j (by simpa using h)
      simp only [kps, List.flatMap_cons] at this ⊢
      rw [List.getElem?_append_right (by simp [kC]; omega)]
      rw [show (j + 1) * 5 + i - (kC o).length = j * 5 + i by simp [kC]; omega, this]
      simp
/-- A capability lies at an address. -/
structure AtK (w : World) (a : Addr) (k : K) : Prop where
  c0 : w.cell? a = some (.int .i64 k.t)
  c1 : w.cell? ⟨a.block, a.off + 1, none⟩ = some (.int .i64 k.r)
  c2 : w.cell? ⟨a.block, a.off + 2, none⟩ = some (.int .i64 k.b)
  c3 : w.cell? ⟨a.block, a.off + 3, none⟩ = some (.int .i64 k.o)
  c4 : w.cell? ⟨a.block, a.off + 4, none⟩ = some (.int .i64 k.g)
theorem atK_of {w : World} {ao : Option Addr} {l : List K} (h : Row w ao (kps l)) (k : Nat) (hk : k < l.length) : ∃ a, ao = some a ∧ AtK w (a.add (k * 5)) (l.getD k K.zero) := by
  have g := fun (i : Nat) (hi : i < 5) (u : Value) (hu : (kC (l.getD k K.zero))[i]? = some u) => h.cell (k * 5 + i) u ((kps_at l k i hi hk).trans hu)
  obtain ⟨a, rfl, h0⟩ := g 0 (by omega) _ rfl
  have n : ∀ (i : Nat) (hi : i < 5) (h0 : i ≠ 0) (u : Value) (_ : (kC (l.getD k K.zero))[i]? = some u), w.cell? ⟨(a.add (k * 5)).block, (a.add (k * 5)).off + i, none⟩ = some u := by
    intro i hi h0 u hu
    rw [add_off _ _ h0, add_add]
    obtain ⟨_, e, h⟩ := g i hi _ hu
    cases e
    exact h
  exact ⟨a, rfl, h0, n 1 (by omega) (by omega) _ rfl, n 2 (by omega) (by omega) _ rfl, n 3 (by omega) (by omega) _ rfl, n 4 (by omega) (by omega) _ rfl⟩
theorem AtK.lt {w : World} {a : Addr} {k : K} (h : AtK w a k) : a.block < w.heap.size := World.block_lt_of_cell? w _ h.c0
theorem AtK.below {w w' : World} {a : Addr} {k : K} (h : AtK w a k) (hb : Below w.heap.size w w') : AtK w' a k :=
  ⟨(hb.cell h.lt).trans h.c0, (hb.cell (p := ⟨a.block, a.off + 1, none⟩) h.lt).trans h.c1, (hb.cell (p := ⟨a.block, a.off + 2, none⟩) h.lt).trans h.c2, (hb.cell (p := ⟨a.block, a.off + 3, none⟩) h.lt).trans h.c3, (hb.cell (p := ⟨a.block, a.off + 4, none⟩) h.lt).trans h.c4⟩
theorem AtK.always {w : World} {a : Addr} {k : K} (h : AtK w a k) : (∀ g : Later w, g.now.cell? a = some (.int .i64 k.t)) ∧ (∀ g : Later w, g.now.cell? ⟨a.block, a.off + 1, none⟩ = some (.int .i64 k.r)) ∧ (∀ g : Later w, g.now.cell? ⟨a.block, a.off + 2, none⟩ = some (.int .i64 k.b)) ∧ (∀ g : Later w, g.now.cell? ⟨a.block, a.off + 3, none⟩ = some (.int .i64 k.o)) ∧ (∀ g : Later w, g.now.cell? ⟨a.block, a.off + 4, none⟩ = some (.int .i64 k.g)) :=
  ⟨fun g => g.cell h.c0, fun g => g.cell h.c1, fun g => g.cell h.c2, fun g => g.cell h.c3, fun g => g.cell h.c4⟩
theorem atK_new (w : World) (k : K) (t : TypeId) : AtK (w.alloc (.cells #[.int .i64 k.t, .int .i64 k.r, .int .i64 k.b, .int .i64 k.o, .int .i64 k.g] t)) ⟨w.heap.size, 0, none⟩ k := by constructor <;> simp
/-- A list of capabilities that lies somewhere. -/
structure HasK (w : World) (ao : Option Addr) (n cap : Nat) (l : List K) : Prop where
  len : n = l.length
  nil : ao = none → cap = 0
  cap : n ≤ cap
  row : Row w ao (kps l)
theorem HasK.below {w w' : World} {ao : Option Addr} {n cap : Nat} {l : List K} (h : HasK w ao n cap l) (hb : Below w.heap.size w w') : HasK w' ao n cap l := ⟨h.len, h.nil, h.cap, h.row.below hb⟩
theorem HasK.kept {S : Nat → Prop} {w w' : World} {ao : Option Addr} {n cap : Nat} {l : List K} (h : HasK w ao n cap l) (k : Kept S w w') (hs : Off S ao (kps l)) : HasK w' ao n cap l := ⟨h.len, h.nil, h.cap, h.row.kept k hs⟩
theorem hasK_nil (w : World) : HasK w none 0 0 [] := ⟨rfl, fun _ => rfl, Nat.le_refl _, row_nil _ _⟩
theorem HasP.kept {S : Nat → Prop} {w w' : World} {ao : Option Addr} {n cap : Nat} {l : List P} (h : HasP w ao n cap l) (k : Kept S w w') (hs : Off S ao (prs l)) : HasP w' ao n cap l := ⟨h.len, h.nil, h.cap, h.row.kept k hs⟩
theorem hasP_nil (w : World) : HasP w none 0 0 [] := ⟨rfl, fun _ => rfl, Nat.le_refl _, row_nil _ _⟩
/-! ### Nodes -/
/-- A slice's head. -/
structure Hd where
  o : Option Addr
  n : Nat
  c : Nat
def Hd.v (h : Hd) : Value := .slice h.o h.n h.c
def Hd.zero : Hd := ⟨none, 0, 0⟩
def hds (hs : List Hd) : List Value := hs.map Hd.v
theorem hds_one (hs : List Hd) : ∀ u ∈ hds hs, u.oneCell' = true := by
  intro u hu
  simp only [hds, List.mem_map] at hu
  obtain ⟨x, _, rfl⟩ := hu
  rfl
theorem len_hds (hs : List Hd) : (hds hs).length = hs.length := by simp [hds]
theorem hds_at (hs : List Hd) (j : Nat) (h : j < hs.length) : (hds hs)[j]? = some (hs.getD j Hd.zero).v := by simp [hds, List.getD, h]
/-- NODES THAT LIE SOMEWHERE: their heads, and each where it lies. -/
structure HasN (w : World) (ao : Option Addr) (n cap : Nat) (t : List (List K)) : Prop where
  len : n = t.length
  nil : ao = none → cap = 0
  le : n ≤ cap
  has : ∃ hs : List Hd, hs.length = t.length ∧ Row w ao (hds hs) ∧ ∀ i, i < t.length → HasK w (hs.getD i Hd.zero).o (hs.getD i Hd.zero).n (hs.getD i Hd.zero).c (t.getD i [])
theorem HasN.below {w w' : World} {ao : Option Addr} {n cap : Nat} {t : List (List K)} (h : HasN w ao n cap t) (hb : Below w.heap.size w w') : HasN w' ao n cap t := by
  obtain ⟨hs, h1, h2, h3⟩ := h.has
  exact ⟨h.len, h.nil, h.le, hs, h1, h2.below hb, fun i hi => (h3 i hi).below hb⟩
theorem HasN.cell {w : World} {ao : Option Addr} {n cap : Nat} {t : List (List K)} (h : HasN w ao n cap t) (j : Nat) (hj : j < n) : ∃ a x m c, ao = some a ∧ w.cell? (a.add j) = some (.slice x m c) ∧ HasK w x m c (t.getD j []) := by
  obtain ⟨hs, h1, h2, h3⟩ := h.has
  obtain ⟨a, e, hc⟩ := h2.cell j _ (hds_at hs j (by have := h.len; omega))
  exact ⟨a, _, _, _, e, hc, h3 j (by have := h.len; omega)⟩
theorem HasK.at {w : World} {ao : Option Addr} {n cap : Nat} {l : List K} (h : HasK w ao n cap l) (j : Nat) (hj : j < n) : ∃ a, ao = some a ∧ AtK w (a.add (j * 5)) (l.getD j K.zero) := atK_of h.row j (by have := h.len; omega)
theorem HasP.at {w : World} {ao : Option Addr} {n cap : Nat} {l : List P} (h : HasP w ao n cap l) (j : Nat) (hj : j < n) : ∃ a, ao = some a ∧ AtP w (a.add (j * 2)) (l.getD j (0, 0)) := atP_of h.row j (by have := h.len; omega)

/-! ### '==' -/
theorem eqs2 (a b : P) (w : World) : (Op.equalIn 10000 70 (.agg #[.int .i64 a.1, .int .i64 a.2]) (.agg #[.int .i64 b.1, .int .i64 b.2])).run Tryd.prog w = .ok (decide (a = b)) w := by
  have u3 := Tryd.underlying3
  have a3 := Tryd.isAgg3
  have z3 := Tryd.sizeOf3
  have hS : Tryd.prog.underlying 70 = some (.struct (Tryd.prog.fieldsOf 70)) := by kernel_rfl
  rw [show (10000 : Nat) = 9999 + 1 from rfl, run_equalIn_agg w 9999 70 _ _ hS (by kernel_rfl)]
  simp only [Program.fieldsOf, Tryd.underlying70]
  go_simp
  by_cases h1 : a.1 = b.1 <;> by_cases h2 : a.2 = b.2 <;> simp [h1, h2, Prod.ext_iff]
theorem eqs_yes {a b : P} (h : a = b) (w : World) : (Op.equalIn 10000 70 (.agg #[.int .i64 a.1, .int .i64 a.2]) (.agg #[.int .i64 b.1, .int .i64 b.2])).run Tryd.prog w = .ok true w := by rw [eqs2]; simp [h]
theorem eqs_no {a b : P} (h : ¬ a = b) (w : World) : (Op.equalIn 10000 70 (.agg #[.int .i64 a.1, .int .i64 a.2]) (.agg #[.int .i64 b.1, .int .i64 b.2])).run Tryd.prog w = .ok false w := by rw [eqs2]; simp [h]
end Go.Proofs.YtilannincbcgkaaDoor.Ad
