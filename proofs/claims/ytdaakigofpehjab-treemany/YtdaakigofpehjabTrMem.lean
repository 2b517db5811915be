/- Branches in memory. -/
import Derived.Test.YtdaakigofpehjabTrMem0
import Derived.Laws.StructEq
namespace Go.Proofs.Ytdaakigofpehjab.Tr
open Go.RowKit

theorem add_zero_addr (a : Addr) : a.add 0 = a := by simp [Addr.add]
def bC (b : Br) : List Value := [.int .i64 b.1.1, .int .i64 b.1.2, .int .i64 b.2.1, .bool b.2.2]
def brs (l : List Br) : List Value := l.flatMap bC
theorem len_brs (l : List Br) : (brs l).length = l.length * 4 := by
  induction l with
  | nil => rfl
  | cons o r ih => simp only [brs, List.flatMap_cons, List.length_append, List.length_cons] at ih ⊢; rw [ih]; simp [bC]; omega
theorem brs_app (l m : List Br) : brs (l ++ m) = brs l ++ brs m := by simp [brs]
theorem brs_nil : brs [] = [] := rfl
theorem brs_one (l : List Br) : ∀ u ∈ brs l, u.oneCell' = true := by
  intro u hu
  simp only [brs, List.mem_flatMap, bC, List.mem_cons, List.not_mem_nil, or_false] at hu
  obtain ⟨r, _, rfl | rfl | rfl | rfl⟩ := hu <;> rfl
theorem brs_at (l : List Br) (j i : Nat) (hi : i < 4) (h : j < l.length) : (brs l)[j * 4 + i]? = (bC (l.getD j zB))[i]? := by
  induction l generalizing j with
  | nil => simp at h
  | cons o r ih =>
    cases j with
    | zero => simp only [brs, List.flatMap_cons]; rw [List.getElem?_append_left (by simp [bC]; omega)]; simp
    | succ j =>
      have := ih j (by simpa using h)
      simp only [brs, List.flatMap_cons] at this ⊢
      rw [List.getElem?_append_right (by simp [bC]; omega)]
      rw [show (j + 1) * 4 + i - (bC o).length = j * 4 + i by simp [bC]; omega, this]
      simp
/-- A branch lies at an address. -/
structure AtB (w : World) (a : Addr) (b : Br) : Prop where
  c0 : w.cell? a = some (.int .i64 b.1.1)
  c1 : w.cell? ⟨a.block, a.off + 1, none⟩ = some (.int .i64 b.1.2)
  c2 : w.cell? ⟨a.block, a.off + 2, none⟩ = some (.int .i64 b.2.1)
  c3 : w.cell? ⟨a.block, a.off + 3, none⟩ = some (.bool b.2.2)
theorem atB_of {w : World} {ao : Option Addr} {l : List Br} (h : Row w ao (brs l)) (k : Nat) (hk : k < l.length) : ∃ a, ao = some a ∧ AtB w (a.add (k * 4)) (l.getD k zB) := by
  have g := fun (i : Nat) (hi : i < 4) (u : Value) (hu : (bC (l.getD k zB))[i]? = some u) => h.cell (k * 4 + i) u ((brs_at l k i hi hk).trans hu)
  obtain ⟨a, rfl, h0⟩ := g 0 (by omega) _ rfl
  refine ⟨a, rfl, h0, ?_, ?_, ?_⟩
  all_goals rw [add_off _ _ (by decide), add_add]
  · obtain ⟨_, e, h⟩ := g 1 (by omega) _ rfl
    cases e
    exact h
  · obtain ⟨_, e, h⟩ := g 2 (by omega) _ rfl
    cases e
    exact h
  · obtain ⟨_, e, h⟩ := g 3 (by omega) _ rfl
    cases e
    exact h
theorem AtB.lt {w : World} {a : Addr} {b : Br} (h : AtB w a b) : a.block < w.heap.size := World.block_lt_of_cell? w _ h.c0
theorem AtB.below {w w' : World} {a : Addr} {b : Br} (h : AtB w a b) (hb : Below w.heap.size w w') : AtB w' a b :=
  ⟨(hb.cell h.lt).trans h.c0, (hb.cell (p := ⟨a.block, a.off + 1, none⟩) h.lt).trans h.c1, (hb.cell (p := ⟨a.block, a.off + 2, none⟩) h.lt).trans h.c2, (hb.cell (p := ⟨a.block, a.off + 3, none⟩) h.lt).trans h.c3⟩
theorem atB_new (w : World) (b : Br) (t : TypeId) : AtB (w.alloc (.cells #[.int .i64 b.1.1, .int .i64 b.1.2, .int .i64 b.2.1, .bool b.2.2] t)) ⟨w.heap.size, 0, none⟩ b := by constructor <;> simp
theorem AtB.always {w : World} {a : Addr} {b : Br} (h : AtB w a b) : (∀ g : Later w, g.now.cell? a = some (.int .i64 b.1.1)) ∧ (∀ g : Later w, g.now.cell? ⟨a.block, a.off + 1, none⟩ = some (.int .i64 b.1.2)) ∧ (∀ g : Later w, g.now.cell? ⟨a.block, a.off + 2, none⟩ = some (.int .i64 b.2.1)) ∧ (∀ g : Later w, g.now.cell? ⟨a.block, a.off + 3, none⟩ = some (.bool b.2.2)) :=
  ⟨fun g => g.cell h.c0, fun g => g.cell h.c1, fun g => g.cell h.c2, fun g => g.cell h.c3⟩
/-- A list of branches that lies somewhere. -/
structure HasB (w : World) (ao : Option Addr) (n cap : Nat) (l : List Br) : Prop where
  len : n = l.length
  nil : ao = none → cap = 0
  cap : n ≤ cap
  row : Row w ao (brs l)
theorem HasB.below {w w' : World} {ao : Option Addr} {n cap : Nat} {l : List Br} (h : HasB w ao n cap l) (hb : Below w.heap.size w w') : HasB w' ao n cap l := ⟨h.len, h.nil, h.cap, h.row.below hb⟩
theorem HasB.kept {S : Nat → Prop} {w w' : World} {ao : Option Addr} {n cap : Nat} {l : List Br} (h : HasB w ao n cap l) (k : Kept S w w') (hs : Off S ao (brs l)) : HasB w' ao n cap l := ⟨h.len, h.nil, h.cap, h.row.kept k hs⟩
theorem HasB.at {w : World} {ao : Option Addr} {n cap : Nat} {l : List Br} (h : HasB w ao n cap l) (j : Nat) (hj : j < n) : ∃ a, ao = some a ∧ AtB w (a.add (j * 4)) (l.getD j zB) := atB_of h.row j (by have := h.len; omega)
theorem hasB_nil (w : World) : HasB w none 0 0 [] := ⟨rfl, fun _ => rfl, Nat.le_refl _, row_nil _ _⟩
theorem HasB.take {w : World} {ao : Option Addr} {n cap : Nat} {l : List Br} (h : HasB w ao n cap l) (k : Nat) (hk : k ≤ n) : HasB w ao k cap (l.take k) := by
  refine ⟨by have := h.len; simp; omega, h.nil, Nat.le_trans hk h.cap, ⟨fun j u hu => ?_⟩⟩
  refine h.row.cell j u ?_
  have e : brs l = brs (l.take k) ++ brs (l.drop k) := by rw [← brs_app, List.take_append_drop]
  rw [e, List.getElem?_append_left (List.getElem?_eq_some_iff.1 hu).1]
  exact hu
/-- A list that a call has made: a row of its own from B on. -/
def MineB (w : World) (B : Nat) (ao : Option Addr) (n cap : Nat) (l : List Br) : Prop := n = l.length ∧ w.ownsRow B 35 4 (.slice ao n cap) n (brs l)
theorem MineB.has {w : World} {B n cap : Nat} {ao : Option Addr} {l : List Br} (h : MineB w B ao n cap l) : HasB w ao n cap l := ⟨h.1, (own_row h.2).2.2.1, (own_row h.2).2.1, (own_row h.2).1⟩
theorem MineB.below {w w' : World} {B n cap : Nat} {ao : Option Addr} {l : List Br} (h : MineB w B ao n cap l) (hb : Below w.heap.size w w') : MineB w' B ao n cap l := ⟨h.1, own_below h.2 hb⟩
theorem mineB_nil (w : World) (B : Nat) : MineB w B none 0 0 [] := ⟨rfl, World.ownsRow_nil _ _ _ _⟩
theorem MineB.append {w w1 : World} {B n m cap cap' : Nat} {ao ao' : Option Addr} {l k : List Br} (h : MineB w B ao n cap l) (hB : B ≤ w.heap.size) (hk : m = k.length)
    (h1 : w1.ownsRow B 35 4 (.slice ao' (n + m) cap') (n + m) (brs l ++ brs k)) (hg : w.grownBy w1 (Value.ownBlock (.slice ao n cap))) : MineB w1 B ao' (n + m) cap' (l ++ k) ∧ Below B w w1 := by
  refine ⟨⟨by rw [h.1, hk]; simp, ?_⟩, (Below.refl B w).grown hg hB (fun k e => (World.ownsRow.lt h.2 k e).1)⟩
  rw [brs_app]
  exact h1
theorem one_branch (w : World) (b : Br) (t : TypeId) : Row (w.alloc (.cells #[.int .i64 b.1.1, .int .i64 b.1.2, .int .i64 b.2.1, .bool b.2.2] t)) (some ⟨w.heap.size, 0, none⟩) (brs [b]) := by
  refine ⟨fun j u hu => ⟨_, rfl, ?_⟩⟩
  match j, hu with
  | 0, hu => simp [brs, bC] at hu; subst hu; simp [Addr.add]
  | 1, hu => simp [brs, bC] at hu; subst hu; simp [Addr.add]
  | 2, hu => simp [brs, bC] at hu; subst hu; simp [Addr.add]
  | 3, hu => simp [brs, bC] at hu; subst hu; simp [Addr.add]
theorem infoB : (Try.prog.info? 35).map (fun i => (i.zero, i.size, i.bytes)) = some (some (.agg #[.int .i64 0, .int .i64 0, .int .i64 0, .bool false]), 4, 32) := by kernel_rfl

/-! ### '==' -/
theorem eqk2 (a b : P) (w : World) (n : Nat) : (Op.equalIn (n + 2) 24 (.agg #[.int .i64 a.1, .int .i64 a.2]) (.agg #[.int .i64 b.1, .int .i64 b.2])).run Try.prog w = .ok (decide (a = b)) w := by
  have u3 := Try.underlying3
  have a3 := Try.isAgg3
  have z3 := Try.sizeOf3
  have hS : Try.prog.underlying 24 = some (.struct (Try.prog.fieldsOf 24)) := by kernel_rfl
  rw [run_equalIn_agg w (n + 1) 24 _ _ hS (by kernel_rfl)]
  simp only [Program.fieldsOf, Try.underlying24]
  go_simp
  by_cases h1 : a.1 = b.1 <;> by_cases h2 : a.2 = b.2 <;> simp [h1, h2, Prod.ext_iff]
theorem eqk_yes {a b : P} (h : a = b) (w : World) : (Op.equalIn 10000 24 (.agg #[.int .i64 a.1, .int .i64 a.2]) (.agg #[.int .i64 b.1, .int .i64 b.2])).run Try.prog w = .ok true w := by rw [show (10000 : Nat) = 9998 + 2 from rfl, eqk2]; simp [h]
theorem eqk_no {a b : P} (h : ¬ a = b) (w : World) : (Op.equalIn 10000 24 (.agg #[.int .i64 a.1, .int .i64 a.2]) (.agg #[.int .i64 b.1, .int .i64 b.2])).run Try.prog w = .ok false w := by rw [show (10000 : Nat) = 9998 + 2 from rfl, eqk2]; simp [h]
theorem eqb2 (a b : Br) (w : World) : (Op.equalIn 10000 35 (.agg #[.int .i64 a.1.1, .int .i64 a.1.2, .int .i64 a.2.1, .bool a.2.2]) (.agg #[.int .i64 b.1.1, .int .i64 b.1.2, .int .i64 b.2.1, .bool b.2.2])).run Try.prog w = .ok (decide (a = b)) w := by
  have u3 := Try.underlying3
  have a3 := Try.isAgg3
  have z3 := Try.sizeOf3
  have u4 := Try.underlying4
  have a4 := Try.isAgg4
  have z4 := Try.sizeOf4
  have a5 := Try.isAgg24
  have z5 := Try.sizeOf24
  have hS : Try.prog.underlying 35 = some (.struct (Try.prog.fieldsOf 35)) := by kernel_rfl
  rw [show (10000 : Nat) = 9999 + 1 from rfl, run_equalIn_agg w 9999 35 _ _ hS (by kernel_rfl)]
  simp only [Program.fieldsOf, Try.underlying35]
  go_simp
  by_cases h1 : a.1.1 = b.1.1 <;> by_cases h2 : a.1.2 = b.1.2 <;> by_cases h3 : a.2.1 = b.2.1 <;> by_cases h4 : a.2.2 = b.2.2 <;> simp [h1, h2, h3, h4, Prod.ext_iff]
theorem eqb_yes {a b : Br} (h : a = b) (w : World) : (Op.equalIn 10000 35 (.agg #[.int .i64 a.1.1, .int .i64 a.1.2, .int .i64 a.2.1, .bool a.2.2]) (.agg #[.int .i64 b.1.1, .int .i64 b.1.2, .int .i64 b.2.1, .bool b.2.2])).run Try.prog w = .ok true w := by rw [eqb2]; simp [h]
theorem eqb_no {a b : Br} (h : ¬ a = b) (w : World) : (Op.equalIn 10000 35 (.agg #[.int .i64 a.1.1, .int .i64 a.1.2, .int .i64 a.2.1, .bool a.2.2]) (.agg #[.int .i64 b.1.1, .int .i64 b.1.2, .int .i64 b.2.1, .bool b.2.2])).run Try.prog w = .ok false w := by rw [eqb2]; simp [h]
end Go.Proofs.Ytdaakigofpehjab.Tr
