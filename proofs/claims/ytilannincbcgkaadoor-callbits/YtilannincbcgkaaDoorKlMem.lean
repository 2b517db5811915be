/- Words in memory; a call's cells; the tables; '==' of calls. -/
import Derived.Test.YtilannincbcgkaaDoorAdMem0
import Derived.Test.YtilannincbcgkaaDoorKlFacts
import Derived.Lib.LaidTab
import Derived.Laws.StructEq
namespace Go.Proofs.YtilannincbcgkaaDoor.Kl
open Go.RowKit
open Ad (q_trans q_alloc q_set ret_int ret_bool hid Row Row.below Kept own_row row_nil add_block Later wp_region_later later_call)

theorem later_same {P : Program} {f : FuncId} {args : Array Value} {w : World} {g : Later w} {v : Value}
    (h : Calls P f args g.now fun e w' => e = .returned v ∧ w' = g.now) : Calls P f args g.now fun e w'' => e = .returned v ∧ ∃ g' : Later w, w'' = g'.now :=
  h.mono fun _ w' ⟨he, hb⟩ => ⟨he, ⟨w', hb ▸ g.low⟩, rfl⟩
/-! ### Words -/
abbrev vU (l : List Int) : List Value := l.map (Value.int .u64)
theorem vU_at (l : List Int) (j : Nat) (h : j < l.length) : (vU l)[j]? = some (.int .u64 (l.getD j 0)) := by simp [vU, List.getD, h]
theorem vU_one (l : List Int) : ∀ u ∈ vU l, u.oneCell' = true := by
  intro u hu
  simp only [vU, List.mem_map] at hu
  obtain ⟨x, _, rfl⟩ := hu
  rfl
/-- A list of words that lies somewhere. -/
structure HasU (w : World) (ao : Option Addr) (n cap : Nat) (l : List Int) : Prop where
  len : n = l.length
  nil : ao = none → cap = 0
  le : n ≤ cap
  row : Row w ao (vU l)
theorem HasU.below {w w' : World} {ao : Option Addr} {n cap : Nat} {l : List Int} (h : HasU w ao n cap l) (hb : Below w.heap.size w w') : HasU w' ao n cap l := ⟨h.len, h.nil, h.le, h.row.below hb⟩
theorem HasU.cell {w : World} {ao : Option Addr} {n cap : Nat} {l : List Int} (h : HasU w ao n cap l) (j : Nat) (hj : j < n) : ∃ a, ao = some a ∧ w.cell? (a.add j) = some (.int .u64 (l.getD j 0)) :=
  h.row.cell j _ (vU_at l j (by have := h.len; omega))
/-- .. in a block from B on. -/
structure MineU (w : World) (B : Nat) (ao : Option Addr) (n cap : Nat) (l : List Int) : Prop where
  has : HasU w ao n cap l
  new : ∀ a, ao = some a → B ≤ a.block
theorem hasU_nil (w : World) : HasU w none 0 0 [] := ⟨rfl, fun _ => rfl, Nat.le_refl _, row_nil _ _⟩
theorem mineU_nil (w : World) (B : Nat) : MineU w B none 0 0 [] := ⟨hasU_nil w, fun a h => by cases h⟩
theorem own_mineU {w : World} {B n cap : Nat} {e : TypeId} {ao : Option Addr} {l : List Int} (h : w.ownsRow B e 1 (.slice ao n cap) n (vU l)) : MineU w B ao n cap l := by
  obtain ⟨h1, h2, h3, h4⟩ := own_row h
  exact ⟨⟨by have := h.1; simp at this; omega, h3, h2, h1⟩, fun a e => (h4 a e).1⟩
theorem four_new (w : World) (x a b v : Int) (t : TypeId) : MineU (w.alloc (.cells #[.int .u64 x, .int .u64 a, .int .u64 b, .int .u64 v] t)) w.heap.size (some ⟨w.heap.size, 0, none⟩) 4 4 [x, a, b, v] := by
  refine ⟨⟨rfl, (fun h => by cases h), Nat.le_refl _, ⟨fun j u hu => ⟨_, rfl, ?_⟩⟩⟩, fun a e => by cases e; exact Nat.le_refl _⟩
  match j, hu with
  | 0, hu => simp [vU] at hu; subst hu; simp [Addr.add]
  | 1, hu => simp [vU] at hu; subst hu; simp [Addr.add]
  | 2, hu => simp [vU] at hu; subst hu; simp [Addr.add]
  | 3, hu => simp [vU] at hu; subst hu; simp [Addr.add]
theorem infoU : (Tryd.prog.info? 22).map (fun i => (i.zero, i.size, i.bytes)) = some (some (.int .u64 0), 1, 8) := by kernel_rfl

/-! ### A call's cells -/
/-- THE EIGHT NUMBERS LIE IN THE BLOCK b. -/
structure In (w : World) (b : Nat) (c : C) : Prop where
  c0 : w.cell? ⟨b, 0, none⟩ = some (.int .i64 c.k)
  c1 : w.cell? ⟨b, 1, none⟩ = some (.int .u64 c.a)
  c2 : w.cell? ⟨b, 2, none⟩ = some (.int .u64 c.b)
  c3 : w.cell? ⟨b, 3, none⟩ = some (.int .i64 c.r)
  c4 : w.cell? ⟨b, 4, none⟩ = some (.int .i64 c.g)
  c5 : w.cell? ⟨b, 5, none⟩ = some (.int .i64 c.t)
  c6 : w.cell? ⟨b, 6, none⟩ = some (.int .i64 c.s)
  c7 : w.cell? ⟨b, 7, none⟩ = some (.int .i64 c.v)
theorem in_new (w : World) (c : C) (T : TypeId) : In (w.alloc (.cells #[.int .i64 c.k, .int .u64 c.a, .int .u64 c.b, .int .i64 c.r, .int .i64 c.g, .int .i64 c.t, .int .i64 c.s, .int .i64 c.v] T)) w.heap.size c := by
  constructor <;> simp
theorem In.later {w : World} {b : Nat} {c : C} (h : In w b c) (g : Later w) : In g.now b c := ⟨g.cell h.c0, g.cell h.c1, g.cell h.c2, g.cell h.c3, g.cell h.c4, g.cell h.c5, g.cell h.c6, g.cell h.c7⟩
theorem In.below {w w' : World} {b : Nat} {c : C} (h : In w b c) (hb : Below w.heap.size w w') : In w' b c := h.later ⟨w', hb⟩
theorem In.always {w : World} {b : Nat} {c : C} (h : In w b c) : (∀ g : Later w, g.now.cell? ⟨b, 0, none⟩ = some (.int .i64 c.k)) ∧ (∀ g : Later w, g.now.cell? ⟨b, 1, none⟩ = some (.int .u64 c.a)) ∧ (∀ g : Later w, g.now.cell? ⟨b, 2, none⟩ = some (.int .u64 c.b)) ∧ (∀ g : Later w, g.now.cell? ⟨b, 3, none⟩ = some (.int .i64 c.r)) ∧ (∀ g : Later w, g.now.cell? ⟨b, 4, none⟩ = some (.int .i64 c.g)) ∧ (∀ g : Later w, g.now.cell? ⟨b, 5, none⟩ = some (.int .i64 c.t)) ∧ (∀ g : Later w, g.now.cell? ⟨b, 6, none⟩ = some (.int .i64 c.s)) ∧ (∀ g : Later w, g.now.cell? ⟨b, 7, none⟩ = some (.int .i64 c.v)) :=
  ⟨fun g => g.cell h.c0, fun g => g.cell h.c1, fun g => g.cell h.c2, fun g => g.cell h.c3, fun g => g.cell h.c4, fun g => g.cell h.c5, fun g => g.cell h.c6, fun g => g.cell h.c7⟩
theorem cell_lt {w : World} {a : Addr} {v : Value} (h : w.cell? a = some v) : a.block < w.heap.size := World.block_lt_of_cell? w a h
theorem In.lt {w : World} {b : Nat} {c : C} (h : In w b c) : b < w.heap.size := cell_lt (a := ⟨b, 0, none⟩) h.c0
/-- .. in a block that may be written. -/
structure Own (w : World) (b : Nat) (c : C) : Prop where
  held : In w b c
  fr : ∀ j, w.frozen? ⟨b, j, none⟩ = false
theorem own_new (w : World) (c : C) (T : TypeId) : Own (w.alloc (.cells #[.int .i64 c.k, .int .u64 c.a, .int .u64 c.b, .int .i64 c.r, .int .i64 c.g, .int .i64 c.t, .int .i64 c.s, .int .i64 c.v] T)) w.heap.size c := ⟨in_new w c T, fun j => by simp⟩
theorem Own.below {w w' : World} {b : Nat} {c : C} (h : Own w b c) (hb : Below w.heap.size w w') : Own w' b c := ⟨h.held.below hb, fun j => (hb.frozen h.held.lt).trans (h.fr j)⟩
theorem Own.alloc {w : World} {b : Nat} {c : C} (h : Own w b c) (o : Obj) : Own (w.alloc o) b c := h.below (q_alloc (Below.refl _ _) o)

/-! ### The tables -/
def fldCells : Array Value := #[.int .i64 0, .int .i64 4, .int .i64 4, .int .i64 4, .int .i64 8, .int .i64 4, .int .i64 12, .int .i64 16, .int .i64 28, .int .i64 21]
def nmS (k : Nat) : ByteArray := match k with
  | 1 => ⟨#[109, 105, 110, 116]⟩
  | 2 => ⟨#[109, 111, 118, 101]⟩
  | 3 => ⟨#[100, 101, 108, 101, 116, 101]⟩
  | 4 => ⟨#[114, 101, 118, 111, 107, 101]⟩
  | 5 => ⟨#[114, 101, 116, 121, 112, 101]⟩
  | 6 => ⟨#[114, 101, 97, 100]⟩
  | 7 => ⟨#[119, 114, 105, 116, 101]⟩
  | 8 => ⟨#[115, 101, 110, 100]⟩
  | 9 => ⟨#[114, 101, 99, 118]⟩
  | 10 => ⟨#[115, 105, 103, 110, 97, 108]⟩
  | 11 => ⟨#[119, 97, 105, 116]⟩
  | 12 => ⟨#[108, 111, 111, 107]⟩
  | _ => ⟨#[]⟩
def nmCells : Array Value := #[.string (nmS 0), .string (nmS 1), .string (nmS 2), .string (nmS 3), .string (nmS 4), .string (nmS 5), .string (nmS 6), .string (nmS 7), .string (nmS 8), .string (nmS 9), .string (nmS 10), .string (nmS 11), .string (nmS 12)]
/-- THE TABLES LIE AS THE PROGRAM LAID THEM. -/
structure Tabs (w : World) : Prop where
  f : ∃ (t : TypeId) (fr : Nat × Nat), w.heap[0]? = some (.cells fldCells t fr)
  n : ∃ (t : TypeId) (fr : Nat × Nat), w.heap[1]? = some (.cells nmCells t fr)
theorem keep_block {w w' : World} {k : Nat} {o : Obj} (hb : Below w.heap.size w w') (h : w.heap[k]? = some o) : w'.heap[k]? = some o :=
  (hb.block k (Array.getElem?_eq_some_iff.1 h).1).trans h
theorem keep_cells {w w' : World} {k : Nat} {cs : Array Value} (hb : Below w.heap.size w w') (h : ∃ (t : TypeId) (fr : Nat × Nat), w.heap[k]? = some (.cells cs t fr)) : ∃ (t : TypeId) (fr : Nat × Nat), w'.heap[k]? = some (.cells cs t fr) := by
  obtain ⟨t, fr, h⟩ := h
  exact ⟨t, fr, keep_block hb h⟩
theorem Tabs.below {w w' : World} (h : Tabs w) (hb : Below w.heap.size w w') : Tabs w' := ⟨keep_cells hb h.f, keep_cells hb h.n⟩
theorem Tabs.nm {w : World} (h : Tabs w) (k : Nat) (hk : k < 13) : w.cell? ⟨1, k, none⟩ = some (.string (nmS k)) := by
  obtain ⟨t, fr, h⟩ := h.n
  have : k = 0 ∨ k = 1 ∨ k = 2 ∨ k = 3 ∨ k = 4 ∨ k = 5 ∨ k = 6 ∨ k = 7 ∨ k = 8 ∨ k = 9 ∨ k = 10 ∨ k = 11 ∨ k = 12 := by omega
  rcases this with rfl | rfl | rfl | rfl | rfl | rfl | rfl | rfl | rfl | rfl | rfl | rfl | rfl <;> simp [World.cell?, h, nmCells]
theorem Tabs.fa {w : World} (h : Tabs w) (k : Nat) (hk : k < 5) : w.cell? ⟨0, k * 2, none⟩ = some (.int .i64 (fldAt k)) := by
  obtain ⟨t, fr, h⟩ := h.f
  have : k = 0 ∨ k = 1 ∨ k = 2 ∨ k = 3 ∨ k = 4 := by omega
  rcases this with rfl | rfl | rfl | rfl | rfl <;> simp [World.cell?, h, fldCells, fldAt]
theorem Tabs.fw {w : World} (h : Tabs w) (k : Nat) (hk : k < 5) : w.cell? ⟨0, k * 2 + 1, none⟩ = some (.int .i64 (fldW k)) := by
  obtain ⟨t, fr, h⟩ := h.f
  have : k = 0 ∨ k = 1 ∨ k = 2 ∨ k = 3 ∨ k = 4 := by omega
  rcases this with rfl | rfl | rfl | rfl | rfl <;> simp [World.cell?, h, fldCells, fldW]
theorem Tabs.all {w : World} (h : Tabs w) : w.cell? ⟨0, 0, none⟩ = some (.int .i64 0) ∧ w.cell? ⟨0, 1, none⟩ = some (.int .i64 4) ∧ w.cell? ⟨0, 2, none⟩ = some (.int .i64 4) ∧ w.cell? ⟨0, 3, none⟩ = some (.int .i64 4) ∧ w.cell? ⟨0, 4, none⟩ = some (.int .i64 8) ∧ w.cell? ⟨0, 5, none⟩ = some (.int .i64 4) ∧ w.cell? ⟨0, 6, none⟩ = some (.int .i64 12) ∧ w.cell? ⟨0, 7, none⟩ = some (.int .i64 16) ∧ w.cell? ⟨0, 8, none⟩ = some (.int .i64 28) ∧ w.cell? ⟨0, 9, none⟩ = some (.int .i64 21) := by
  obtain ⟨t, fr, h⟩ := h.f
  simp [World.cell?, h, fldCells]

/-! ### '==' -/
theorem eq8 (c d : C) (w : World) : (Op.equalIn 10000 24 (.agg #[.int .i64 c.k, .int .u64 c.a, .int .u64 c.b, .int .i64 c.r, .int .i64 c.g, .int .i64 c.t, .int .i64 c.s, .int .i64 c.v]) (.agg #[.int .i64 d.k, .int .u64 d.a, .int .u64 d.b, .int .i64 d.r, .int .i64 d.g, .int .i64 d.t, .int .i64 d.s, .int .i64 d.v])).run Tryd.prog w = .ok (eqC c d) w := by
  have u3 := Tryd.underlying3
  have a3 := Tryd.isAgg3
  have z3 := Tryd.sizeOf3
  have u2 := Tryd.underlying2
  have a2 := Tryd.isAgg2
  have z2 := Tryd.sizeOf2
  have u1 := Tryd.underlying22
  have a1 := Tryd.isAgg22
  have z1 := Tryd.sizeOf22
  have hS : Tryd.prog.underlying 24 = some (.struct (Tryd.prog.fieldsOf 24)) := by kernel_rfl
  rw [show (10000 : Nat) = 9999 + 1 from rfl, run_equalIn_agg w 9999 24 _ _ hS (by kernel_rfl)]
  simp only [Program.fieldsOf, Tryd.underlying24]
  go_simp
  unfold eqC
  by_cases h1 : c.k = d.k <;> by_cases h2 : c.a = d.a <;> by_cases h3 : c.b = d.b <;> by_cases h4 : c.r = d.r <;> by_cases h5 : c.g = d.g <;> by_cases h6 : c.t = d.t <;> by_cases h7 : c.s = d.s <;> by_cases h8 : c.v = d.v <;> simp [h1, h2, h3, h4, h5, h6, h7, h8]
end Go.Proofs.YtilannincbcgkaaDoor.Kl
