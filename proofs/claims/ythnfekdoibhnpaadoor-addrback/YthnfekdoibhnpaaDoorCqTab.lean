/- The table of the greatest badges; worlds that come later; a region in which every operation yields one value in every later world. -/
import Derived.Test.YthnfekdoibhnpaaDoorCpW1
import Derived.Lib.LaidTab
import Derived.Deep.QuietTactic
import Derived.BigQuiet
namespace Go.Proofs.YthnfekdoibhnpaaDoor.Cp
open Go.RowKit

def mbCells : Array Value := #[.int .i64 0, .int .i64 0, .int .i64 7, .int .i64 0, .int .i64 65535, .int .i64 65535]

/-- THE TABLE LIES AS THE PROGRAM LAID IT. -/
structure Tabs (w : World) : Prop where
  m : ∃ (t : TypeId) (fr : Nat × Nat), w.heap[0]? = some (.cells mbCells t fr)
theorem keep_block {w w' : World} {k : Nat} {o : Obj} (hb : Below w.heap.size w w') (h : w.heap[k]? = some o) : w'.heap[k]? = some o :=
  (hb.block k (Array.getElem?_eq_some_iff.1 h).1).trans h
theorem keep_cells {w w' : World} {k : Nat} {cs : Array Value} (hb : Below w.heap.size w w') (h : ∃ (t : TypeId) (fr : Nat × Nat), w.heap[k]? = some (.cells cs t fr)) : ∃ (t : TypeId) (fr : Nat × Nat), w'.heap[k]? = some (.cells cs t fr) := by
  obtain ⟨t, fr, h⟩ := h
  exact ⟨t, fr, keep_block hb h⟩
theorem Tabs.below {w w' : World} (h : Tabs w) (hb : Below w.heap.size w w') : Tabs w' := ⟨keep_cells hb h.m⟩
theorem Tabs.mb {w : World} (h : Tabs w) (k : Nat) (hk : k < 6) : w.cell? ⟨0, k, none⟩ = some (.int .i64 (most k)) := by
  obtain ⟨t, fr, h⟩ := h.m
  have : k = 0 ∨ k = 1 ∨ k = 2 ∨ k = 3 ∨ k = 4 ∨ k = 5 := by omega
  rcases this with rfl | rfl | rfl | rfl | rfl | rfl <;> simp [World.cell?, h, mbCells, most]

/-! ### Later worlds -/

/-- A WORLD THAT CAME AFTER w. -/
structure Later (w : World) where
  now : World
  low : Below w.heap.size w now
theorem Later.cell {w : World} (g : Later w) {a : Addr} {v : Value} (h : w.cell? a = some v) : g.now.cell? a = some v := by
  have hlt : a.block < w.heap.size := by
    unfold World.cell? at h
    cases hb : w.heap[a.block]? with
    | none => simp [hb] at h
    | some o => exact (Array.getElem?_eq_some_iff.1 hb).1
  exact (g.low.cell hlt).trans h
/-- A REGION THAT DRAWS ITS ORDER, EVERY OPERATION OF WHICH YIELDS ONE VALUE IN EVERY LATER WORLD: ONE WALK. -/
theorem wp_region_later {P : Program} {id : Nat} {Q : Exit → Act → World → Prop} {a : Act} {w : World} {l : List Oper} (hm : P.follows .mixedOrders = true) (hB : Region.lexB .any l.toArray = true)
    (h : wpQuiet P l.toArray (fun w' => ∃ g : Later w, w' = g.now) (fun a' => ∀ w', (∃ g : Later w, w' = g.now) → Q .normal a' w') l a) : (Code.region id l.toArray true).wp P Q a w :=
  wp_region_quiet (C := fun w' => ∃ g : Later w, w' = g.now) hm hB ⟨⟨_, (Below.refl _ w).drew⟩, rfl⟩ (by simpa using h)
theorem later_call {P : Program} {f : FuncId} {args : Array Value} {w : World} {g : Later w} {v : Value}
    (h : Calls P f args g.now fun e w' => e = .returned v ∧ Below g.now.heap.size g.now w') : Calls P f args g.now fun e w'' => e = .returned v ∧ ∃ g' : Later w, w'' = g'.now :=
  h.mono fun _ w' ⟨he, hb⟩ => ⟨he, ⟨w', q_trans g.low hb⟩, rfl⟩
theorem later_same {P : Program} {f : FuncId} {args : Array Value} {w : World} {g : Later w} {v : Value}
    (h : Calls P f args g.now fun e w' => e = .returned v ∧ w' = g.now) : Calls P f args g.now fun e w'' => e = .returned v ∧ ∃ g' : Later w, w'' = g'.now :=
  h.mono fun _ w' ⟨he, hb⟩ => ⟨he, ⟨w', hb ▸ g.low⟩, rfl⟩

/-! ### A capability's cells -/

/-- THE FIVE NUMBERS LIE IN THE BLOCK b. -/
structure In (w : World) (b : Nat) (c : K) : Prop where
  c0 : w.cell? ⟨b, 0, none⟩ = some (.int .i64 c.t)
  c1 : w.cell? ⟨b, 1, none⟩ = some (.int .i64 c.r)
  c2 : w.cell? ⟨b, 2, none⟩ = some (.int .i64 c.b)
  c3 : w.cell? ⟨b, 3, none⟩ = some (.int .i64 c.o)
  c4 : w.cell? ⟨b, 4, none⟩ = some (.int .i64 c.g)
theorem in_new (w : World) (c : K) (T : TypeId) : In (w.alloc (.cells #[.int .i64 c.t, .int .i64 c.r, .int .i64 c.b, .int .i64 c.o, .int .i64 c.g] T)) w.heap.size c := by
  constructor <;> simp
theorem In.later {w : World} {b : Nat} {c : K} (h : In w b c) (g : Later w) : In g.now b c := ⟨g.cell h.c0, g.cell h.c1, g.cell h.c2, g.cell h.c3, g.cell h.c4⟩
theorem In.always {w : World} {b : Nat} {c : K} (h : In w b c) : (∀ g : Later w, g.now.cell? ⟨b, 0, none⟩ = some (.int .i64 c.t)) ∧ (∀ g : Later w, g.now.cell? ⟨b, 1, none⟩ = some (.int .i64 c.r)) ∧ (∀ g : Later w, g.now.cell? ⟨b, 2, none⟩ = some (.int .i64 c.b)) ∧ (∀ g : Later w, g.now.cell? ⟨b, 3, none⟩ = some (.int .i64 c.o)) ∧ (∀ g : Later w, g.now.cell? ⟨b, 4, none⟩ = some (.int .i64 c.g)) :=
  ⟨fun g => g.cell h.c0, fun g => g.cell h.c1, fun g => g.cell h.c2, fun g => g.cell h.c3, fun g => g.cell h.c4⟩
theorem In.below {w w' : World} {b : Nat} {c : K} (h : In w b c) (hb : Below w.heap.size w w') : In w' b c := h.later ⟨w', hb⟩
end Go.Proofs.YthnfekdoibhnpaaDoor.Cp
