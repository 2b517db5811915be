/- What lies in memory, and what a call leaves as it was. -/
import Derived.Test.YtaihabkacjbfjaaCeW1
import Derived.Laws.AppendOwnNone
import Derived.Deep.AppendLies
import Derived.Laws.MakeOwn
import Derived.OneCell
namespace Go.Proofs.Ytaihabkacjbfjaa.Ce
open Go.RowKit

theorem hid {p : Prop} (h : p) : Hid p := h
/-- ALL BLOCKS THAT WERE THERE, BUT THOSE OF S, ARE AS THEY WERE. -/
structure Kept (S : Nat → Prop) (w w' : World) : Prop where
  os : w'.os = w.os
  tape : w'.tape = w.tape
  output : w'.output = w.output
  size : w.heap.size ≤ w'.heap.size
  block : ∀ k, k < w.heap.size → ¬ S k → w'.heap[k]? = w.heap[k]?
theorem Kept.refl (S : Nat → Prop) (w : World) : Kept S w w := ⟨rfl, rfl, rfl, Nat.le_refl _, fun _ _ _ => rfl⟩
theorem Kept.trans {S S' : Nat → Prop} {a b c : World} (h : Kept S a b) (k : Kept S' b c) (hs : ∀ i, i < a.heap.size → S' i → S i) : Kept S a c :=
  ⟨k.os.trans h.os, k.tape.trans h.tape, k.output.trans h.output, Nat.le_trans h.size k.size, fun i hi hn => (k.block i (Nat.lt_of_lt_of_le hi h.size) (fun e => hn (hs i hi e))).trans (h.block i hi hn)⟩
theorem Kept.mono {S S' : Nat → Prop} {a b : World} (h : Kept S a b) (hs : ∀ i, i < a.heap.size → S i → S' i) : Kept S' a b :=
  ⟨h.os, h.tape, h.output, h.size, fun i hi hn => h.block i hi (fun e => hn (hs i hi e))⟩
theorem kept_below {S : Nat → Prop} {a b : World} (h : Below a.heap.size a b) : Kept S a b := ⟨h.os, h.tape, h.output, h.size, fun i hi _ => h.block i hi⟩
theorem Kept.alloc {S : Nat → Prop} {a b : World} (h : Kept S a b) (o : Obj) : Kept S a (b.alloc o) := h.trans (S' := S) (kept_below (q_alloc (Below.refl _ _) o)) (fun _ _ e => e)
theorem Kept.then {S : Nat → Prop} {a b c : World} (h : Kept S a b) (k : Below b.heap.size b c) : Kept S a c := h.trans (S' := S) (kept_below k) (fun _ _ e => e)
theorem Kept.drew {S : Nat → Prop} {a b : World} (h : Kept S a b) : Kept S a b.drew := ⟨h.os, h.tape, h.output, h.size, h.block⟩
theorem Kept.drewN {S : Nat → Prop} {a b : World} (h : Kept S a b) (n : Nat) : Kept S a (b.drewN n) := ⟨h.os, h.tape, h.output, h.size, h.block⟩
theorem kept_set (S : Nat → Prop) (w : World) (p : Addr) (u : Value) (hp : S p.block) : Kept S w (w.setCell p u) :=
  ⟨rfl, rfl, rfl, by simp [World.setCell], fun k _ hn => Below.heap_setCell w p u k (fun e => hn (e ▸ hp))⟩
theorem Kept.setCell {S : Nat → Prop} {a b : World} (h : Kept S a b) (p : Addr) (u : Value) (hp : p.block < a.heap.size → S p.block) : Kept S a (b.setCell p u) :=
  h.trans (S' := fun k => k = p.block) (kept_set _ b p u rfl) (fun i hi e => by subst e; exact hp hi)
theorem kept_grown {w w' : World} {row : Option Nat} (h : w.grownBy w' row) : Kept (fun k => some k = row) w w' := ⟨h.os, h.tape, h.output, h.size, h.block⟩
theorem Kept.below {S : Nat → Prop} {a b : World} (h : Kept S a b) (B : Nat) (hB : B ≤ a.heap.size) (hs : ∀ i, S i → B ≤ i) : Below B a b :=
  ⟨h.os, h.tape, h.output, h.size, fun i hi => h.block i (Nat.lt_of_lt_of_le hi hB) (fun e => by have := hs i e; omega)⟩
theorem Kept.cell {S : Nat → Prop} {a b : World} (h : Kept S a b) {p : Addr} {v : Value} (hc : a.cell? p = some v) (hn : ¬ S p.block) : b.cell? p = some v :=
  (World.cell?_of_block (h.block p.block (World.block_lt_of_cell? a p hc) hn)).trans hc

/-! ### Cells that lie one behind the other -/
structure Row (w : World) (ao : Option Addr) (cs : List Value) : Prop where
  cell : ∀ (j : Nat) (u : Value), cs[j]? = some u → ∃ a, ao = some a ∧ w.cell? (a.add j) = some u
/-- They lie in none of the blocks S. -/
def Off (S : Nat → Prop) (ao : Option Addr) (cs : List Value) : Prop := 0 < cs.length → ∀ a, ao = some a → ¬ S a.block
theorem add_block (a : Addr) (i : Nat) : (a.add i).block = a.block := by unfold Addr.add; split <;> rfl
theorem Row.kept {S : Nat → Prop} {w w' : World} {ao : Option Addr} {cs : List Value} (h : Row w ao cs) (k : Kept S w w') (hs : Off S ao cs) : Row w' ao cs := by
  refine ⟨fun j u hu => ?_⟩
  obtain ⟨a, e, hc⟩ := h.cell j u hu
  refine ⟨a, e, k.cell hc ?_⟩
  rw [add_block]
  exact hs (by have := (List.getElem?_eq_some_iff.1 hu).1; omega) a e
theorem Row.below {w w' : World} {ao : Option Addr} {cs : List Value} (h : Row w ao cs) (hb : Below w.heap.size w w') : Row w' ao cs :=
  h.kept (S := fun _ => False) (kept_below hb) (fun _ _ _ e => e)
theorem Row.lt {w : World} {ao : Option Addr} {cs : List Value} (h : Row w ao cs) (h0 : 0 < cs.length) : ∃ a, ao = some a ∧ a.block < w.heap.size := by
  obtain ⟨a, e, hc⟩ := h.cell 0 cs[0] (by simp)
  exact ⟨a, e, by have := World.block_lt_of_cell? w _ hc; rwa [add_block] at this⟩
theorem row_nil (w : World) (ao : Option Addr) : Row w ao [] := ⟨fun j u h => by simp at h⟩

theorem own_row {w : World} {B n size cap : Nat} {e : TypeId} {ao : Option Addr} {cs : List Value} (h : w.ownsRow B e size (.slice ao n cap) n cs) :
    Row w ao cs ∧ n ≤ cap ∧ (ao = none → cap = 0) ∧ (∀ a, ao = some a → B ≤ a.block ∧ a.block < w.heap.size) := by
  have hc := fun g hg => h.cells (g := g) hg
  have hl := h.lt
  rcases h.2 with ⟨e, rfl⟩ | ⟨g, cap', cur, e, _, _, hle, _, _, _⟩
  · cases e
    refine ⟨?_, Nat.le_refl _, fun _ => rfl, fun a e => by cases e⟩
    have : cs = [] := List.eq_nil_of_length_eq_zero (by simpa using h.1)
    subst this
    exact row_nil _ _
  · cases e
    refine ⟨⟨fun j u hu => ⟨_, rfl, hc g rfl j u hu⟩⟩, hle, (fun h => by cases h), fun a e => ?_⟩
    cases e
    exact hl g rfl

/-- A row is told by where it lies: the same at a greater bound below it. -/
theorem own_base {w : World} {B B' n size : Nat} {e : TypeId} {v : Value} {cs : List Value} (h : w.ownsRow B e size v n cs) (hb : ∀ k, v.ownBlock = some k → B' ≤ k) : w.ownsRow B' e size v n cs := by
  refine ⟨h.1, ?_⟩
  rcases h.2 with hn | ⟨g, cap, cur, rfl, _, rest⟩
  · exact .inl hn
  · exact .inr ⟨g, cap, cur, rfl, hb g rfl, rest⟩
theorem own_kept {S : Nat → Prop} {w w' : World} {B n size : Nat} {e : TypeId} {v : Value} {cs : List Value} (h : w.ownsRow B e size v n cs) (k : Kept S w w') (hs : ∀ i, v.ownBlock = some i → ¬ S i) : w'.ownsRow B e size v n cs := by
  refine ⟨h.1, ?_⟩
  rcases h.2 with hn | ⟨g, cap, cur, rfl, hb, hg, rest⟩
  · exact .inl hn
  · refine .inr ⟨g, cap, cur, rfl, hb, ?_, rest⟩
    rw [k.block g (Array.getElem?_eq_some_iff.1 hg).1 (hs g rfl)]
    exact hg
theorem own_below {w w' : World} {B n size : Nat} {e : TypeId} {v : Value} {cs : List Value} (h : w.ownsRow B e size v n cs) (hb : Below w.heap.size w w') : w'.ownsRow B e size v n cs :=
  own_kept (S := fun _ => False) h (kept_below hb) (fun _ _ e => e)

/-- One cell of a row is written. -/
theorem own_set {w : World} {B n cap g j : Nat} {e : TypeId} {cs : List Value} (u : Value) (h : w.ownsRow B e 1 (.slice (some ⟨g, 0, none⟩) n cap) n cs) :
    (w.setCell ⟨g, j, none⟩ u).ownsRow B e 1 (.slice (some ⟨g, 0, none⟩) n cap) n (cs.set j u) := by
  refine ⟨by simpa using h.1, ?_⟩
  rcases h.2 with ⟨e, _⟩ | ⟨g', cap', cur, e, hb, hg, h1, h2, h3, h4⟩
  · cases e
  · cases e
    refine .inr ⟨g, cap, cur.setIfInBounds j u, rfl, hb, ?_, h1, h2, by simpa using h3, ?_⟩
    · have hlt := (Array.getElem?_eq_some_iff.1 hg).1
      simp [World.setCell, Array.getElem?_modify, hg]
    · rw [← h4]
      simp [List.take_set]
theorem own_frozen {w : World} {B n cap g j size : Nat} {e : TypeId} {cs : List Value} (h : w.ownsRow B e size (.slice (some ⟨g, 0, none⟩) n cap) n cs) : w.frozen? ⟨g, j, none⟩ = false := by
  rcases h.2 with ⟨e, _⟩ | ⟨g', cap', cur, e, hb, hg, h1, h2, h3, h4⟩
  · cases e
  · cases e
    simp [World.frozen?, hg]

/-! ### Numbers, steps, records as cells -/
abbrev vals (l : List Int) : List Value := l.map (Value.int .i64)
def opC (o : O) : List Value := [.int .i64 o.k, .int .i64 o.c, .int .i64 o.a, .int .i64 o.v, .int .i64 o.w]
def rcC (r : Rc) : List Value := [.int .i64 r.o.k, .int .i64 r.o.c, .int .i64 r.o.a, .int .i64 r.o.v, .int .i64 r.o.w, .int .i64 r.got, .bool r.ok]
def ops (l : List O) : List Value := l.flatMap opC
def recs (l : List Rc) : List Value := l.flatMap rcC
theorem len_vals (l : List Int) : (vals l).length = l.length := by simp
theorem len_ops (l : List O) : (ops l).length = l.length * 5 := by
  induction l with
  | nil => rfl
  | cons o r ih => simp only [ops, List.flatMap_cons, List.length_append, List.length_cons] at ih ⊢; rw [ih]; simp [opC]; omega
theorem len_recs (l : List Rc) : (recs l).length = l.length * 7 := by
  induction l with
  | nil => rfl
  | cons o r ih => simp only [recs, List.flatMap_cons, List.length_append, List.length_cons] at ih ⊢; rw [ih]; simp [rcC]; omega
theorem vals_at (l : List Int) (j : Nat) (h : j < l.length) : (vals l)[j]? = some (.int .i64 (l.getD j 0)) := by simp [vals, List.getD, h]
theorem ops_at (l : List O) (j i : Nat) (hi : i < 5) (h : j < l.length) : (ops l)[j * 5 + i]? = (opC (l.getD j O.zero))[i]? := by
  induction l generalizing j with
  | nil => simp at h
  | cons o r ih =>
    cases j with
    | zero => simp only [ops, List.flatMap_cons]; rw [List.getElem?_append_left (by simp [opC]; omega)]; simp
    | succ j =>
      have := ih j (by simpa using h)
      simp only [ops, List.flatMap_cons] at this ⊢
      rw [List.getElem?_append_right (by simp [opC]; omega)]
      rw [show (j + 1) * 5 + i - (opC o).length = j * 5 + i by simp [opC]; omega, this]
      simp
theorem recs_at (l : List Rc) (j i : Nat) (hi : i < 7) (h : j < l.length) : (recs l)[j * 7 + i]? = (rcC (l.getD j Rc.zero))[i]? := by
  induction l generalizing j with
  | nil => simp at h
  | cons o r ih =>
    cases j with
    | zero => simp only [recs, List.flatMap_cons]; rw [List.getElem?_append_left (by simp [rcC]; omega)]; simp
    | succ j =>
      have := ih j (by simpa using h)
      simp only [recs, List.flatMap_cons] at this ⊢
      rw [List.getElem?_append_right (by simp [rcC]; omega)]
      rw [show (j + 1) * 7 + i - (rcC o).length = j * 7 + i by simp [rcC]; omega, this]
      simp
theorem recs_snoc (l : List Rc) (r : Rc) : recs (l ++ [r]) = recs l ++ rcC r := by simp [recs]
theorem vals_one (l : List Int) : ∀ u ∈ vals l, u.oneCell' = true := by
  intro u hu
  simp only [vals, List.mem_map] at hu
  obtain ⟨x, _, rfl⟩ := hu
  rfl
theorem rcC_one (r : Rc) : ∀ u ∈ rcC r, u.oneCell' = true := by
  intro u hu
  simp only [rcC, List.mem_cons, List.not_mem_nil, or_false] at hu
  rcases hu with rfl | rfl | rfl | rfl | rfl | rfl | rfl <;> rfl
theorem recs_one (l : List Rc) : ∀ u ∈ recs l, u.oneCell' = true := by
  intro u hu
  simp only [recs, List.mem_flatMap] at hu
  obtain ⟨r, _, h⟩ := hu
  exact rcC_one r u h
end Go.Proofs.Ytaihabkacjbfjaa.Ce
