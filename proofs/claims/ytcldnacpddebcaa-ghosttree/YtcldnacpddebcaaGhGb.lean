/- A ghost in a box that may be written: its lists lie elsewhere, since a box has no numbers. -/
import Derived.Test.YtcldnacpddebcaaPkB
import Derived.Test.YtcldnacpddebcaaGhBox
namespace Go.Proofs.Ytcldnacpddebcaa.Gh
open Go.RowKit
open Go.Proofs.Ytcldnacpddebcaa.Tr

/-- A box, known whole. -/
structure Gb (w : World) (p : Nat) (y : Gv) : Prop where
  h : w.heap[p]? = some (.cells #[.slice y.k.o y.k.n y.k.c, .slice y.i.o y.i.n y.i.c, .slice y.f.o y.f.n y.f.c] 25)
theorem Gb.inW {w : World} {p : Nat} {y : Gv} (g : Gb w p y) : InW w p y := by
  constructor <;> simp [World.cell?, World.frozen?, g.h]
theorem Gb.lt {w : World} {p : Nat} {y : Gv} (g : Gb w p y) : p < w.heap.size := g.inW.lt
theorem Gb.below {w w' : World} {p : Nat} {y : Gv} (g : Gb w p y) (q : Below w.heap.size w w') : Gb w' p y := ⟨(q.block p g.lt).trans g.h⟩
theorem Gb.lowB {w w' : World} {B p : Nat} {y : Gv} (g : Gb w p y) (q : Below B w w') (hp : p < B) : Gb w' p y := ⟨(q.block p hp).trans g.h⟩
theorem gb_new (w : World) (y : Gv) : Gb (w.alloc (.cells #[.slice y.k.o y.k.n y.k.c, .slice y.i.o y.i.n y.i.c, .slice y.f.o y.f.n y.f.c] 25)) w.heap.size y := ⟨heap_alloc_new w _⟩
theorem Gb.drew {w : World} {p : Nat} {y : Gv} (g : Gb w p y) : Gb w.drew p y := ⟨g.h⟩
theorem Gb.other {w : World} {p c j : Nat} {y : Gv} (g : Gb w p y) (u : Value) (hne : p ≠ c) : Gb (w.setCell ⟨c, j, none⟩ u) p y := ⟨(Below.heap_setCell w ⟨c, j, none⟩ u p hne).trans g.h⟩
abbrev put3 (w : World) (p : Nat) (x : Gv) : World := ((w.setCell ⟨p, 0, none⟩ (.slice x.k.o x.k.n x.k.c)).setCell ⟨p, 1, none⟩ (.slice x.i.o x.i.n x.i.c)).setCell ⟨p, 2, none⟩ (.slice x.f.o x.f.n x.f.c)
theorem Gb.put {w : World} {p : Nat} {y : Gv} (g : Gb w p y) (x : Gv) : Gb (put3 w p x) p x := ⟨by simp [put3, World.setCell, Array.getElem?_modify, g.h]⟩
theorem kept_put3 (w : World) (p : Nat) (x : Gv) : Kept (fun i => i = p) w (put3 w p x) :=
  ((kept_set (fun i => i = p) w ⟨p, 0, none⟩ _ rfl).setCell ⟨p, 1, none⟩ _ (fun _ => rfl)).setCell ⟨p, 2, none⟩ _ (fun _ => rfl)
/-- No list of numbers lies in a box. -/
theorem Gb.off {w : World} {p : Nat} {y : Gv} {ao : Option Addr} {cs : List Value} (g : Gb w p y) (r : Row w ao cs) (hc : ∀ u ∈ cs, ∃ v : Int, u = .int .i64 v) : Off (fun i => i = p) ao cs := fun h0 a e s => by
  obtain ⟨b, e', hb⟩ := r.cell 0 cs[0] (by simp)
  rw [e] at e'
  cases e'
  obtain ⟨v, hv⟩ := hc cs[0] (List.getElem_mem _)
  rw [add_zero_addr, hv] at hb
  have s : a.block = p := s
  unfold World.cell? at hb
  rw [s, g.h] at hb
  simp only at hb
  split at hb
  · cases hb
  · match a.off, hb with
    | 0, hb => simp at hb
    | 1, hb => simp at hb
    | 2, hb => simp at hb
    | n + 3, hb => simp at hb
theorem prs_int (l : List P) : ∀ u ∈ prs l, ∃ v : Int, u = .int .i64 v := by
  intro u hu
  simp only [prs, List.mem_flatMap, pC, List.mem_cons, List.not_mem_nil, or_false] at hu
  obtain ⟨r, _, rfl | rfl⟩ := hu
  · exact ⟨_, rfl⟩
  · exact ⟨_, rfl⟩
theorem vals_int (l : List Int) : ∀ u ∈ vals l, ∃ v : Int, u = .int .i64 v := by
  intro u hu
  obtain ⟨v, _, rfl⟩ := List.mem_map.1 hu
  exact ⟨v, rfl⟩
theorem zrs_int (l : List Bi) : ∀ u ∈ zrs l, ∃ v : Int, u = .int .i64 v := by
  intro u hu
  simp only [zrs, List.mem_flatMap, zC, List.mem_cons, List.not_mem_nil, or_false] at hu
  obtain ⟨r, _, rfl | rfl | rfl | rfl | rfl⟩ := hu
  all_goals exact ⟨_, rfl⟩
theorem HasG.put {w : World} {p : Nat} {y x x' : Gv} {g : Gt} (b : Gb w p y) (h : HasG w x g) : HasG (put3 w p x') x g :=
  ⟨h.ks.kept (kept_put3 w p x') (b.off h.ks.row (prs_int _)), h.is.kept (kept_put3 w p x') (b.off h.is.row (vals_int _)), h.fr.kept (kept_put3 w p x') (b.off h.fr.row (vals_int _))⟩
theorem HasZ.kept {S : Nat → Prop} {w w' : World} {ao : Option Addr} {n cap : Nat} {l : List Bi} (h : HasZ w ao n cap l) (k : Kept S w w') (hs : Off S ao (zrs l)) : HasZ w' ao n cap l := ⟨h.len, h.nil, h.row.kept k hs⟩
theorem HasZ.put {w : World} {p n cap : Nat} {ao : Option Addr} {y x' : Gv} {l : List Bi} (b : Gb w p y) (h : HasZ w ao n cap l) : HasZ (put3 w p x') ao n cap l := h.kept (kept_put3 w p x') (b.off h.row (zrs_int _))
/-- A ghost in a box. -/
structure Hg (w : World) (p : Nat) (x : Gv) (g : Gt) : Prop where
  gb : Gb w p x
  has : HasG w x g
theorem Hg.below {w w' : World} {p : Nat} {x : Gv} {g : Gt} (h : Hg w p x g) (q : Below w.heap.size w w') : Hg w' p x g := ⟨h.gb.below q, h.has.below q⟩
theorem hg_new {w : World} {x : Gv} {g : Gt} (h : HasG w x g) : Hg (w.alloc (.cells #[.slice x.k.o x.k.n x.k.c, .slice x.i.o x.i.n x.i.c, .slice x.f.o x.f.n x.f.c] 25)) w.heap.size x g := ⟨gb_new w x, h.below (alloc_below _ _)⟩
theorem hg_put {w : World} {p : Nat} {y x : Gv} {g : Gt} (b : Gb w p y) (h : HasG w x g) : Hg (put3 w p x) p x g := ⟨b.put x, h.put b⟩
/-- Another box beside it. -/
theorem Hg.beside {w : World} {p q : Nat} {y x x' : Gv} {g : Gt} (h : Hg w q x g) (b : Gb w p y) (hne : q ≠ p) : Hg (put3 w p x') q x g := ⟨((h.gb.other _ hne).other _ hne).other _ hne, h.has.put b⟩
theorem Gb.beside {w : World} {p q : Nat} {y x' : Gv} (h : Gb w q y) (hne : q ≠ p) : Gb (put3 w p x') q y := ((h.other _ hne).other _ hne).other _ hne
theorem put3_low {w w' : World} {p : Nat} {x : Gv} (h : Below w.heap.size w w') (hp : w.heap.size ≤ p) : Below w.heap.size w (put3 w' p x) := q_set (q_set (q_set h hp _) hp _) hp _
theorem HasG.small {w : World} {x : Gv} {g : Gt} (h : HasG w x g) (o : Ok g) : x.k.n ≤ 4096 ∧ x.i.n ≤ 4096 ∧ x.f.n ≤ 4096 := by
  have h1 := o.few
  have h2 := o.max
  have h3 := o.len
  have h4 := h.ks.len
  have h5 := h.is.len
  have h6 := h.fr.len
  omega
/-- A box, and a birth at an address. -/
abbrev SA (c : Nat) (y : Gv) (a : Addr) (z : Bi) (w : World) : Prop := w.cell? ⟨c, 0, none⟩ = some (.slice y.k.o y.k.n y.k.c) ∧ w.cell? ⟨c, 1, none⟩ = some (.slice y.i.o y.i.n y.i.c) ∧ w.cell? ⟨c, 2, none⟩ = some (.slice y.f.o y.f.n y.f.c) ∧ w.cell? a = some (.int .i64 z.kind) ∧ w.cell? ⟨a.block, a.off + 1, none⟩ = some (.int .i64 z.key.1) ∧ w.cell? ⟨a.block, a.off + 2, none⟩ = some (.int .i64 z.key.2) ∧ w.cell? ⟨a.block, a.off + 3, none⟩ = some (.int .i64 z.fm.1) ∧ w.cell? ⟨a.block, a.off + 4, none⟩ = some (.int .i64 z.fm.2)
theorem sa_of {w : World} {c : Nat} {y : Gv} {a : Addr} {z : Bi} (h1 : InW w c y) (h2 : AtZ w a z) : SA c y a z w := ⟨h1.c0, h1.c1, h1.c2, h2.c0, h2.c1, h2.c2, h2.c3, h2.c4⟩
theorem sa_keep {c : Nat} {y : Gv} {a : Addr} {z : Bi} {w w' : World} (h : SA c y a z w) (q : Below w.heap.size w w') : SA c y a z w' := by
  obtain ⟨a0, a1, a2, a3, a4, a5, a6, a7⟩ := h
  exact ⟨(q.cell (World.block_lt_of_cell? w _ a0)).trans a0, (q.cell (World.block_lt_of_cell? w _ a1)).trans a1, (q.cell (World.block_lt_of_cell? w _ a2)).trans a2, (q.cell (World.block_lt_of_cell? w _ a3)).trans a3, (q.cell (World.block_lt_of_cell? w _ a4)).trans a4, (q.cell (World.block_lt_of_cell? w _ a5)).trans a5, (q.cell (World.block_lt_of_cell? w _ a6)).trans a6, (q.cell (World.block_lt_of_cell? w _ a7)).trans a7⟩
theorem sa_drew {c : Nat} {y : Gv} {a : Addr} {z : Bi} {w : World} (h : SA c y a z w) : SA c y a z w.drew := h
theorem sa_alloc {c : Nat} {y : Gv} {a : Addr} {z : Bi} {w : World} (h : SA c y a z w) (o : Obj) : SA c y a z (w.alloc o) := sa_keep h (alloc_below w o)
theorem sa_three {c d : Nat} {y : Gv} {a : Addr} {z : Bi} {w : World} (h : SA c y a z w) (h1 : d ≠ c) (h2 : d ≠ a.block) (u v x : Value) : SA c y a z (((w.setCell ⟨d, 0, none⟩ u).setCell ⟨d, 1, none⟩ v).setCell ⟨d, 2, none⟩ x) := by
  obtain ⟨a0, a1, a2, a3, a4, a5, a6, a7⟩ := h
  have f : ∀ (b : Addr) (t : Value), d ≠ b.block → w.cell? b = some t → (((w.setCell ⟨d, 0, none⟩ u).setCell ⟨d, 1, none⟩ v).setCell ⟨d, 2, none⟩ x).cell? b = some t := fun b t hb e => by
    have ne : ∀ j, (⟨d, j, none⟩ : Addr) ≠ b := fun j hh => hb (by rw [← hh])
    rw [World.cell?_setCell_other _ _ _ _ (ne 2), World.cell?_setCell_other _ _ _ _ (ne 1), World.cell?_setCell_other _ _ _ _ (ne 0)]
    exact e
  exact ⟨f _ _ h1 a0, f _ _ h1 a1, f _ _ h1 a2, f _ _ h2 a3, f _ _ h2 a4, f _ _ h2 a5, f _ _ h2 a6, f _ _ h2 a7⟩
end Go.Proofs.Ytcldnacpddebcaa.Gh
