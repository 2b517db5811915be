/- A ghost's box that may be written; the boxes of Add. -/
import Derived.Test.YtcldnacpddebcaaGhApp
import Derived.Test.YtcldnacpddebcaaGhRIs
import Derived.Test.YtcldnacpddebcaaTrBox
namespace Go.Proofs.Ytcldnacpddebcaa.Gh
open Go.RowKit
open Go.Proofs.Ytcldnacpddebcaa.Tr

structure InW (w : World) (b : Nat) (y : Gv) : Prop where
  c0 : w.cell? ⟨b, 0, none⟩ = some (.slice y.k.o y.k.n y.k.c)
  c1 : w.cell? ⟨b, 1, none⟩ = some (.slice y.i.o y.i.n y.i.c)
  c2 : w.cell? ⟨b, 2, none⟩ = some (.slice y.f.o y.f.n y.f.c)
  f0 : w.frozen? ⟨b, 0, none⟩ = false
  f1 : w.frozen? ⟨b, 1, none⟩ = false
  f2 : w.frozen? ⟨b, 2, none⟩ = false
theorem InW.inG {w : World} {b : Nat} {y : Gv} (h : InW w b y) : InG w b y := ⟨h.c0, h.c1, h.c2⟩
theorem InW.lt {w : World} {b : Nat} {y : Gv} (h : InW w b y) : b < w.heap.size := World.block_lt_of_cell? w _ h.c0
theorem InW.below {w w' : World} {b : Nat} {y : Gv} (h : InW w b y) (q : Below w.heap.size w w') : InW w' b y :=
  ⟨(q.cell (p := ⟨b, 0, none⟩) h.lt).trans h.c0, (q.cell (p := ⟨b, 1, none⟩) h.lt).trans h.c1, (q.cell (p := ⟨b, 2, none⟩) h.lt).trans h.c2, (q.frozen (p := ⟨b, 0, none⟩) h.lt).trans h.f0, (q.frozen (p := ⟨b, 1, none⟩) h.lt).trans h.f1, (q.frozen (p := ⟨b, 2, none⟩) h.lt).trans h.f2⟩
theorem inW_new (w : World) (y : Gv) (t : TypeId) : InW (w.alloc (.cells #[.slice y.k.o y.k.n y.k.c, .slice y.i.o y.i.n y.i.c, .slice y.f.o y.f.n y.f.c] t)) w.heap.size y := by constructor <;> simp
theorem InW.other {w : World} {b c j : Nat} {y : Gv} (h : InW w b y) (u : Value) (hne : b ≠ c) : InW (w.setCell ⟨c, j, none⟩ u) b y :=
  ⟨(World.cell?_setCell_other _ _ _ _ (far0 (.inl (Ne.symm hne)))).trans h.c0, (World.cell?_setCell_other _ _ _ _ (far0 (.inl (Ne.symm hne)))).trans h.c1, (World.cell?_setCell_other _ _ _ _ (far0 (.inl (Ne.symm hne)))).trans h.c2, by rw [World.frozen?_setCell]; exact h.f0, by rw [World.frozen?_setCell]; exact h.f1, by rw [World.frozen?_setCell]; exact h.f2⟩
theorem InW.setK {w : World} {b : Nat} {y : Gv} (h : InW w b y) (k : Hd) : InW (w.setCell ⟨b, 0, none⟩ (.slice k.o k.n k.c)) b ⟨k, y.i, y.f⟩ :=
  ⟨World.cell?_setCell_same' _ _ _ (by rw [h.c0]; rfl), (World.cell?_setCell_other _ _ _ _ (far0 (.inr (by decide)))).trans h.c1, (World.cell?_setCell_other _ _ _ _ (far0 (.inr (by decide)))).trans h.c2, by rw [World.frozen?_setCell]; exact h.f0, by rw [World.frozen?_setCell]; exact h.f1, by rw [World.frozen?_setCell]; exact h.f2⟩
theorem InW.setI {w : World} {b : Nat} {y : Gv} (h : InW w b y) (k : Hd) : InW (w.setCell ⟨b, 1, none⟩ (.slice k.o k.n k.c)) b ⟨y.k, k, y.f⟩ :=
  ⟨(World.cell?_setCell_other _ _ _ _ (far0 (.inr (by decide)))).trans h.c0, World.cell?_setCell_same' _ _ _ (by rw [h.c1]; rfl), (World.cell?_setCell_other _ _ _ _ (far0 (.inr (by decide)))).trans h.c2, by rw [World.frozen?_setCell]; exact h.f0, by rw [World.frozen?_setCell]; exact h.f1, by rw [World.frozen?_setCell]; exact h.f2⟩
theorem InW.setF {w : World} {b : Nat} {y : Gv} (h : InW w b y) (k : Hd) : InW (w.setCell ⟨b, 2, none⟩ (.slice k.o k.n k.c)) b ⟨y.k, y.i, k⟩ :=
  ⟨(World.cell?_setCell_other _ _ _ _ (far0 (.inr (by decide)))).trans h.c0, (World.cell?_setCell_other _ _ _ _ (far0 (.inr (by decide)))).trans h.c1, World.cell?_setCell_same' _ _ _ (by rw [h.c2]; rfl), by rw [World.frozen?_setCell]; exact h.f0, by rw [World.frozen?_setCell]; exact h.f1, by rw [World.frozen?_setCell]; exact h.f2⟩
theorem AtZ.other {w : World} {b c j : Nat} {z : Bi} (h : AtZ w ⟨b, 0, none⟩ z) (u : Value) (hne : b ≠ c) : AtZ (w.setCell ⟨c, j, none⟩ u) ⟨b, 0, none⟩ z :=
  ⟨(World.cell?_setCell_other _ _ _ _ (far0 (.inl (Ne.symm hne)))).trans h.c0, (World.cell?_setCell_other _ _ _ _ (far0 (.inl (Ne.symm hne)))).trans h.c1, (World.cell?_setCell_other _ _ _ _ (far0 (.inl (Ne.symm hne)))).trans h.c2, (World.cell?_setCell_other _ _ _ _ (far0 (.inl (Ne.symm hne)))).trans h.c3, (World.cell?_setCell_other _ _ _ _ (far0 (.inl (Ne.symm hne)))).trans h.c4⟩
/-- The boxes of Add: the ghost's, the birth's, the answer's. -/
structure Ab (w wr : World) (y : Gv) (b : Bi) : Prop where
  g : InW wr w.heap.size y
  z : AtZ wr ⟨w.heap.size + 1, 0, none⟩ b
  r : InW wr (w.heap.size + 2) nilG
  low : Below w.heap.size w wr
theorem Ab.below {w wr w' : World} {y : Gv} {b : Bi} (h : Ab w wr y b) (q : Below wr.heap.size wr w') : Ab w w' y b := ⟨h.g.below q, h.z.below q, h.r.below q, q_trans h.low q⟩
theorem ab_new (w : World) (y : Gv) (b : Bi) : Ab w (((w.alloc (.cells #[.slice y.k.o y.k.n y.k.c, .slice y.i.o y.i.n y.i.c, .slice y.f.o y.f.n y.f.c] 25)).alloc (.cells #[.int .i64 b.kind, .int .i64 b.key.1, .int .i64 b.key.2, .int .i64 b.fm.1, .int .i64 b.fm.2] 29)).alloc (.cells #[.slice nilG.k.o nilG.k.n nilG.k.c, .slice nilG.i.o nilG.i.n nilG.i.c, .slice nilG.f.o nilG.f.n nilG.f.c] 25)) y b := by
  refine ⟨((inW_new w y 25).below (alloc_below _ _)).below (alloc_below _ _), ?_, ?_, q_alloc (q_alloc (alloc_below _ _) _) _⟩
  · have h := (atZ_new (w.alloc (.cells #[.slice y.k.o y.k.n y.k.c, .slice y.i.o y.i.n y.i.c, .slice y.f.o y.f.n y.f.c] 25)) b 29).below (alloc_below _ (.cells #[.slice nilG.k.o nilG.k.n nilG.k.c, .slice nilG.i.o nilG.i.n nilG.i.c, .slice nilG.f.o nilG.f.n nilG.f.c] 25))
    rwa [show (w.alloc (.cells #[.slice y.k.o y.k.n y.k.c, .slice y.i.o y.i.n y.i.c, .slice y.f.o y.f.n y.f.c] 25)).heap.size = w.heap.size + 1 by simp] at h
  · have h := inW_new ((w.alloc (.cells #[.slice y.k.o y.k.n y.k.c, .slice y.i.o y.i.n y.i.c, .slice y.f.o y.f.n y.f.c] 25)).alloc (.cells #[.int .i64 b.kind, .int .i64 b.key.1, .int .i64 b.key.2, .int .i64 b.fm.1, .int .i64 b.fm.2] 29)) nilG 25
    rwa [show ((w.alloc (.cells #[.slice y.k.o y.k.n y.k.c, .slice y.i.o y.i.n y.i.c, .slice y.f.o y.f.n y.f.c] 25)).alloc (.cells #[.int .i64 b.kind, .int .i64 b.key.1, .int .i64 b.key.2, .int .i64 b.fm.1, .int .i64 b.fm.2] 29)).heap.size = w.heap.size + 2 by simp] at h
/-- The answer is laid down. -/
theorem Ab.fin {w wr : World} {y : Gv} {b : Bi} (h : Ab w wr y b) (u v x : Value) : Below w.heap.size w (((wr.setCell ⟨w.heap.size + 2, 0, none⟩ u).setCell ⟨w.heap.size + 2, 1, none⟩ v).setCell ⟨w.heap.size + 2, 2, none⟩ x) :=
  q_set (q_set (q_set h.low (Nat.le_add_right _ _) u) (Nat.le_add_right _ _) v) (Nat.le_add_right _ _) x
theorem ad_no {g : Gt} {b : Bi} {n : Int} (h : adE g b = n) (hn : n ≠ 0) : adA g b = g := by
  unfold adA
  rw [if_pos (by rw [h]; exact hn)]
theorem ret_gh {v : Value} {a b : Int} (h : a = b) : Ending.returned (.tuple #[v, .int .i64 a]) = .returned (.tuple #[v, .int .i64 b]) := by rw [h]
end Go.Proofs.Ytcldnacpddebcaa.Gh
