/- A ghost while the document's Add writes it anew, list by list. -/
import Derived.Test.YtcldnacpddebcaaGhOg
namespace Go.Proofs.Ytcldnacpddebcaa.Gh
open Go.RowKit
open Go.Proofs.Ytcldnacpddebcaa.Tr

/-- The three boxes of Add. -/
abbrev Bx3 (w : World) (i : Nat) : Prop := w.heap.size ≤ i ∧ i ≤ w.heap.size + 2
/-- A ghost whose lists lie in none of them. -/
structure Lz (w wr : World) (x : Gv) (g : Gt) : Prop where
  has : HasG wr x g
  ok : Off (Bx3 w) x.k.o (prs g.ks)
  oi : Off (Bx3 w) x.i.o (vals g.is)
  of : Off (Bx3 w) x.f.o (vals g.fr)
theorem off_old {w : World} {ao : Option Addr} {cs : List Value} (h : Row w ao cs) : Off (Bx3 w) ao cs := fun h0 a e s => by
  obtain ⟨b, e', hb⟩ := h.lt h0
  rw [e] at e'
  cases e'
  omega
theorem lz_start {w wr : World} {y : Gv} {g : Gt} (h : HasG w y g) (b : Below w.heap.size w wr) : Lz w wr y g := ⟨h.below b, off_old h.ks.row, off_old h.is.row, off_old h.fr.row⟩
theorem Lz.kept {w wr w' : World} {x : Gv} {g : Gt} (h : Lz w wr x g) (k : Kept (Bx3 w) wr w') : Lz w w' x g :=
  ⟨⟨h.has.ks.kept k h.ok, h.has.is.kept k h.oi, h.has.fr.kept k h.of⟩, h.ok, h.oi, h.of⟩
theorem Lz.below {w wr w' : World} {x : Gv} {g : Gt} (h : Lz w wr x g) (b : Below wr.heap.size wr w') : Lz w w' x g := h.kept (kept_below b)
theorem off_new {w w4 : World} {B n sz cap : Nat} {E : TypeId} {ao : Option Addr} {cs : List Value} (h : w4.ownsRow B E sz (.slice ao n cap) n cs) (hB : w.heap.size + 2 < B) : Off (Bx3 w) ao cs := fun _ a e s => by
  have := ((own_row h).2.2.2 a e).1
  omega
theorem box_kept (w wr : World) (j : Nat) (u : Value) : Kept (Bx3 w) wr (wr.setCell ⟨w.heap.size, j, none⟩ u) := kept_set _ wr _ u ⟨Nat.le_refl _, by show w.heap.size ≤ w.heap.size + 2; omega⟩
theorem Ab.other {w wr : World} {x x' : Gv} {z : Bi} {j : Nat} {u : Value} (h : Ab w wr x z) (hg : InW (wr.setCell ⟨w.heap.size, j, none⟩ u) w.heap.size x') : Ab w (wr.setCell ⟨w.heap.size, j, none⟩ u) x' z :=
  ⟨hg, h.z.other u (by omega), h.r.other u (by omega), q_set h.low (Nat.le_refl _) u⟩
theorem md_K {w wr w4 : World} {x : Gv} {z : Bi} {g : Gt} {ko : Option Addr} {m kc : Nat} {l : List P} (ab : Ab w wr x z) (lz : Lz w wr x g) (b : Below wr.heap.size wr w4) (own : w4.ownsRow wr.heap.size 27 2 (.slice ko m kc) m (prs l)) (hl : m = l.length) :
    Ab w (w4.setCell ⟨w.heap.size, 0, none⟩ (.slice ko m kc)) ⟨⟨ko, m, kc⟩, x.i, x.f⟩ z ∧ Lz w (w4.setCell ⟨w.heap.size, 0, none⟩ (.slice ko m kc)) ⟨⟨ko, m, kc⟩, x.i, x.f⟩ ⟨l, g.is, g.fr⟩ := by
  have a4 := ab.below b
  have hw : w.heap.size + 2 < wr.heap.size := ab.r.lt
  have l4 := (lz.below b).kept (box_kept w w4 0 (.slice ko m kc))
  have o4 := off_new (w := w) own hw
  refine ⟨a4.other (a4.g.setK ⟨ko, m, kc⟩), ⟨⟨?_, l4.has.is, l4.has.fr⟩, o4, l4.oi, l4.of⟩⟩
  exact (Tr.MineP.has (E := 27) (B := wr.heap.size) ⟨hl, own⟩).kept (box_kept w w4 0 _) o4
theorem md_I {w wr w4 : World} {x : Gv} {z : Bi} {g : Gt} {ko : Option Addr} {m kc : Nat} {l : List Int} (ab : Ab w wr x z) (lz : Lz w wr x g) (b : Below wr.heap.size wr w4) (own : w4.ownsRow wr.heap.size 3 1 (.slice ko m kc) m (vals l)) (hl : m = l.length) :
    Ab w (w4.setCell ⟨w.heap.size, 1, none⟩ (.slice ko m kc)) ⟨x.k, ⟨ko, m, kc⟩, x.f⟩ z ∧ Lz w (w4.setCell ⟨w.heap.size, 1, none⟩ (.slice ko m kc)) ⟨x.k, ⟨ko, m, kc⟩, x.f⟩ ⟨g.ks, l, g.fr⟩ := by
  have a4 := ab.below b
  have hw : w.heap.size + 2 < wr.heap.size := ab.r.lt
  have l4 := (lz.below b).kept (box_kept w w4 1 (.slice ko m kc))
  have o4 := off_new (w := w) own hw
  refine ⟨a4.other (a4.g.setI ⟨ko, m, kc⟩), ⟨⟨l4.has.ks, ?_, l4.has.fr⟩, l4.ok, o4, l4.of⟩⟩
  exact (MineI.has (B := wr.heap.size) ⟨hl, own⟩).kept (box_kept w w4 1 _) o4
theorem md_F {w wr w4 : World} {x : Gv} {z : Bi} {g : Gt} {ko : Option Addr} {m kc : Nat} {l : List Int} (ab : Ab w wr x z) (lz : Lz w wr x g) (b : Below wr.heap.size wr w4) (own : w4.ownsRow wr.heap.size 3 1 (.slice ko m kc) m (vals l)) (hl : m = l.length) :
    Ab w (w4.setCell ⟨w.heap.size, 2, none⟩ (.slice ko m kc)) ⟨x.k, x.i, ⟨ko, m, kc⟩⟩ z ∧ Lz w (w4.setCell ⟨w.heap.size, 2, none⟩ (.slice ko m kc)) ⟨x.k, x.i, ⟨ko, m, kc⟩⟩ ⟨g.ks, g.is, l⟩ := by
  have a4 := ab.below b
  have hw : w.heap.size + 2 < wr.heap.size := ab.r.lt
  have l4 := (lz.below b).kept (box_kept w w4 2 (.slice ko m kc))
  have o4 := off_new (w := w) own hw
  refine ⟨a4.other (a4.g.setF ⟨ko, m, kc⟩), ⟨⟨l4.has.ks, l4.has.is, ?_⟩, l4.ok, l4.oi, o4⟩⟩
  exact (MineI.has (B := wr.heap.size) ⟨hl, own⟩).kept (box_kept w w4 2 _) o4
/-- The answer is laid down. -/
theorem Lz.fin {w wr : World} {x : Gv} {g : Gt} (h : Lz w wr x g) (u v t : Value) : HasG (((wr.setCell ⟨w.heap.size + 2, 0, none⟩ u).setCell ⟨w.heap.size + 2, 1, none⟩ v).setCell ⟨w.heap.size + 2, 2, none⟩ t) x g := by
  have s : ∀ j, Bx3 w (⟨w.heap.size + 2, j, none⟩ : Addr).block := fun j => ⟨Nat.le_add_right _ _, Nat.le_refl _⟩
  exact (((h.kept (kept_set _ wr ⟨w.heap.size + 2, 0, none⟩ u (s 0))).kept (kept_set _ _ ⟨w.heap.size + 2, 1, none⟩ v (s 1))).kept (kept_set _ _ ⟨w.heap.size + 2, 2, none⟩ t (s 2))).has
/-- Behind two new blocks and an append onto the second one's list. -/
theorem app_below2 {w w1 : World} {o : Obj} {E : TypeId} {n c : Nat} (h : ((w.alloc o).alloc (.cells #[] E)).grownBy w1 (Value.ownBlock (.slice (some ⟨w.heap.size + 1, 0, none⟩) n c))) : Below w.heap.size w w1 :=
  (((Below.refl _ w).alloc (Nat.le_refl _) _).alloc (by simp) _).grown h (by simp; omega) (fun k e => by cases e; exact Nat.le_succ _)
theorem app_below3 {w w1 : World} {o : Obj} {E : TypeId} {n c : Nat} (h : ((w.alloc (.cells #[] E)).alloc o).grownBy w1 (Value.ownBlock (.slice (some ⟨w.heap.size, 0, none⟩) n c))) : Below w.heap.size w w1 :=
  (((Below.refl _ w).alloc (Nat.le_refl _) _).alloc (by simp) _).grown h (by simp; omega) (fun k e => by cases e; exact Nat.le_refl _)
/-- Behind an append onto a row from B on. -/
theorem own_grown {w w1 : World} {B n sz : Nat} {E : TypeId} {v : Value} {cs : List Value} (h : w.ownsRow B E sz v n cs) (g : w.grownBy w1 v.ownBlock) (hB : B ≤ w.heap.size) : Below B w w1 := (Below.refl B w).grown g hB (fun k e => (World.ownsRow.lt h k e).1)
end Go.Proofs.Ytcldnacpddebcaa.Gh
