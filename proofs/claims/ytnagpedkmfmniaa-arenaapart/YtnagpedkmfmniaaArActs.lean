/- Lists of what is done, in memory. -/
import Derived.Test.YtnagpedkmfmniaaArDoes
import Derived.Test.YtnagpedkmfmniaaArRSame
import Derived.Test.YtnagpedkmfmniaaArSmall
namespace Go.Proofs.Ytnagpedkmfmniaa.Ar
open Go.RowKit Go.Proofs.Ytnagpedkmfmniaa.Ha

def Ac.zero : Ac := ⟨0, 0, 0, 0, Th.zero⟩
/-- What is done, at an address: twelve cells. -/
abbrev AtC (a : Addr) (x : Ac) (w : World) : Prop :=
  w.cell? a = some (.int .i64 x.kind) ∧ w.cell? ⟨a.block, a.off + 1, none⟩ = some (.int .i64 x.core) ∧ w.cell? ⟨a.block, a.off + 2, none⟩ = some (.int .i64 x.obj) ∧ w.cell? ⟨a.block, a.off + 3, none⟩ = some (.int .i64 x.by_) ∧
  w.cell? ⟨a.block, a.off + 4, none⟩ = some (.int .i64 x.t.ty) ∧ w.cell? ⟨a.block, a.off + 5, none⟩ = some (.int .i64 x.t.gen) ∧ w.cell? ⟨a.block, a.off + 6, none⟩ = some (.int .i64 x.t.refs) ∧ w.cell? ⟨a.block, a.off + 7, none⟩ = some (.int .i64 x.t.st) ∧
  w.cell? ⟨a.block, a.off + 8, none⟩ = some (.int .i64 x.t.sz) ∧ w.cell? ⟨a.block, a.off + 9, none⟩ = some (.int .i64 x.t.wa) ∧ w.cell? ⟨a.block, a.off + 10, none⟩ = some (.int .i64 x.t.fm) ∧ w.cell? ⟨a.block, a.off + 11, none⟩ = some (.int .i64 x.t.va)
theorem atC_kept {S : Nat → Prop} {w w' : World} {a : Addr} {x : Ac} (k : Kept S w w') (h : AtC a x w) (hs : ¬ S a.block) : AtC a x w' := by
  obtain ⟨h0, h1, h2, h3, h4, h5, h6, h7, h8, h9, ha, hb⟩ := h
  exact ⟨k.cell h0 hs, k.cell h1 hs, k.cell h2 hs, k.cell h3 hs, k.cell h4 hs, k.cell h5 hs, k.cell h6 hs, k.cell h7 hs, k.cell h8 hs, k.cell h9 hs, k.cell ha hs, k.cell hb hs⟩
theorem atC_below {w w' : World} {a : Addr} {x : Ac} (h : AtC a x w) (b : Below w.heap.size w w') : AtC a x w' := atC_kept (S := fun _ => False) (kept_below b) h (fun e => e)
/-- A list of what is done. -/
structure HasC (w : World) (ao : Option Addr) (n : Nat) (l : List Ac) : Prop where
  len : n = l.length
  at_ : ∀ i, i < n → ∃ a, ao = some a ∧ AtC (a.add (i * 12)) (l.getD i Ac.zero) w
theorem HasC.below {w w' : World} {ao : Option Addr} {n : Nat} {l : List Ac} (h : HasC w ao n l) (b : Below w.heap.size w w') : HasC w' ao n l :=
  ⟨h.len, fun i hi => by obtain ⟨a, e, hc⟩ := h.at_ i hi; exact ⟨a, e, atC_below hc b⟩⟩
/-- The box of an arena, and what is done: what holds at every moment of a region. -/
abbrev SX (b : Nat) (x : Wh) (a : Addr) (z : Ac) (w : World) : Prop := SB b x w ∧ AtC a z w
theorem sx_keep {w w' : World} {b : Nat} {x : Wh} {a : Addr} {z : Ac} (k : Below w.heap.size w w') (h : SX b x a z w) : SX b x a z w' := ⟨sb_keep k h.1, atC_below h.2 k⟩
theorem sx_drew {w : World} {b : Nat} {x : Wh} {a : Addr} {z : Ac} (h : SX b x a z w) : SX b x a z w.drew := sx_keep (Below.refl _ _).drew h
theorem sx_alloc {w : World} {b : Nat} {x : Wh} {a : Addr} {z : Ac} {o : Obj} (h : SX b x a z w) : SX b x a z (w.alloc o) := sx_keep (alloc_below _ _) h
theorem sx_two {w : World} {b c : Nat} {x : Wh} {a : Addr} {z : Ac} {u v : Value} (h : SX b x a z w) (hb : b ≠ c ∧ a.block ≠ c) : SX b x a z ((w.setCell ⟨c, 0, none⟩ u).setCell ⟨c, 1, none⟩ v) :=
  ⟨sb_two h.1 hb.1, atC_kept (kept_two w c u v) h.2 hb.2⟩
/-- A block of two heads is written: the arena is as it was. -/
theorem HasO.boxG {w : World} {y : Wh} {a : Ar} (h : HasO w y a) {c : Nat} {x : Wh} (hc : w.heap[c]? = some (.cells #[.slice x.t.o x.t.n x.t.c, .slice x.f.o x.f.n x.f.c] 25 (0, 0))) (u v : Value) : HasO ((w.setCell ⟨c, 0, none⟩ u).setCell ⟨c, 1, none⟩ v) y a := by
  have k := kept_two w c u v
  have ni : ∀ (p : Addr) (z : Int), w.cell? p = some (.int .i64 z) → p.block ≠ c := by
    intro p z hp e
    obtain ⟨b, o, m⟩ := p
    have e : b = c := e
    subst e
    cases m with
    | none =>
      simp only [World.cell?, hc] at hp
      match o, hp with
      | 0, hp => simp at hp
      | 1, hp => simp at hp
      | (o + 2), hp => simp at hp
    | some q => simp [World.cell?, hc] at hp
  have hfc : ∀ g, y.f.o = some g → g.block ≠ c := by
    intro g e e2
    obtain ⟨cur, hg⟩ := h.ft g e
    rw [e2, hc] at hg
    injection hg with h1
    injection h1 with _ h2
    exact absurd h2 (by decide)
  obtain ⟨hs, hF⟩ := h.has.f
  refine ⟨⟨⟨h.has.t.len, h.has.t.nil, h.has.t.le, h.has.t.row.kept k (fun h0 g e e2 => ?_)⟩, hs, hF.len, hF.hl, hF.nil, hF.le, hF.row.kept k (fun _ g e e2 => hfc g e e2), fun i hi => (hF.each i hi).kept k (fun h0 g e e2 => ?_)⟩, fun g e => ?_⟩
  · have hl : 0 < a.ts.length := by rw [len_ths] at h0; omega
    obtain ⟨g', e', hA⟩ := h.has.t.at_ 0 (by have := h.has.t.len; omega)
    rw [e] at e'
    cases e'
    refine ni _ _ hA.c0 ?_
    rw [add_block]
    exact e2
  · obtain ⟨g', e', hc2⟩ := (hF.each i hi).cell 0 (by have := (hF.each i hi).len; rw [len_vals] at h0; omega)
    rw [e] at e'
    cases e'
    refine ni _ _ hc2 ?_
    rw [add_block]
    exact e2
  · obtain ⟨cur, hg⟩ := h.ft g e
    exact ⟨cur, by rw [k.block _ (Array.getElem?_eq_some_iff.1 hg).1 (hfc g e)]; exact hg⟩
/-- AN ARENA IN A BLOCK OF ITS OWN. -/
structure Ba (w : World) (b : Nat) (x : Wh) (a : Ar) : Prop where
  blk : w.heap[b]? = some (.cells #[.slice x.t.o x.t.n x.t.c, .slice x.f.o x.f.n x.f.c] 25 (0, 0))
  has : HasA w x a
theorem Ba.inA {w : World} {b : Nat} {x : Wh} {a : Ar} (h : Ba w b x a) : InA w b x := inA_heap h.blk
theorem Ba.below {w w' : World} {b : Nat} {x : Wh} {a : Ar} (h : Ba w b x a) (k : Below w.heap.size w w') : Ba w' b x a :=
  ⟨by rw [k.block _ (Array.getElem?_eq_some_iff.1 h.blk).1]; exact h.blk, h.has.below k⟩
theorem ba_new {w : World} {x : Wh} {a : Ar} (h : HasA w x a) : Ba (w.alloc (.cells #[.slice x.t.o x.t.n x.t.c, .slice x.f.o x.f.n x.f.c] 25)) w.heap.size x a := ⟨heap_alloc_new w _, h.below (alloc_below _ _)⟩
theorem heap_two {w : World} {c : Nat} {x : Wh} (h : w.heap[c]? = some (.cells #[.slice x.t.o x.t.n x.t.c, .slice x.f.o x.f.n x.f.c] 25 (0, 0))) (u v : Value) : ((w.setCell ⟨c, 0, none⟩ u).setCell ⟨c, 1, none⟩ v).heap[c]? = some (.cells #[u, v] 25 (0, 0)) := by
  simp [World.setCell, Array.getElem?_modify, h]
theorem ba_set {w : World} {b : Nat} {x y : Wh} {a : Ar} (h : w.heap[b]? = some (.cells #[.slice x.t.o x.t.n x.t.c, .slice x.f.o x.f.n x.f.c] 25 (0, 0))) (hy : HasO w y a) : Ba ((w.setCell ⟨b, 0, none⟩ (.slice y.t.o y.t.n y.t.c)).setCell ⟨b, 1, none⟩ (.slice y.f.o y.f.n y.f.c)) b y a :=
  ⟨heap_two h _ _, (hy.boxG h _ _).has⟩
end Go.Proofs.Ytnagpedkmfmniaa.Ar
