/- What own does: an arena with lists of its own. -/
import Derived.Test.YtnagpedkmfmniaaArModel
import Derived.Deep.RegionLaw
namespace Go.Proofs.Ytnagpedkmfmniaa.Ar
open Go.RowKit Go.Proofs.Ytnagpedkmfmniaa.Ha

theorem own_nb {w : World} {B n size b : Nat} {e T : TypeId} {v : Value} {cs : List Value} {cur : Array Value} {fz : Nat × Nat} (h : w.ownsRow B e size v n cs) (hb : w.heap[b]? = some (.cells cur T fz)) (he : e ≠ T) : v.ownBlock ≠ some b := by
  intro hk
  rcases h.2 with ⟨rfl, _⟩ | ⟨g, cap, cur', rfl, _, hg, _⟩
  · cases hk
  · cases hk
    rw [hg] at hb
    injection hb with h1
    injection h1 with _ h2
    exact he h2
/-- THE ARENA UNDER WAY: k of its lists are there. -/
structure Ow (w W : World) (bx : Nat) (x y : Wh) (a : Ar) (k : Nat) (hs : List Hd) : Prop where
  low : Below w.heap.size w W
  pb : W.heap[w.heap.size]? = some (.cells #[.slice x.t.o x.t.n x.t.c, .slice x.f.o x.f.n x.f.c] 25 (0, 0))
  zr : Zr W (w.heap.size + 1)
  blk : W.heap[bx]? = some (.cells #[.slice y.t.o y.t.n y.t.c, .slice y.f.o y.f.n y.f.c] 25 (0, 0))
  gt : w.heap.size + 1 < bx
  t : W.ownsRow w.heap.size 40 8 (.slice y.t.o y.t.n y.t.c) y.t.n (ths a.ts)
  f : W.ownsRow w.heap.size 49 1 (.slice y.f.o y.f.n y.f.c) y.f.n (hds hs)
  fn : y.f.n = k
  hl : hs.length = k
  each : ∀ i, i < k → W.ownsRow w.heap.size 3 1 (.slice (hs.getD i Hd.zero).o (hs.getD i Hd.zero).n (hs.getD i Hd.zero).c) (hs.getD i Hd.zero).n (vals (a.fr.getD i []))
section
variable {w W W' : World} {bx k : Nat} {x y : Wh} {a : Ar} {hs : List Hd}
theorem Ow.kept {S : Nat → Prop} (h : Ow w W bx x y a k hs) (q : Kept S W W') (hS : ∀ i, S i → w.heap.size ≤ i) (h0 : ¬ S w.heap.size) (h1 : ¬ S (w.heap.size + 1)) (h2 : ¬ S bx) (ht : ∀ i, (Value.slice y.t.o y.t.n y.t.c).ownBlock = some i → ¬ S i) (hf : ∀ i, (Value.slice y.f.o y.f.n y.f.c).ownBlock = some i → ¬ S i)
    (he : ∀ j, j < k → ∀ i, (Value.slice (hs.getD j Hd.zero).o (hs.getD j Hd.zero).n (hs.getD j Hd.zero).c).ownBlock = some i → ¬ S i) : Ow w W' bx x y a k hs := by
  have b : ∀ {i : Nat} {o : Obj}, ¬ S i → W.heap[i]? = some o → W'.heap[i]? = some o := fun hn ho => by rw [q.block _ (Array.getElem?_eq_some_iff.1 ho).1 hn]; exact ho
  exact ⟨h.low.trans (q.below w.heap.size h.low.size hS), b h0 h.pb, b h1 h.zr, b h2 h.blk, h.gt, own_kept h.t q ht, own_kept h.f q hf, h.fn, h.hl, fun j hj => own_kept (h.each j hj) q (he j hj)⟩
theorem Ow.below (h : Ow w W bx x y a k hs) (b : Below W.heap.size W W') : Ow w W' bx x y a k hs :=
  h.kept (S := fun _ => False) (kept_below b) (fun _ e => e.elim) (fun e => e) (fun e => e) (fun e => e) (fun _ _ e => e) (fun _ _ e => e) (fun _ _ _ _ e => e)
theorem fneA : (49 : TypeId) ≠ 25 := by decide
theorem tneA : (40 : TypeId) ≠ 25 := by decide
theorem ineA : (3 : TypeId) ≠ 25 := by decide
theorem ineF : (3 : TypeId) ≠ 49 := by decide
/-- One more list. -/
theorem ow_step {w1 w2 : World} {m cap1 cap2 : Nat} {ao1 ao2 : Option Addr} {o : Obj} (h : Ow w W bx x y a k hs) (b1 : Below W.heap.size W w1) (o1 : w1.ownsRow W.heap.size 3 1 (.slice ao1 m cap1) m (vals (a.fr.getD k [])))
    (o2 : w2.ownsRow w.heap.size 49 1 (.slice ao2 (k + 1) cap2) (k + 1) (hds hs ++ [.slice ao1 m cap1])) (g : (w1.alloc o).grownBy w2 (Value.ownBlock (.slice y.f.o y.f.n y.f.c))) :
    Ow w (w2.setCell ⟨bx, 1, none⟩ (.slice ao2 (k + 1) cap2)) bx x ⟨y.t, ⟨ao2, k + 1, cap2⟩⟩ a (k + 1) (hs ++ [⟨ao1, m, cap1⟩]) := by
  have hA := (h.below b1).below (alloc_below w1 o)
  have o1' := own_below o1 (alloc_below w1 o)
  have q := kept_grown g
  have hbf := (own_row hA.f).2.2.2
  have lo2 : Below w.heap.size w w2 := hA.low.trans (q.below w.heap.size hA.low.size (fun i e => by obtain ⟨a3, e3, h3⟩ := block_of e.symm; have := (hbf a3 e3).1; omega))
  have blk : ∀ {i : Nat} {cur : Array Value} {fz : Nat × Nat}, (w1.alloc o).heap[i]? = some (.cells cur 25 fz) → w2.heap[i]? = some (.cells cur 25 fz) := fun ho => by
    rw [q.block _ (Array.getElem?_eq_some_iff.1 ho).1 (fun e => own_nb hA.f ho fneA e.symm)]; exact ho
  have pb2 := blk hA.pb
  have zr2 : w2.heap[w.heap.size + 1]? = _ := blk hA.zr
  have bk2 := blk hA.blk
  have t2 := own_kept hA.t q (fun i e s => own_ne hA.t hA.f tne e s.symm)
  have e2 : ∀ j, j < k → w2.ownsRow w.heap.size 3 1 (.slice (hs.getD j Hd.zero).o (hs.getD j Hd.zero).n (hs.getD j Hd.zero).c) (hs.getD j Hd.zero).n (vals (a.fr.getD j [])) := fun j hj => own_kept (hA.each j hj) q (fun i e s => own_ne (hA.each j hj) hA.f ineF e s.symm)
  have n2 : w2.ownsRow W.heap.size 3 1 (.slice ao1 m cap1) m (vals (a.fr.getD k [])) := own_kept o1' q (fun i e s => own_ne o1' hA.f ineF e s.symm)
  have n2' : w2.ownsRow w.heap.size 3 1 (.slice ao1 m cap1) m (vals (a.fr.getD k [])) := own_base n2 (fun i e => by obtain ⟨a3, e3, h3⟩ := block_of e; have := ((own_row n2).2.2.2 a3 e3).1; have := h.low.size; omega)
  have kb : Kept (fun i => i = bx) w2 (w2.setCell ⟨bx, 1, none⟩ (.slice ao2 (k + 1) cap2)) := kept_set _ w2 _ _ rfl
  have gt := h.gt
  have hl := h.hl
  refine ⟨lo2.trans (kb.below w.heap.size lo2.size (fun i e => by omega)), ?_, ?_, ?_, gt, own_kept t2 kb (fun i e s => own_nb t2 bk2 tneA (by rw [e, s])), ?_, rfl, by simp [hl], fun j hj => ?_⟩
  · rw [kb.block _ (Array.getElem?_eq_some_iff.1 pb2).1 (by omega)]; exact pb2
  · show _ = _
    rw [kb.block _ (Array.getElem?_eq_some_iff.1 zr2).1 (by omega)]; exact zr2
  · simp [World.setCell, Array.getElem?_modify, bk2]
  · have := own_kept o2 kb (fun i e s => own_nb o2 bk2 fneA (by rw [e, s]))
    rwa [show hds hs ++ [Value.slice ao1 m cap1] = hds (hs ++ [⟨ao1, m, cap1⟩]) by simp [hds, Hd.v]] at this
  · by_cases e : j < k
    · rw [show (hs ++ [(⟨ao1, m, cap1⟩ : Hd)]).getD j Hd.zero = hs.getD j Hd.zero by rw [List.getD_eq_getElem?_getD, List.getElem?_append_left (by omega), ← List.getD_eq_getElem?_getD]]
      exact own_kept (e2 j e) kb (fun i e' s => own_nb (e2 j e) bk2 ineA (by rw [e', s]))
    · obtain rfl : j = k := by omega
      rw [show (hs ++ [(⟨ao1, m, cap1⟩ : Hd)]).getD j Hd.zero = ⟨ao1, m, cap1⟩ by rw [List.getD_eq_getElem?_getD, List.getElem?_append_right (by omega), hl]; simp]
      exact own_kept n2' kb (fun i e' s => own_nb n2' bk2 ineA (by rw [e', s]))
/-- ... and the box, ahead of its store. -/
theorem ow_cells {w1 w2 : World} {o : Obj} (h : Ow w W bx x y a k hs) (b1 : Below W.heap.size W w1) (g : (w1.alloc o).grownBy w2 (Value.ownBlock (.slice y.f.o y.f.n y.f.c))) :
    w2.cell? ⟨bx, 1, none⟩ = some (.slice y.f.o y.f.n y.f.c) ∧ w2.frozen? ⟨bx, 1, none⟩ = false := by
  have hA := (h.below b1).below (alloc_below w1 o)
  have q := kept_grown g
  have b : w2.heap[bx]? = some (.cells #[.slice y.t.o y.t.n y.t.c, .slice y.f.o y.f.n y.f.c] 25 (0, 0)) := by
    rw [q.block _ (Array.getElem?_eq_some_iff.1 hA.blk).1 (fun e => own_nb hA.f hA.blk fneA e.symm)]; exact hA.blk
  exact ⟨(inA_heap b).c1, (inA_heap b).f 1⟩
end
theorem Ow.hasO {w W : World} {bx : Nat} {x y : Wh} {a : Ar} {hs : List Hd} (h : Ow w W bx x y a a.fr.length hs) : HasO W y a := by
  obtain ⟨t1, t2, t3, _⟩ := own_row h.t
  obtain ⟨f1, f2, f3, _⟩ := own_row h.f
  have tn : y.t.n = a.ts.length := by have := h.t.1; rw [len_ths] at this; omega
  refine ⟨⟨⟨tn, t3, t2, t1⟩, hs, h.fn, h.hl, f3, f2, f1, fun i hi => (own_mine (h.each i hi)).has⟩, fun g e => ?_⟩
  rcases h.f.2 with ⟨e2, _⟩ | ⟨g', c, cur, e2, _, hg, _⟩
  · rw [e] at e2; cases e2
  · rw [e] at e2; cases e2; exact ⟨cur, hg⟩
end Go.Proofs.Ytnagpedkmfmniaa.Ar
