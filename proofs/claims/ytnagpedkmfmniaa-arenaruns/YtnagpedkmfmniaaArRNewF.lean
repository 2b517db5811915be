/- What the document's New does: the arena under way. -/
import Derived.Test.YtnagpedkmfmniaaArOwnF
import Derived.Test.YtnagpedkmfmniaaArNewW
namespace Go.Proofs.Ytnagpedkmfmniaa.Ar
open Go.RowKit Go.Proofs.Ytnagpedkmfmniaa.Ha

structure Nv (w W : World) (bx : Nat) (y : Wh) (a : Ar) (k : Nat) (hs : List Hd) : Prop where
  low : Below w.heap.size w W
  zr : Zr W w.heap.size
  blk : W.heap[bx]? = some (.cells #[.slice y.t.o y.t.n y.t.c, .slice y.f.o y.f.n y.f.c] 25 (0, 0))
  gt : w.heap.size < bx
  t : W.ownsRow w.heap.size 40 8 (.slice y.t.o y.t.n y.t.c) y.t.n (ths a.ts)
  f : W.ownsRow w.heap.size 49 1 (.slice y.f.o y.f.n y.f.c) y.f.n (hds hs)
  fn : y.f.n = k
  hl : hs.length = k
  each : ∀ i, i < k → W.ownsRow w.heap.size 3 1 (.slice (hs.getD i Hd.zero).o (hs.getD i Hd.zero).n (hs.getD i Hd.zero).c) (hs.getD i Hd.zero).n (vals (a.fr.getD i []))
section
variable {w W W' : World} {bx k : Nat} {y : Wh} {a : Ar} {hs : List Hd}
theorem Nv.below (h : Nv w W bx y a k hs) (b : Below W.heap.size W W') : Nv w W' bx y a k hs := by
  have q := kept_below (S := fun _ => False) b
  have bb : ∀ {i : Nat} {o : Obj}, W.heap[i]? = some o → W'.heap[i]? = some o := fun ho => by rw [b.block _ (Array.getElem?_eq_some_iff.1 ho).1]; exact ho
  exact ⟨q_trans h.low b, bb h.zr, bb h.blk, h.gt, own_below h.t b, own_below h.f b, h.fn, h.hl, fun j hj => own_below (h.each j hj) b⟩
theorem Nv.inA (h : Nv w W bx y a k hs) : InA W bx y := inA_heap h.blk
/-- The box, ahead of its store. -/
theorem nv_cells {w1 w2 : World} {o : Obj} {e : TypeId} {B n size : Nat} {v : Value} {cs : List Value} (h : Nv w W bx y a k hs) (b1 : Below W.heap.size W w1) (hv : w1.ownsRow B e size v n cs) (he : e ≠ 25) (g : (w1.alloc o).grownBy w2 v.ownBlock) : InA w2 bx y := by
  have hA := (h.below b1).below (alloc_below w1 o)
  have q := kept_grown g
  have b : w2.heap[bx]? = some (.cells #[.slice y.t.o y.t.n y.t.c, .slice y.f.o y.f.n y.f.c] 25 (0, 0)) := by
    rw [q.block _ (Array.getElem?_eq_some_iff.1 hA.blk).1 (fun e' => own_nb (own_below hv (alloc_below w1 o)) hA.blk he e'.symm)]; exact hA.blk
  exact inA_heap b
/-- One more list. -/
theorem nv_step {w1 w2 : World} {m cap1 cap2 : Nat} {ao1 ao2 : Option Addr} {o : Obj} (h : Nv w W bx y a k hs) (b1 : Below W.heap.size W w1) (o1 : w1.ownsRow W.heap.size 3 1 (.slice ao1 m cap1) m (vals (a.fr.getD k [])))
    (o2 : w2.ownsRow w.heap.size 49 1 (.slice ao2 (k + 1) cap2) (k + 1) (hds hs ++ [.slice ao1 m cap1])) (g : (w1.alloc o).grownBy w2 (Value.ownBlock (.slice y.f.o y.f.n y.f.c))) :
    Nv w (w2.setCell ⟨bx, 1, none⟩ (.slice ao2 (k + 1) cap2)) bx ⟨y.t, ⟨ao2, k + 1, cap2⟩⟩ a (k + 1) (hs ++ [⟨ao1, m, cap1⟩]) := by
  have hA := (h.below b1).below (alloc_below w1 o)
  have o1' := own_below o1 (alloc_below w1 o)
  have q := kept_grown g
  have hbf := (own_row hA.f).2.2.2
  have lo2 : Below w.heap.size w w2 := hA.low.trans (q.below w.heap.size hA.low.size (fun i e => by obtain ⟨a3, e3, h3⟩ := block_of e.symm; have := (hbf a3 e3).1; omega))
  have blk : ∀ {i : Nat} {cur : Array Value} {fz : Nat × Nat}, (w1.alloc o).heap[i]? = some (.cells cur 25 fz) → w2.heap[i]? = some (.cells cur 25 fz) := fun ho => by
    rw [q.block _ (Array.getElem?_eq_some_iff.1 ho).1 (fun e => own_nb hA.f ho fneA e.symm)]; exact ho
  have zr2 : w2.heap[w.heap.size]? = _ := blk hA.zr
  have bk2 := blk hA.blk
  have t2 := own_kept hA.t q (fun i e s => own_ne hA.t hA.f tne e s.symm)
  have e2 : ∀ j, j < k → w2.ownsRow w.heap.size 3 1 (.slice (hs.getD j Hd.zero).o (hs.getD j Hd.zero).n (hs.getD j Hd.zero).c) (hs.getD j Hd.zero).n (vals (a.fr.getD j [])) := fun j hj => own_kept (hA.each j hj) q (fun i e s => own_ne (hA.each j hj) hA.f ineF e s.symm)
  have n2 : w2.ownsRow W.heap.size 3 1 (.slice ao1 m cap1) m (vals (a.fr.getD k [])) := own_kept o1' q (fun i e s => own_ne o1' hA.f ineF e s.symm)
  have n2' : w2.ownsRow w.heap.size 3 1 (.slice ao1 m cap1) m (vals (a.fr.getD k [])) := own_base n2 (fun i e => by obtain ⟨a3, e3, h3⟩ := block_of e; have := ((own_row n2).2.2.2 a3 e3).1; have := h.low.size; omega)
  have kb : Kept (fun i => i = bx) w2 (w2.setCell ⟨bx, 1, none⟩ (.slice ao2 (k + 1) cap2)) := kept_set _ w2 _ _ rfl
  have gt := h.gt
  have hl := h.hl
  refine ⟨lo2.trans (kb.below w.heap.size lo2.size (fun i e => by omega)), ?_, ?_, gt, own_kept t2 kb (fun i e s => own_nb t2 bk2 tneA (by rw [e, s])), ?_, rfl, by simp [hl], fun j hj => ?_⟩
  · show _ = _
    rw [kb.block _ (Array.getElem?_eq_some_iff.1 zr2).1 (by omega)]; exact zr2
  · simp [World.setCell, Array.getElem?_modify, bk2]
  · have := own_kept o2 kb (fun i e s => own_nb o2 bk2 fneA (by rw [e, s]))
    rwa [show hds hs ++ [Value.slice ao1 m cap1] = hds (hs ++ [⟨ao1, m, cap1⟩]) by simp [hds, Hd.v]] at this
  · by_cases e : j < k
    · rw [show (hs ++ [(⟨ao1, m, cap1⟩ : Hd)]).getD j Hd.zero = hs.getD j Hd.zero by rw [List.getD_eq_getElem?_getD, List.getElem?_append_left (by omega), ← List.getD_eq_getElem?_getD]]
      exact own_kept (e2 j e) kb (fun i e' s => own_nb (e2 j e) bk2 ineA (by rw [e', s]))
    · obtain rfl : j = k := by omega
      rw [show (hs ++ [(⟨ao1, m, cap1⟩ : Hd)]).getD j Hd.zero = ⟨ao1, m, cap1⟩ by rw [List.getD_eq_getElem?_getD, List.getElem?_append_right (by omega), hl]; simp]
      exact own_kept n2' kb (fun i e' s => own_nb n2' bk2 ineA (by rw [e', s]))
theorem ineT : (3 : TypeId) ≠ 40 := by decide
theorem fneT : (49 : TypeId) ≠ 40 := by decide
/-- One more thing. -/
theorem nv_thing {w2 : World} {n cap2 : Nat} {ao2 : Option Addr} {o : Obj} {t : Th} (h : Nv w W bx y a k hs)
    (o2 : w2.ownsRow w.heap.size 40 8 (.slice ao2 (n + 1) cap2) (n + 1) (ths a.ts ++ ths [t])) (g : (W.alloc o).grownBy w2 (Value.ownBlock (.slice y.t.o y.t.n y.t.c))) :
    Nv w (w2.setCell ⟨bx, 0, none⟩ (.slice ao2 (n + 1) cap2)) bx ⟨⟨ao2, n + 1, cap2⟩, y.f⟩ ⟨a.ts ++ [t], a.fr⟩ k hs := by
  have hA := h.below (alloc_below W o)
  have q := kept_grown g
  have hbf := (own_row hA.t).2.2.2
  have lo2 : Below w.heap.size w w2 := hA.low.trans (q.below w.heap.size hA.low.size (fun i e => by obtain ⟨a3, e3, h3⟩ := block_of e.symm; have := (hbf a3 e3).1; omega))
  have blk : ∀ {i : Nat} {cur : Array Value} {fz : Nat × Nat}, (W.alloc o).heap[i]? = some (.cells cur 25 fz) → w2.heap[i]? = some (.cells cur 25 fz) := fun ho => by
    rw [q.block _ (Array.getElem?_eq_some_iff.1 ho).1 (fun e => own_nb hA.t ho tneA e.symm)]; exact ho
  have zr2 : w2.heap[w.heap.size]? = _ := blk hA.zr
  have bk2 := blk hA.blk
  have f2 := own_kept hA.f q (fun i e s => own_ne hA.f hA.t fneT e s.symm)
  have e2 : ∀ j, j < k → w2.ownsRow w.heap.size 3 1 (.slice (hs.getD j Hd.zero).o (hs.getD j Hd.zero).n (hs.getD j Hd.zero).c) (hs.getD j Hd.zero).n (vals (a.fr.getD j [])) := fun j hj => own_kept (hA.each j hj) q (fun i e s => own_ne (hA.each j hj) hA.t ineT e s.symm)
  have kb : Kept (fun i => i = bx) w2 (w2.setCell ⟨bx, 0, none⟩ (.slice ao2 (n + 1) cap2)) := kept_set _ w2 _ _ rfl
  have gt := h.gt
  refine ⟨lo2.trans (kb.below w.heap.size lo2.size (fun i e => by omega)), ?_, ?_, gt, ?_, own_kept f2 kb (fun i e s => own_nb f2 bk2 fneA (by rw [e, s])), h.fn, h.hl, fun j hj => own_kept (e2 j hj) kb (fun i e' s => own_nb (e2 j hj) bk2 ineA (by rw [e', s]))⟩
  · show _ = _
    rw [kb.block _ (Array.getElem?_eq_some_iff.1 zr2).1 (by omega)]; exact zr2
  · simp [World.setCell, Array.getElem?_modify, bk2]
  · have := own_kept o2 kb (fun i e s => own_nb o2 bk2 tneA (by rw [e, s]))
    rwa [show ths a.ts ++ ths [t] = ths (a.ts ++ [t]) by simp [ths]] at this
end
theorem Nv.hasO {w W : World} {bx : Nat} {y : Wh} {a : Ar} {hs : List Hd} (h : Nv w W bx y a a.fr.length hs) : HasO W y a := by
  obtain ⟨t1, t2, t3, _⟩ := own_row h.t
  obtain ⟨f1, f2, f3, _⟩ := own_row h.f
  have tn : y.t.n = a.ts.length := by have := h.t.1; rw [len_ths] at this; omega
  refine ⟨⟨⟨tn, t3, t2, t1⟩, hs, h.fn, h.hl, f3, f2, f1, fun i hi => (own_mine (h.each i hi)).has⟩, fun g e => ?_⟩
  rcases h.f.2 with ⟨e2, _⟩ | ⟨g', c, cur, e2, _, hg, _⟩
  · rw [e] at e2; cases e2
  · rw [e] at e2; cases e2; exact ⟨cur, hg⟩
theorem one_th (w : World) (t : Th) (T : TypeId) : Row (w.alloc (.cells #[.int .i64 t.ty, .int .i64 t.gen, .int .i64 t.refs, .int .i64 t.st, .int .i64 t.sz, .int .i64 t.wa, .int .i64 t.fm, .int .i64 t.va] T)) (some ⟨w.heap.size, 0, none⟩) (ths [t]) := by
  refine ⟨fun j u hu => ⟨_, rfl, ?_⟩⟩
  simp only [ths, List.flatMap_cons, List.flatMap_nil, List.append_nil, thC] at hu
  match j, hu with
  | 0, hu => simp at hu; subst hu; simp [Addr.add]
  | 1, hu => simp at hu; subst hu; simp [Addr.add]
  | 2, hu => simp at hu; subst hu; simp [Addr.add]
  | 3, hu => simp at hu; subst hu; simp [Addr.add]
  | 4, hu => simp at hu; subst hu; simp [Addr.add]
  | 5, hu => simp at hu; subst hu; simp [Addr.add]
  | 6, hu => simp at hu; subst hu; simp [Addr.add]
  | 7, hu => simp at hu; subst hu; simp [Addr.add]
  | j + 8, hu => simp at hu
theorem one_hd (w : World) (u : Hd) (T : TypeId) : Row (w.alloc (.cells #[.slice u.o u.n u.c] T)) (some ⟨w.heap.size, 0, none⟩) (hds [u]) := by
  refine ⟨fun j v hv => ⟨_, rfl, ?_⟩⟩
  match j, hv with
  | 0, hv => simp [hds, Hd.v] at hv; subst hv; simp [Addr.add]
  | j + 1, hv => simp [hds] at hv
/-- What grows a row that lies behind B leaves what lies ahead of B. -/
theorem grow_own {w W w1 w2 : World} {e : TypeId} {size n : Nat} {v : Value} {cs : List Value} {o : Obj} (hb : Below w.heap.size w W) (h1 : w1 = W.alloc o) (hv : W.ownsRow w.heap.size e size v n cs) (g : w1.grownBy w2 v.ownBlock) : Below w.heap.size w w2 := by
  subst h1
  have q := kept_grown g
  refine (q_alloc hb o).trans (q.below w.heap.size (q_alloc hb o).size (fun i e' => ?_))
  rcases hv.2 with ⟨rfl, _⟩ | ⟨g', c, cur, rfl, hg, _⟩
  · cases e'
  · cases e'; exact hg
end Go.Proofs.Ytnagpedkmfmniaa.Ar
