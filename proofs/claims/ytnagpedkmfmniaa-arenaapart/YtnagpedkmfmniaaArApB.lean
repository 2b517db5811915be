/- ArenaApart: the box, the list of places, the list of what was given. -/
import Derived.Test.YtnagpedkmfmniaaArActs
import Derived.Test.YtnagpedkmfmniaaArApart0
namespace Go.Proofs.Ytnagpedkmfmniaa.Ar
open Go.RowKit Go.Proofs.Ytnagpedkmfmniaa.Ha

theorem iA : (3 : TypeId) ≠ 25 := by decide
theorem tA : (40 : TypeId) ≠ 25 := by decide
theorem iT : (3 : TypeId) ≠ 40 := by decide
theorem own_type {w : World} {B n size b : Nat} {e T : TypeId} {v : Value} {cs : List Value} {cur : Array Value} {fz : Nat × Nat} (h : w.ownsRow B e size v n cs) (hb : w.heap[b]? = some (.cells cur T fz)) (he : e ≠ T) : v.ownBlock ≠ some b := by
  intro hk
  rcases h.2 with ⟨rfl, _⟩ | ⟨g, cap, cur', rfl, _, hg, _⟩
  · cases hk
  · cases hk
    rw [hg] at hb
    injection hb with h1
    injection h1 with _ h2
    exact he h2
/-- A new arena in a box: it lies in no block ahead of B. -/
structure Bn (W : World) (B b : Nat) (v : Wh) (a : Ar) : Prop where
  blk : W.heap[b]? = some (.cells #[.slice v.t.o v.t.n v.t.c, .slice v.f.o v.f.n v.f.c] 25 (0, 0))
  own : ∃ hs, OwnA W B (fun k => k < B) v a hs
theorem own_weak {W : World} {B B' : Nat} {v : Wh} {a : Ar} {hs : List Hd} (o : OwnA W B' (fun k => k < B') v a hs) (h : B ≤ B') : OwnA W B (fun k => k < B) v a hs :=
  ⟨own_base o.t (fun q e => by obtain ⟨a3, e3, h3⟩ := block_of e; have := ((own_row o.t).2.2.2 a3 e3).1; omega), own_base o.f (fun q e => by obtain ⟨a3, e3, h3⟩ := block_of e; have := ((own_row o.f).2.2.2 a3 e3).1; omega), o.hl, o.each, fun i hi h0 a' e s => o.off i hi h0 a' e (s.elim (fun s => .inl (by omega)) .inr), fun q e s => o.at_ q e (by omega), fun q e s => o.af q e (by omega)⟩
theorem bn_new {W : World} {B B' : Nat} {v : Wh} {a : Ar} (h : ∃ hs, OwnA W B' (fun k => k < B') v a hs) (hB : B ≤ B') : Bn (W.alloc (.cells #[.slice v.t.o v.t.n v.t.c, .slice v.f.o v.f.n v.f.c] 25)) B W.heap.size v a := by
  obtain ⟨hs, o⟩ := h
  exact ⟨heap_alloc_new W _, hs, (own_weak o hB).below (alloc_below _ _)⟩
theorem bn_put {W : World} {B B' c : Nat} {v : Wh} {a : Ar} (h : ∃ hs, OwnA W B' (fun k => k < B') v a hs) (hB : B ≤ B') (hz : Zr W c) (hc : c < B') : Bn ((W.setCell ⟨c, 0, none⟩ (.slice v.t.o v.t.n v.t.c)).setCell ⟨c, 1, none⟩ (.slice v.f.o v.f.n v.f.c)) B c v a := by
  obtain ⟨hs, o⟩ := h
  exact ⟨heap_two (x := Wh.zero) hz _ _, hs, own_weak (o.kept (kept_two W c _ _) (fun i e => by have e : i = c := e; omega)) hB⟩
theorem Bn.inA {W : World} {B b : Nat} {v : Wh} {a : Ar} (h : Bn W B b v a) : InA W b v := inA_heap h.blk
theorem Bn.hasO {W : World} {B b : Nat} {v : Wh} {a : Ar} (h : Bn W B b v a) : HasO W v a := h.own.elim fun _ o => o.hasO
theorem Bn.kept {S : Nat → Prop} {W W' : World} {B b : Nat} {v : Wh} {a : Ar} (h : Bn W B b v a) (k : Kept S W W') (hS : ∀ i, S i → i < B) (hb : ¬ S b) : Bn W' B b v a :=
  ⟨by rw [k.block _ (Array.getElem?_eq_some_iff.1 h.blk).1 hb]; exact h.blk, h.own.elim fun hs o => ⟨hs, o.kept k hS⟩⟩
theorem Bn.below {W W' : World} {B b : Nat} {v : Wh} {a : Ar} (h : Bn W B b v a) (k : Below W.heap.size W W') : Bn W' B b v a := h.kept (S := fun _ => False) (kept_below k) (fun _ e => e.elim) (fun e => e)
/-- The box of the arena, the places that are live, what was given. -/
structure Aq (w W : World) (b0 : Nat) (y : Wh) (a : Ar) (pl : List Int) (sn : List Th) (P S : Hd) : Prop where
  low : Below w.heap.size w W
  blk : W.heap[b0]? = some (.cells #[.slice y.t.o y.t.n y.t.c, .slice y.f.o y.f.n y.f.c] 25 (0, 0))
  has : HasO W y a
  g0 : w.heap.size ≤ b0
  p : W.ownsRow w.heap.size 3 1 (.slice P.o P.n P.c) P.n (vals pl)
  s : W.ownsRow w.heap.size 40 8 (.slice S.o S.n S.c) S.n (ths sn)
section
variable {w W W' : World} {b0 : Nat} {y : Wh} {a : Ar} {pl : List Int} {sn : List Th} {P S : Hd}
theorem Aq.inA (h : Aq w W b0 y a pl sn P S) : InA W b0 y := inA_heap h.blk
theorem Aq.below (h : Aq w W b0 y a pl sn P S) (k : Below W.heap.size W W') : Aq w W' b0 y a pl sn P S :=
  ⟨q_trans h.low k, by rw [k.block _ (Array.getElem?_eq_some_iff.1 h.blk).1]; exact h.blk, h.has.below k, h.g0, own_below h.p k, own_below h.s k⟩
theorem Aq.pn (h : Aq w W b0 y a pl sn P S) : P.n = pl.length := by have := h.p.1; rw [len_vals] at this; omega
theorem Aq.sn_ (h : Aq w W b0 y a pl sn P S) : S.n = sn.length := by have := h.s.1; rw [len_ths] at this; omega
/-- Another arena is laid into the box. -/
theorem Aq.set (h : Aq w W b0 y a pl sn P S) {v : Wh} {a' : Ar} (hv : HasO W v a') : Aq w ((W.setCell ⟨b0, 0, none⟩ (.slice v.t.o v.t.n v.t.c)).setCell ⟨b0, 1, none⟩ (.slice v.f.o v.f.n v.f.c)) b0 v a' pl sn P S := by
  have k := kept_two W b0 (.slice v.t.o v.t.n v.t.c) (.slice v.f.o v.f.n v.f.c)
  exact ⟨low_put h.low h.g0, heap_two h.blk _ _, hv.boxG h.blk _ _, h.g0, own_kept h.p k (fun i e s => own_type h.p h.blk iA (by rw [e, s])), own_kept h.s k (fun i e s => own_type h.s h.blk tA (by rw [e, s]))⟩
/-- The places are made anew. -/
theorem Aq.places (h : Aq w W b0 y a pl sn P S) {pl' : List Int} {P' : Hd} (k : Below W.heap.size W W') (o : W'.ownsRow W.heap.size 3 1 (.slice P'.o P'.n P'.c) P'.n (vals pl')) : Aq w W' b0 y a pl' sn P' S := by
  have h2 := h.below k
  exact ⟨h2.low, h2.blk, h2.has, h.g0, own_base o (fun q e => by obtain ⟨a3, e3, h3⟩ := block_of e; have := ((own_row o).2.2.2 a3 e3).1; have := h.low.size; omega), h2.s⟩
end
/-- What stays while the two lists grow: all but the arena in the box, which is not looked at again. -/
structure Ar2 (w W : World) (B b0 cb : Nat) (y v : Wh) (a' : Ar) (pl : List Int) (sn : List Th) (P S : Hd) : Prop where
  low : Below w.heap.size w W
  blk : W.heap[b0]? = some (.cells #[.slice y.t.o y.t.n y.t.c, .slice y.f.o y.f.n y.f.c] 25 (0, 0))
  g0 : w.heap.size ≤ b0
  nb : Bn W B cb v a'
  hB : B ≤ cb
  p : W.ownsRow w.heap.size 3 1 (.slice P.o P.n P.c) P.n (vals pl)
  s : W.ownsRow w.heap.size 40 8 (.slice S.o S.n S.c) S.n (ths sn)
  pB : ∀ k, (Value.slice P.o P.n P.c).ownBlock = some k → k < B
  sB : ∀ k, (Value.slice S.o S.n S.c).ownBlock = some k → k < B
section
variable {w W W' : World} {B b0 cb : Nat} {y v : Wh} {a' : Ar} {pl : List Int} {sn : List Th} {P S : Hd}
theorem Ar2.below (h : Ar2 w W B b0 cb y v a' pl sn P S) (k : Below W.heap.size W W') : Ar2 w W' B b0 cb y v a' pl sn P S :=
  ⟨q_trans h.low k, by rw [k.block _ (Array.getElem?_eq_some_iff.1 h.blk).1]; exact h.blk, h.g0, h.nb.below k, h.hB, own_below h.p k, own_below h.s k, h.pB, h.sB⟩
theorem ar2_of {a : Ar} {wr : World} (h : Aq w wr b0 y a pl sn P S) (k : Below wr.heap.size wr W) (hv : Bn W wr.heap.size cb v a') (hc : wr.heap.size ≤ cb) : Ar2 w W wr.heap.size b0 cb y v a' pl sn P S := by
  have h2 := h.below k
  exact ⟨h2.low, h2.blk, h.g0, hv, hc, h2.p, h2.s, fun q e => by obtain ⟨a3, e3, h3⟩ := block_of e; have := ((own_row h.p).2.2.2 a3 e3).2; omega, fun q e => by obtain ⟨a3, e3, h3⟩ := block_of e; have := ((own_row h.s).2.2.2 a3 e3).2; omega⟩
/-- Behind both appends, and the arena laid: a new round. -/
theorem ar2_end {w1 w2 : World} {o1 o2 : Obj} {pl' : List Int} {sn' : List Th} {P' S' : Hd} (h : Ar2 w W B b0 cb y v a' pl sn P S)
    (p1 : w1.ownsRow w.heap.size 3 1 (.slice P'.o P'.n P'.c) P'.n (vals pl')) (g1 : (W.alloc o1).grownBy w1 (Value.ownBlock (.slice P.o P.n P.c)))
    (s2 : w2.ownsRow w.heap.size 40 8 (.slice S'.o S'.n S'.c) S'.n (ths sn')) (g2 : (w1.alloc o2).grownBy w2 (Value.ownBlock (.slice S.o S.n S.c))) :
    Aq w ((w2.setCell ⟨b0, 0, none⟩ (.slice v.t.o v.t.n v.t.c)).setCell ⟨b0, 1, none⟩ (.slice v.f.o v.f.n v.f.c)) b0 v a' pl' sn' P' S' ∧ InA w2 cb v ∧ InA w2 b0 y := by
  have hA := h.below (alloc_below W o1)
  have q1 := kept_grown g1
  have nP := own_type hA.p hA.blk iA
  have nPc := own_type hA.p hA.nb.blk iA
  have lo1 : Below w.heap.size w w1 := hA.low.trans (q1.below w.heap.size hA.low.size (fun i e => by obtain ⟨a3, e3, h3⟩ := block_of e.symm; have := ((own_row hA.p).2.2.2 a3 e3).1; omega))
  have bk1 : w1.heap[b0]? = some (.cells #[.slice y.t.o y.t.n y.t.c, .slice y.f.o y.f.n y.f.c] 25 (0, 0)) := by rw [q1.block _ (Array.getElem?_eq_some_iff.1 hA.blk).1 (fun e => nP e.symm)]; exact hA.blk
  have n1 : Bn w1 B cb v a' := hA.nb.kept q1 (fun i e => h.pB i e.symm) (fun e => nPc e.symm)
  have s1 : w1.ownsRow w.heap.size 40 8 (.slice S.o S.n S.c) S.n (ths sn) := own_kept hA.s q1 (fun i e s => own_ne hA.p hA.s iT s.symm e)
  have bb := alloc_below w1 o2
  have s1' := own_below s1 bb
  have n1' := n1.below bb
  have bk1' : (w1.alloc o2).heap[b0]? = some (.cells #[.slice y.t.o y.t.n y.t.c, .slice y.f.o y.f.n y.f.c] 25 (0, 0)) := by rw [bb.block _ (Array.getElem?_eq_some_iff.1 bk1).1]; exact bk1
  have q2 := kept_grown g2
  have lo2 : Below w.heap.size w w2 := (q_trans lo1 bb).trans (q2.below w.heap.size (q_trans lo1 bb).size (fun i e => by obtain ⟨a3, e3, h3⟩ := block_of e.symm; have := ((own_row s1').2.2.2 a3 e3).1; omega))
  have bk2 : w2.heap[b0]? = some (.cells #[.slice y.t.o y.t.n y.t.c, .slice y.f.o y.f.n y.f.c] 25 (0, 0)) := by rw [q2.block _ (Array.getElem?_eq_some_iff.1 bk1').1 (fun e => own_type s1' bk1' tA e.symm)]; exact bk1'
  have n2 : Bn w2 B cb v a' := n1'.kept q2 (fun i e => h.sB i e.symm) (fun e => own_type s1' n1'.blk tA e.symm)
  have p2 : w2.ownsRow w.heap.size 3 1 (.slice P'.o P'.n P'.c) P'.n (vals pl') := own_kept (own_below p1 bb) q2 (fun i e s => own_ne (own_below p1 bb) s1' iT e s.symm)
  have k := kept_two w2 b0 (.slice v.t.o v.t.n v.t.c) (.slice v.f.o v.f.n v.f.c)
  exact ⟨⟨low_put lo2 h.g0, heap_two bk2 _ _, n2.hasO.boxG bk2 _ _, h.g0, own_kept p2 k (fun i e s => own_type p2 bk2 iA (by rw [e, s])), own_kept s2 k (fun i e s => own_type s2 bk2 tA (by rw [e, s]))⟩, n2.inA, inA_heap bk2⟩
end
/-- A box, and a cell: what holds at every moment of a region. -/
abbrev SQ (b : Nat) (x : Wh) (ad : Addr) (z : Value) (w : World) : Prop := SB b x w ∧ w.cell? ad = some z
theorem sq_keep {w w' : World} {b : Nat} {x : Wh} {ad : Addr} {z : Value} (k : Below w.heap.size w w') (h : SQ b x ad z w) : SQ b x ad z w' := ⟨sb_keep k h.1, (kept_below (S := fun _ => False) k).cell h.2 (fun e => e)⟩
theorem sq_drew {w : World} {b : Nat} {x : Wh} {ad : Addr} {z : Value} (h : SQ b x ad z w) : SQ b x ad z w.drew := h
theorem sq_alloc {w : World} {b : Nat} {x : Wh} {ad : Addr} {z : Value} {o : Obj} (h : SQ b x ad z w) : SQ b x ad z (w.alloc o) := sq_keep (alloc_below _ _) h
theorem sq_two {w : World} {b c : Nat} {x : Wh} {ad : Addr} {z u v : Value} (h : SQ b x ad z w) (hb : b ≠ c ∧ ad.block ≠ c) : SQ b x ad z ((w.setCell ⟨c, 0, none⟩ u).setCell ⟨c, 1, none⟩ v) := ⟨sb_two h.1 hb.1, (kept_two w c u v).cell h.2 hb.2⟩
theorem take_litN (y : Wh) (a : Ar) (c : Int) (w : World) (HS : Hid (Sm a)) (HH : Hid (HasA w y a)) :
    Calls Try.prog 23 #[(.agg #[.slice y.t.o y.t.n y.t.c, .slice y.f.o y.f.n y.f.c]), .int .i64 c, .agg #[.int .i64 3, .int .i64 0, .int .i64 0, .int .i64 0, .int .i64 0, .int .i64 0, .int .i64 (-1), .int .i64 0]] w fun e w' => ∃ z : Wh, e = .returned (.tuple #[(.agg #[.slice z.t.o z.t.n z.t.c, .slice z.f.o z.f.n z.f.c]), .int .i64 (takeP a c frameT), .int .i64 (takeE a c frameT)]) ∧ (∃ hs, OwnA w' w.heap.size (fun k => k < w.heap.size) z (takeA a c frameT) hs) ∧ Below w.heap.size w w' :=
  take_new y a c frameT w HS HH
theorem live_ap {w W : World} (h : Below w.heap.size w W) : Calls Try.prog 10 #[] W fun e w' => e = .returned (.bool true) ∧ Below w.heap.size w w' := (live9_any W).mono fun _ _ ⟨h1, h2⟩ => ⟨h1, q_trans h h2⟩
theorem row_int (w : World) (x : Int) (T : TypeId) : Row (w.alloc (.cells #[.int .i64 x] T)) (some ⟨w.heap.size, 0, none⟩) (vals [x]) := by
  refine ⟨fun j u hu => ⟨_, rfl, ?_⟩⟩
  match j, hu with
  | 0, hu => simp at hu; subst hu; simp [Addr.add]
  | j + 1, hu => simp at hu
theorem row_th (w : World) (t : Th) (T : TypeId) : Row (w.alloc (.cells #[.int .i64 t.ty, .int .i64 t.gen, .int .i64 t.refs, .int .i64 t.st, .int .i64 t.sz, .int .i64 t.wa, .int .i64 t.fm, .int .i64 t.va] T)) (some ⟨w.heap.size, 0, none⟩) (ths [t]) := by
  refine ⟨fun j u hu => ⟨_, rfl, ?_⟩⟩
  simp only [ths, List.flatMap_cons, List.flatMap_nil, List.append_nil, thC] at hu
  match j, hu with
  | 0, hu => simp at hu; subst hu; simp [Addr.add]
  | 1, hu => simp at hu; subst hu; simp [Addr.add]
  | 2, hu => simp at hu; subst hu; simp [Addr.add]
  | 3, hu => simp at hu; subst hu; simp [Addr.add]
  | 4, hu => simp at hu; subst hu; simp [Addr.add]
  | 5, hu => simp at hu; subst hu; simp [Addr.add]
  | 6, hu => simp at hu; subst hu; simp [Addr.add]
  | 7, hu => simp at hu; subst hu; simp [Addr.add]
  | j + 8, hu => simp at hu
theorem inT_of {w : World} {b : Nat} {t : Th} {T : TypeId} (h : w.heap[b]? = some (.cells #[.int .i64 t.ty, .int .i64 t.gen, .int .i64 t.refs, .int .i64 t.st, .int .i64 t.sz, .int .i64 t.wa, .int .i64 t.fm, .int .i64 t.va] T (0, 0))) : InT w b t := by
  constructor <;> simp [World.cell?, World.frozen?, h]
/-- Between the two appends. -/
theorem ar2_mid {w W w1 : World} {B b0 cb tb : Nat} {y v : Wh} {a' : Ar} {pl : List Int} {sn : List Th} {P S : Hd} {o1 : Obj} {cur : Array Value} {fz : Nat × Nat} (h : Ar2 w W B b0 cb y v a' pl sn P S) (g1 : (W.alloc o1).grownBy w1 (Value.ownBlock (.slice P.o P.n P.c))) (hb : W.heap[tb]? = some (.cells cur 40 fz)) :
    w1.heap[tb]? = some (.cells cur 40 fz) ∧ w1.ownsRow w.heap.size 40 8 (.slice S.o S.n S.c) S.n (ths sn) ∧ w.heap.size ≤ w1.heap.size := by
  have bb := alloc_below W o1
  have hA := h.below bb
  have q1 := kept_grown g1
  have hb' : (W.alloc o1).heap[tb]? = some (.cells cur 40 fz) := by rw [bb.block _ (Array.getElem?_eq_some_iff.1 hb).1]; exact hb
  refine ⟨by rw [q1.block _ (Array.getElem?_eq_some_iff.1 hb').1 (fun e => own_type hA.p hb' iT e.symm)]; exact hb', own_kept hA.s q1 (fun i e s => own_ne hA.p hA.s iT s.symm e), ?_⟩
  have := hA.low.size
  have := q1.size
  omega
end Go.Proofs.Ytnagpedkmfmniaa.Ar
