/- Behind the copy: the boxes, and the arena that is answered. -/
import Derived.Test.YtnagpedkmfmniaaArW8
namespace Go.Proofs.Ytnagpedkmfmniaa.Ar
open Go.RowKit Go.Proofs.Ytnagpedkmfmniaa.Ha

/-- THE BOX OF WHAT WAS HANDED IN, THE ANSWER's, AND THE COPY's, IN WHICH a LIES, AND MAY BE WRITTEN. -/
structure Aft (w W : World) (s1 r bb : Nat) (x y : Wh) (a : Ar) (hs : List Hd) : Prop where
  low : Below w.heap.size w W
  box : InA W w.heap.size x
  res : InA W r Wh.zero
  cop : InA W bb y
  hs0 : w.heap.size < s1
  hr : w.heap.size < r ∧ r < s1
  hbb : s1 ≤ bb
  own : OwnA W s1 (fun k => k < s1 ∨ k = bb) y a hs
section
variable {w W W' : World} {s1 r bb : Nat} {x y : Wh} {a : Ar} {hs : List Hd}
theorem Aft.below (h : Aft w W s1 r bb x y a hs) (b : Below W.heap.size W W') : Aft w W' s1 r bb x y a hs :=
  ⟨q_trans h.low b, h.box.below b, h.res.below b, h.cop.below b, h.hs0, h.hr, h.hbb, h.own.below b⟩
/-- Right behind the call of apart, and the box made. -/
theorem aft_new {w V V1 : World} {s1 r : Nat} {x y : Wh} {a : Ar} {hs : List Hd} (lo : Below w.heap.size w V) (bx : InA V w.heap.size x) (re : InA V r Wh.zero) (hz : V.heap.size = s1) (hr : w.heap.size < r) (ho : OwnA V1 V.heap.size (fun k => k < V.heap.size) y a hs) (b : Below V.heap.size V V1) :
    Aft w (V1.alloc (.cells #[.slice y.t.o y.t.n y.t.c, .slice y.f.o y.f.n y.f.c] 25)) s1 r V1.heap.size x y a hs := by
  subst hz
  exact ⟨q_alloc (q_trans lo b) _, (bx.below b).below (alloc_below _ _), (re.below b).below (alloc_below _ _), inA_new V1 y _, bx.lt, ⟨hr, re.lt⟩, b.size, ho.beside (alloc_below V1 _) V1.heap.size (Nat.le_refl _)⟩
/-- At the end: the answer is laid. -/
theorem Aft.fin (h : Aft w W s1 r bb x y a hs) : HasO ((W.setCell ⟨r, 0, none⟩ (.slice y.t.o y.t.n y.t.c)).setCell ⟨r, 1, none⟩ (.slice y.f.o y.f.n y.f.c)) y a ∧ Below w.heap.size w ((W.setCell ⟨r, 0, none⟩ (.slice y.t.o y.t.n y.t.c)).setCell ⟨r, 1, none⟩ (.slice y.f.o y.f.n y.f.c)) := by
  have k := kept_two W r (.slice y.t.o y.t.n y.t.c) (.slice y.f.o y.f.n y.f.c)
  have hr := h.hr
  exact ⟨(h.own.kept k (fun i e => .inl (by omega))).hasO, h.low.trans (k.below w.heap.size h.low.size (fun i e => by omega))⟩
theorem Aft.finN (h : Aft w W s1 r bb x y a hs) : (∃ hs, OwnA ((W.setCell ⟨r, 0, none⟩ (.slice y.t.o y.t.n y.t.c)).setCell ⟨r, 1, none⟩ (.slice y.f.o y.f.n y.f.c)) w.heap.size (fun k => k < w.heap.size) y a hs) ∧ Below w.heap.size w ((W.setCell ⟨r, 0, none⟩ (.slice y.t.o y.t.n y.t.c)).setCell ⟨r, 1, none⟩ (.slice y.f.o y.f.n y.f.c)) := by
  have k := kept_two W r (.slice y.t.o y.t.n y.t.c) (.slice y.f.o y.f.n y.f.c)
  have hr := h.hr
  have h0 := h.hs0
  have o := h.own.kept k (fun i e => .inl (by omega))
  exact ⟨⟨hs, own_base o.t (fun q e => by obtain ⟨a3, e3, h3⟩ := block_of e; have := ((own_row o.t).2.2.2 a3 e3).1; omega), own_base o.f (fun q e => by obtain ⟨a3, e3, h3⟩ := block_of e; have := ((own_row o.f).2.2.2 a3 e3).1; omega), o.hl, o.each, fun i hi h0 a' e s => o.off i hi h0 a' e (s.elim (fun s => .inl (.inl (by omega))) .inr), fun q e s => o.at_ q e (.inl (by omega)), fun q e s => o.af q e (.inl (by omega))⟩, h.fin.2⟩
theorem Aft.put (h : Aft w W s1 r bb x y a hs) {g : Nat} (hg : ¬ (g < s1 ∨ g = bb)) (_hB : s1 ≤ g) (k : Kept (fun k => k = g) W W') {a' : Ar} {hs' : List Hd} (ho : OwnA W' s1 (fun k => k < s1 ∨ k = bb) y a' hs') : Aft w W' s1 r bb x y a' hs' := by
  have hs0 := h.hs0
  have hr := h.hr
  exact ⟨h.low.trans (k.below w.heap.size h.low.size (fun i e => by omega)), h.box.kept k (by omega), h.res.kept k (by omega), h.cop.kept k (by omega), hs0, hr, h.hbb, ho⟩
theorem Aft.gt (h : Aft w W s1 r bb x y a hs) {g : Nat} (hg : y.t.o = some ⟨g, 0, none⟩) : ¬ (g < s1 ∨ g = bb) ∧ s1 ≤ g :=
  ⟨h.own.at_ g (by rw [hg]; rfl), ((own_row h.own.t).2.2.2 _ hg).1⟩
theorem Aft.gf (h : Aft w W s1 r bb x y a hs) {g : Nat} (hg : y.f.o = some ⟨g, 0, none⟩) : ¬ (g < s1 ∨ g = bb) ∧ s1 ≤ g :=
  ⟨h.own.af g (by rw [hg]; rfl), ((own_row h.own.f).2.2.2 _ hg).1⟩
/-- A thing is written. -/
theorem Aft.setT (h : Aft w W s1 r bb x y a hs) {g : Nat} (hg : y.t.o = some ⟨g, 0, none⟩) (p : Nat) (hp : p < a.ts.length) (t : Th) :
    Aft w ((((((((W.setCell ⟨g, p * 8, none⟩ (.int .i64 t.ty)).setCell ⟨g, p * 8 + 1, none⟩ (.int .i64 t.gen)).setCell ⟨g, p * 8 + 2, none⟩ (.int .i64 t.refs)).setCell ⟨g, p * 8 + 3, none⟩ (.int .i64 t.st)).setCell ⟨g, p * 8 + 4, none⟩ (.int .i64 t.sz)).setCell ⟨g, p * 8 + 5, none⟩ (.int .i64 t.wa)).setCell ⟨g, p * 8 + 6, none⟩ (.int .i64 t.fm)).setCell ⟨g, p * 8 + 7, none⟩ (.int .i64 t.va)) s1 r bb x y ⟨a.ts.set p t, a.fr⟩ hs :=
  h.put (h.gt hg).1 (h.gt hg).2 (kept_eight W g (p * 8) t) (h.own.setT hg p hp t)
theorem Aft.setR (h : Aft w W s1 r bb x y a hs) {g : Nat} (hg : y.t.o = some ⟨g, 0, none⟩) (p : Nat) (hp : p < a.ts.length) (z : Int) :
    Aft w (W.setCell ⟨g, p * 8 + 2, none⟩ (.int .i64 z)) s1 r bb x y ⟨a.ts.set p ⟨(a.ts.getD p Th.zero).ty, (a.ts.getD p Th.zero).gen, z, (a.ts.getD p Th.zero).st, (a.ts.getD p Th.zero).sz, (a.ts.getD p Th.zero).wa, (a.ts.getD p Th.zero).fm, (a.ts.getD p Th.zero).va⟩, a.fr⟩ hs :=
  h.put (h.gt hg).1 (h.gt hg).2 (kept_set _ W _ _ rfl) (h.own.setR hg p hp z)
/-- A list's head is written. -/
theorem Aft.setF (h : Aft w W s1 r bb x y a hs) {g : Nat} (hg : y.f.o = some ⟨g, 0, none⟩) (c : Nat) (hc : c < a.fr.length) (v : Hd) (l : List Int) (hv : Has W v.o v.n v.c l) (hw : Off (fun k => (k < s1 ∨ k = bb) ∨ (Value.slice y.t.o y.t.n y.t.c).ownBlock = some k ∨ (Value.slice y.f.o y.f.n y.f.c).ownBlock = some k) v.o (vals l)) :
    Aft w (W.setCell ⟨g, c, none⟩ (.slice v.o v.n v.c)) s1 r bb x y ⟨a.ts, a.fr.set c l⟩ (hs.set c v) :=
  h.put (h.gf hg).1 (h.gf hg).2 (kept_set _ W _ _ rfl) (h.own.setF hg c hc v l hv hw)
/-- A list that was made later lies apart. -/
theorem Aft.apart (h : Aft w W s1 r bb x y a hs) {v : Hd} {l : List Int} {V : World} (hv : Mine V W.heap.size v.o v.n v.c l) : Off (fun k => (k < s1 ∨ k = bb) ∨ (Value.slice y.t.o y.t.n y.t.c).ownBlock = some k ∨ (Value.slice y.f.o y.f.n y.f.c).ownBlock = some k) v.o (vals l) := by
  intro h0 a' e s
  have h1 := hv.new a' e
  have h2 := h.cop.lt
  have h3 := h.hbb
  rcases s with (s | s) | s | s
  · omega
  · omega
  · obtain ⟨a3, e3, h3⟩ := block_of s
    have := ((own_row h.own.t).2.2.2 a3 e3).2
    omega
  · obtain ⟨a3, e3, h3⟩ := block_of s
    have := ((own_row h.own.f).2.2.2 a3 e3).2
    omega
end
/-- The first of a list is taken away. -/
theorem run_from1 (ao : Option Addr) (n cap : Nat) (hn : 1 ≤ n) (W : World) :
    (Instr.slice 49 (.slice ao n cap) (some (.int .i64 1)) none none).run Try.prog W = .ok (.slice (if cap = 1 then ao else ao.map (·.add 1)) (n - 1) (cap - 1)) W := by
  have hb := fun code => run_sliceBound (P := Try.prog) (w := W) .i64 (1 : Int) n code (by omega) (by omega)
  simp [Instr.slice, Instr.sliceBounds, run_underlying Try.underlying49, hb, Try.sizeOf3]
theorem has_drop {w : World} {ao : Option Addr} {n cap : Nat} {l : List Int} (h : Has w ao n cap l) (hk : 1 ≤ n) : Has w (if cap = 1 then ao else ao.map (·.add 1)) (n - 1) (cap - 1) l.tail := by
  have hl := h.len
  have hc := h.le
  refine ⟨by simp; omega, fun e => ?_, by omega, ⟨fun j u hu => ?_⟩⟩
  · by_cases e2 : cap = 1
    · omega
    · rw [if_neg e2] at e
      have : ao = none := by cases ao with
        | none => rfl
        | some a => simp at e
      have := h.nil this
      omega
  · by_cases e2 : cap = 1
    · have : l.tail = [] := List.eq_nil_of_length_eq_zero (by simp; omega)
      rw [this] at hu
      simp at hu
    · rw [if_neg e2]
      simp only [vals, List.getElem?_map, List.getElem?_tail] at hu
      obtain ⟨a, rfl, hcell⟩ := h.row.cell (j + 1) u (by simpa [vals] using hu)
      exact ⟨a.add 1, rfl, by rw [add_add, Nat.add_comm]; exact hcell⟩
theorem off_drop {S : Nat → Prop} {ao : Option Addr} {cap : Nat} {l : List Int} (h : Off S ao (vals l)) : Off S (if cap = 1 then ao else ao.map (·.add 1)) (vals l.tail) := by
  intro h0 a e
  have h1 : 0 < (vals l).length := by simp at h0 ⊢; omega
  by_cases e2 : cap = 1
  · rw [if_pos e2] at e; exact h h1 a e
  · rw [if_neg e2] at e
    cases ao with
    | none => cases e
    | some b => cases e; rw [add_block]; exact h h1 b rfl
end Go.Proofs.Ytnagpedkmfmniaa.Ar
