/- An arena in memory of its own, which may be written. -/
import Derived.Test.YtnagpedkmfmniaaArMem
namespace Go.Proofs.Ytnagpedkmfmniaa.Ar
open Go.RowKit Go.Proofs.Ytnagpedkmfmniaa.Ha

theorem add0 (g k : Nat) : (⟨g, 0, none⟩ : Addr).add k = ⟨g, k, none⟩ := by cases k <;> simp [Addr.add]
theorem own_ne {w : World} {B B' n n' size size' : Nat} {e e' : TypeId} {v v' : Value} {cs cs' : List Value} (h : w.ownsRow B e size v n cs) (h' : w.ownsRow B' e' size' v' n' cs') (he : e ≠ e') {k : Nat} (hk : v.ownBlock = some k) (hk' : v'.ownBlock = some k) : False := by
  rcases h.2 with ⟨rfl, _⟩ | ⟨g, cap, cur, rfl, _, hg, _⟩
  · cases hk
  · rcases h'.2 with ⟨rfl, _⟩ | ⟨g', cap', cur', rfl, _, hg', _⟩
    · cases hk'
    · cases hk
      cases hk'
      rw [hg] at hg'
      injection hg' with h1
      injection h1 with _ h2
      exact he h2
/-- One cell of a row is written (elements of any size). -/
theorem own_setS {w : World} {B n cap g j size : Nat} {e : TypeId} {cs : List Value} (u : Value) (h : w.ownsRow B e size (.slice (some ⟨g, 0, none⟩) n cap) n cs) :
    (w.setCell ⟨g, j, none⟩ u).ownsRow B e size (.slice (some ⟨g, 0, none⟩) n cap) n (cs.set j u) := by
  refine ⟨by simpa using h.1, ?_⟩
  rcases h.2 with ⟨e, _⟩ | ⟨g', cap', cur, e, hb, hg, h1, h2, h3, h4⟩
  · cases e
  · cases e
    refine .inr ⟨g, cap, cur.setIfInBounds j u, rfl, hb, ?_, h1, h2, by simpa using h3, ?_⟩
    · have hlt := (Array.getElem?_eq_some_iff.1 hg).1
      simp [World.setCell, Array.getElem?_modify, hg]
    · rw [← h4]
      simp [List.take_set]
theorem own_head {w : World} {B n size : Nat} {e : TypeId} {ao : Option Addr} {c : Nat} {cs : List Value} (h : w.ownsRow B e size (.slice ao n c) n cs) (hn : 0 < n) : ∃ g, ao = some ⟨g, 0, none⟩ ∧ B ≤ g := by
  rcases h.2 with ⟨_, e2⟩ | ⟨g, c, cur, e, hb, _⟩
  · omega
  · injection e with e1 e2 e3
    exact ⟨g, e1, hb⟩

/-- AN ARENA WHOSE TWO ROWS ARE ITS OWN (FROM B ON); IT LIES IN NONE OF THE BLOCKS Av. -/
structure OwnA (w : World) (B : Nat) (Av : Nat → Prop) (x : Wh) (a : Ar) (hs : List Hd) : Prop where
  t : w.ownsRow B 40 8 (.slice x.t.o x.t.n x.t.c) x.t.n (ths a.ts)
  f : w.ownsRow B 49 1 (.slice x.f.o x.f.n x.f.c) x.f.n (hds hs)
  hl : hs.length = a.fr.length
  each : ∀ i, i < a.fr.length → Has w (hs.getD i Hd.zero).o (hs.getD i Hd.zero).n (hs.getD i Hd.zero).c (a.fr.getD i [])
  off : ∀ i, i < a.fr.length → Off (fun k => Av k ∨ (Value.slice x.t.o x.t.n x.t.c).ownBlock = some k ∨ (Value.slice x.f.o x.f.n x.f.c).ownBlock = some k) (hs.getD i Hd.zero).o (vals (a.fr.getD i []))
  at_ : ∀ k, (Value.slice x.t.o x.t.n x.t.c).ownBlock = some k → ¬ Av k
  af : ∀ k, (Value.slice x.f.o x.f.n x.f.c).ownBlock = some k → ¬ Av k
section
variable {w w' : World} {B : Nat} {Av : Nat → Prop} {x : Wh} {a : Ar} {hs : List Hd}
theorem OwnA.tn (h : OwnA w B Av x a hs) : x.t.n = a.ts.length := by
  have h1 := h.t.1
  rw [len_ths] at h1
  omega
theorem OwnA.fn (h : OwnA w B Av x a hs) : x.f.n = a.fr.length := by
  have h1 := h.f.1
  rw [len_hds, h.hl] at h1
  omega
theorem OwnA.has (h : OwnA w B Av x a hs) : HasA w x a := by
  obtain ⟨t1, t2, t3, _⟩ := own_row h.t
  obtain ⟨f1, f2, f3, _⟩ := own_row h.f
  exact ⟨⟨h.tn, t3, t2, t1⟩, hs, h.fn, h.hl, f3, f2, f1, h.each⟩
theorem OwnA.kept {S : Nat → Prop} (h : OwnA w B Av x a hs) (k : Kept S w w') (hS : ∀ i, S i → Av i) : OwnA w' B Av x a hs :=
  ⟨own_kept h.t k (fun i e s => h.at_ i e (hS i s)), own_kept h.f k (fun i e s => h.af i e (hS i s)), h.hl, fun i hi => (h.each i hi).kept k (fun h0 a e s => h.off i hi h0 a e (.inl (hS _ s))), h.off, h.at_, h.af⟩
theorem OwnA.below (h : OwnA w B Av x a hs) (b : Below w.heap.size w w') : OwnA w' B Av x a hs := h.kept (S := fun _ => False) (kept_below b) (fun _ e => e.elim)
/-- A new block lies beside it. -/
theorem OwnA.beside (h : OwnA w B Av x a hs) (b : Below w.heap.size w w') (C : Nat) (hC : w.heap.size ≤ C) : OwnA w' B (fun k => Av k ∨ k = C) x a hs := by
  have h2 := h.below b
  refine ⟨h2.t, h2.f, h2.hl, h2.each, fun i hi h0 a' e s => ?_, fun k e s => ?_, fun k e s => ?_⟩
  · rcases s with (s | s) | s
    · exact h.off i hi h0 a' e (.inl s)
    · obtain ⟨a2, e2, hl⟩ := (h.each i hi).row.lt h0
      rw [e] at e2
      cases e2
      omega
    · exact h.off i hi h0 a' e (.inr s)
  · rcases s with s | s
    · exact h.at_ k e s
    · rcases h.t.2 with ⟨e2, _⟩ | ⟨g, c, cur, e2, _, hg, _⟩
      · rw [e2] at e; cases e
      · rw [e2] at e
        cases e
        have h3 := (Array.getElem?_eq_some_iff.1 hg).1
        have s : g = C := s
        omega
  · rcases s with s | s
    · exact h.af k e s
    · rcases h.f.2 with ⟨e2, _⟩ | ⟨g, c, cur, e2, _, hg, _⟩
      · rw [e2] at e; cases e
      · rw [e2] at e
        cases e
        have h3 := (Array.getElem?_eq_some_iff.1 hg).1
        have s : g = C := s
        omega
theorem tne : (40 : TypeId) ≠ 49 := by decide
/-- Another head at one place. -/
theorem OwnA.setF (h : OwnA w B Av x a hs) {g : Nat} (hg : x.f.o = some ⟨g, 0, none⟩) (c : Nat) (hc : c < a.fr.length) (y : Hd) (l : List Int) (hy : Has w y.o y.n y.c l) (ho : Off (fun k => Av k ∨ (Value.slice x.t.o x.t.n x.t.c).ownBlock = some k ∨ (Value.slice x.f.o x.f.n x.f.c).ownBlock = some k) y.o (vals l)) :
    OwnA (w.setCell ⟨g, c, none⟩ (.slice y.o y.n y.c)) B Av x ⟨a.ts, a.fr.set c l⟩ (hs.set c y) := by
  have k : Kept (fun k => k = g) w (w.setCell ⟨g, c, none⟩ (.slice y.o y.n y.c)) := kept_set _ w _ _ rfl
  have hb : (Value.slice x.f.o x.f.n x.f.c).ownBlock = some g := by rw [hg]; rfl
  have hl := h.hl
  refine ⟨own_kept h.t k (fun i e s => ?_), ?_, by simpa using hl, fun i hi => ?_, fun i hi => ?_, h.at_, h.af⟩
  · subst s; exact own_ne h.t h.f tne e hb
  · have := h.f
    rw [hg] at this ⊢
    have := own_setS (j := c) (.slice y.o y.n y.c) this
    rwa [hds, show (Value.slice y.o y.n y.c) = y.v from rfl, ← List.map_set] at this
  · simp only [List.length_set] at hi
    by_cases e : i = c
    · subst e
      rw [show (hs.set i y).getD i Hd.zero = y by simp [List.getD, hl, hi], show (a.fr.set i l).getD i [] = l by simp [List.getD, hi]]
      exact hy.kept k (fun h0 a' e s => ho h0 a' e (.inr (.inr (by rw [hb, s]))))
    · have e2 : c ≠ i := fun x => e x.symm
      rw [show (hs.set c y).getD i Hd.zero = hs.getD i Hd.zero by simp [List.getD, e2], show (a.fr.set c l).getD i [] = a.fr.getD i [] by simp [List.getD, e2]]
      exact (h.each i hi).kept k (fun h0 a' e s => h.off i hi h0 a' e (.inr (.inr (by rw [hb, s]))))
  · simp only [List.length_set] at hi
    by_cases e : i = c
    · subst e
      rw [show (hs.set i y).getD i Hd.zero = y by simp [List.getD, hl, hi], show (a.fr.set i l).getD i [] = l by simp [List.getD, hi]]
      exact ho
    · have e2 : c ≠ i := fun x => e x.symm
      rw [show (hs.set c y).getD i Hd.zero = hs.getD i Hd.zero by simp [List.getD, e2], show (a.fr.set c l).getD i [] = a.fr.getD i [] by simp [List.getD, e2]]
      exact h.off i hi
/-- Cells of the things' row are written. -/
theorem OwnA.keptT (h : OwnA w B Av x a hs) {g : Nat} (hg : x.t.o = some ⟨g, 0, none⟩) (k : Kept (fun k => k = g) w w') {ts : List Th} (ht : w'.ownsRow B 40 8 (.slice x.t.o x.t.n x.t.c) x.t.n (ths ts)) : OwnA w' B Av x ⟨ts, a.fr⟩ hs := by
  have hb : (Value.slice x.t.o x.t.n x.t.c).ownBlock = some g := by rw [hg]; rfl
  refine ⟨ht, own_kept h.f k (fun i e s => ?_), h.hl, fun i hi => (h.each i hi).kept k (fun h0 a' e s => h.off i hi h0 a' e (.inr (.inl (by rw [hb, s])))), h.off, h.at_, h.af⟩
  subst s
  exact own_ne h.t h.f tne hb e
theorem kept_eight (w : World) (g o : Nat) (t : Th) : Kept (fun k => k = g) w ((((((((w.setCell ⟨g, o, none⟩ (.int .i64 t.ty)).setCell ⟨g, o + 1, none⟩ (.int .i64 t.gen)).setCell ⟨g, o + 2, none⟩ (.int .i64 t.refs)).setCell ⟨g, o + 3, none⟩ (.int .i64 t.st)).setCell ⟨g, o + 4, none⟩ (.int .i64 t.sz)).setCell ⟨g, o + 5, none⟩ (.int .i64 t.wa)).setCell ⟨g, o + 6, none⟩ (.int .i64 t.fm)).setCell ⟨g, o + 7, none⟩ (.int .i64 t.va)) := by
  iterate 8 refine Kept.setCell ?_ _ _ (fun _ => rfl)
  exact Kept.refl _ _
theorem OwnA.setT (h : OwnA w B Av x a hs) {g : Nat} (hg : x.t.o = some ⟨g, 0, none⟩) (p : Nat) (hp : p < a.ts.length) (t : Th) :
    OwnA ((((((((w.setCell ⟨g, p * 8, none⟩ (.int .i64 t.ty)).setCell ⟨g, p * 8 + 1, none⟩ (.int .i64 t.gen)).setCell ⟨g, p * 8 + 2, none⟩ (.int .i64 t.refs)).setCell ⟨g, p * 8 + 3, none⟩ (.int .i64 t.st)).setCell ⟨g, p * 8 + 4, none⟩ (.int .i64 t.sz)).setCell ⟨g, p * 8 + 5, none⟩ (.int .i64 t.wa)).setCell ⟨g, p * 8 + 6, none⟩ (.int .i64 t.fm)).setCell ⟨g, p * 8 + 7, none⟩ (.int .i64 t.va)) B Av x ⟨a.ts.set p t, a.fr⟩ hs := by
  refine h.keptT hg (kept_eight w g (p * 8) t) ?_
  have h0 := h.t
  rw [hg] at h0 ⊢
  have := own_setS (j := p * 8 + 7) (.int .i64 t.va) (own_setS (j := p * 8 + 6) (.int .i64 t.fm) (own_setS (j := p * 8 + 5) (.int .i64 t.wa) (own_setS (j := p * 8 + 4) (.int .i64 t.sz) (own_setS (j := p * 8 + 3) (.int .i64 t.st) (own_setS (j := p * 8 + 2) (.int .i64 t.refs) (own_setS (j := p * 8 + 1) (.int .i64 t.gen) (own_setS (j := p * 8) (.int .i64 t.ty) h0)))))))
  rwa [ths_set a.ts p t hp] at this
end
/-- AN ARENA THAT LIES SOMEWHERE, ITS LISTS' HEADS IN A BLOCK OF SUCH HEADS. -/
structure HasO (w : World) (y : Wh) (a : Ar) : Prop where
  has : HasA w y a
  ft : ∀ g, y.f.o = some g → ∃ cur, w.heap[g.block]? = some (.cells cur 49 (0, 0))
theorem HasO.below {w w' : World} {y : Wh} {a : Ar} (h : HasO w y a) (b : Below w.heap.size w w') : HasO w' y a := by
  refine ⟨h.has.below b, fun g e => ?_⟩
  obtain ⟨cur, hc⟩ := h.ft g e
  exact ⟨cur, by rw [b.block _ (Array.getElem?_eq_some_iff.1 hc).1]; exact hc⟩
theorem OwnA.hasO {w : World} {B : Nat} {Av : Nat → Prop} {x : Wh} {a : Ar} {hs : List Hd} (h : OwnA w B Av x a hs) : HasO w x a := by
  refine ⟨h.has, fun g e => ?_⟩
  rcases h.f.2 with ⟨e2, _⟩ | ⟨g', c, cur, e2, _, hg, _⟩
  · rw [e] at e2; cases e2
  · rw [e] at e2; cases e2; exact ⟨cur, hg⟩
/-- A block of two heads is written: the arena is as it was. -/
theorem HasO.box {w : World} {y : Wh} {a : Ar} (h : HasO w y a) {c : Nat} (hc : w.heap[c]? = some (.cells #[.slice none 0 0, .slice none 0 0] 25 (0, 0))) (u v : Value) : HasO ((w.setCell ⟨c, 0, none⟩ u).setCell ⟨c, 1, none⟩ v) y a := by
  have k : Kept (fun k => k = c) w ((w.setCell ⟨c, 0, none⟩ u).setCell ⟨c, 1, none⟩ v) := by
    iterate 2 refine Kept.setCell ?_ _ _ (fun _ => rfl)
    exact Kept.refl _ _
  have ni : ∀ (p : Addr) (z : Int), w.cell? p = some (.int .i64 z) → p.block ≠ c := by
    intro p z hp e
    obtain ⟨b, o, m⟩ := p
    have e : b = c := e
    subst e
    cases m with
    | none =>
      simp only [World.cell?, hc] at hp
      match o, hp with
      | 0, hp => simp at hp
      | 1, hp => simp at hp
      | (o + 2), hp => simp at hp
    | some q => simp [World.cell?, hc] at hp
  have hfc : ∀ g, y.f.o = some g → g.block ≠ c := by
    intro g e e2
    obtain ⟨cur, hg⟩ := h.ft g e
    rw [e2, hc] at hg
    injection hg with h1
    injection h1 with _ h2
    exact absurd h2 (by decide)
  obtain ⟨hs, hF⟩ := h.has.f
  refine ⟨⟨⟨h.has.t.len, h.has.t.nil, h.has.t.le, h.has.t.row.kept k (fun h0 g e e2 => ?_)⟩, hs, hF.len, hF.hl, hF.nil, hF.le, hF.row.kept k (fun _ g e e2 => hfc g e e2), fun i hi => (hF.each i hi).kept k (fun h0 g e e2 => ?_)⟩, fun g e => ?_⟩
  · have hl : 0 < a.ts.length := by rw [len_ths] at h0; omega
    obtain ⟨g', e', hA⟩ := h.has.t.at_ 0 (by have := h.has.t.len; omega)
    rw [e] at e'
    cases e'
    refine ni _ _ hA.c0 ?_
    rw [add_block]
    exact e2
  · obtain ⟨g', e', hc2⟩ := (hF.each i hi).cell 0 (by have := (hF.each i hi).len; rw [len_vals] at h0; omega)
    rw [e] at e'
    cases e'
    refine ni _ _ hc2 ?_
    rw [add_block]
    exact e2
  · obtain ⟨cur, hg⟩ := h.ft g e
    exact ⟨cur, by rw [k.block _ (Array.getElem?_eq_some_iff.1 hg).1 (hfc g e)]; exact hg⟩
theorem ths_ref (l : List Th) (k : Nat) (r : Int) (h : k < l.length) : (ths l).set (k * 8 + 2) (.int .i64 r) = ths (l.set k ⟨(l.getD k Th.zero).ty, (l.getD k Th.zero).gen, r, (l.getD k Th.zero).st, (l.getD k Th.zero).sz, (l.getD k Th.zero).wa, (l.getD k Th.zero).fm, (l.getD k Th.zero).va⟩) := by
  induction l generalizing k with
  | nil => simp at h
  | cons o r ih =>
    cases k with
    | zero => simp [ths, thC]
    | succ k =>
      have hk := ih k (by simpa using h)
      have e : ths (o :: r) = thC o ++ ths r := by simp [ths]
      rw [e, List.set_append_right _ _ (by simp [thC]; omega), show (k + 1) * 8 + 2 - (thC o).length = k * 8 + 2 by simp [thC]; omega, hk]
      simp [ths]
theorem OwnA.setR {w : World} {B : Nat} {Av : Nat → Prop} {x : Wh} {a : Ar} {hs : List Hd} (h : OwnA w B Av x a hs) {g : Nat} (hg : x.t.o = some ⟨g, 0, none⟩) (p : Nat) (hp : p < a.ts.length) (r : Int) :
    OwnA (w.setCell ⟨g, p * 8 + 2, none⟩ (.int .i64 r)) B Av x ⟨a.ts.set p ⟨(a.ts.getD p Th.zero).ty, (a.ts.getD p Th.zero).gen, r, (a.ts.getD p Th.zero).st, (a.ts.getD p Th.zero).sz, (a.ts.getD p Th.zero).wa, (a.ts.getD p Th.zero).fm, (a.ts.getD p Th.zero).va⟩, a.fr⟩ hs := by
  refine h.keptT hg (kept_set _ w _ _ rfl) ?_
  have h0 := h.t
  rw [hg] at h0 ⊢
  have := own_setS (j := p * 8 + 2) (.int .i64 r) h0
  rwa [ths_ref a.ts p r hp] at this
end Go.Proofs.Ytnagpedkmfmniaa.Ar
