/- What apart does. -/
import Derived.Test.YtmnkbkhfonngeaaHiW5
namespace Go.Proofs.Ytmnkbkhfonngeaa.Hi
open Go.RowKit

theorem getD_mem {α : Type} {l : List α} {q : Nat} {z : α} (h : q < l.length) : l.getD q z ∈ l := by
  have e : l.getD q z = l[q] := by simp [List.getD, h]
  rw [e]
  exact List.getElem_mem h
/-- A row lies in no box of another type. -/
theorem own_ty {w : World} {B n cap size b : Nat} {e t : TypeId} {o : Option Addr} {cs : List Value} {C : Array Value} (h : w.ownsRow B e size (.slice o n cap) n cs) (hb : w.heap[b]? = some (.cells C t)) (ht : e ≠ t) : ∀ i, (Value.slice o n cap).ownBlock = some i → ¬ i = b := by
  intro i hi e1
  subst e1
  rcases h.2 with ⟨e2, _⟩ | ⟨g, cap', cur, e2, _, hg, _⟩
  · rw [e2] at hi
    cases hi
  · rw [e2] at hi
    cases hi
    rw [hb] at hg
    cases hg
    exact ht rfl
theorem MineL.put {α : Type} {E : α → List Value} {e : TypeId} {m : Nat} {w : World} {B b : Nat} {y : Hd} {l : List α} {x x' : Hh} (k : MineL E e m w B y l) (g : Hb w b x) (he : e ≠ 25) : MineL E e m (put2 w b x') B y l :=
  ⟨k.1, own_kept k.2 (kept_put2 w b x') (own_ty k.2 g.h he)⟩
/-- A HISTORY OF A CALL's OWN: its lists in blocks from B on, the spans below B1, the events below B2, no replies in these. -/
structure OwnH (w : World) (B B1 B2 : Nat) (z : Hh) (h : Hs) (xs : List (Ev × Hd)) : Prop where
  m : xs.map (·.1) = h.e
  b : B ≤ B1
  b2 : B1 ≤ B2
  b3 : B2 ≤ w.heap.size
  s : MineS w B z.s h.s
  sl : ∀ a, z.s.o = some a → a.block < B1
  x : MineX w B1 z.e xs
  xl : ∀ a, z.e.o = some a → a.block < B2
  d : ∀ x ∈ xs, HasD w x.2 x.1.l ∧ Off (fun k => B ≤ k ∧ k < B2) x.2.o (x.1.l.flatMap dnC)
theorem OwnH.has {w : World} {B B1 B2 : Nat} {z : Hh} {h : Hs} {xs : List (Ev × Hd)} (g : OwnH w B B1 B2 z h xs) : HasH w z h := ⟨g.s.has, xs, g.m, g.x.has, fun x hx => (g.d x hx).1⟩
theorem OwnH.below {w w' : World} {B B1 B2 : Nat} {z : Hh} {h : Hs} {xs : List (Ev × Hd)} (g : OwnH w B B1 B2 z h xs) (b : Below w.heap.size w w') : OwnH w' B B1 B2 z h xs := ⟨g.m, g.b, g.b2, Nat.le_trans g.b3 b.size, g.s.below b, g.sl, g.x.below b, g.xl, fun x hx => ⟨(g.d x hx).1.below b, (g.d x hx).2⟩⟩
theorem OwnH.put {w : World} {B B1 B2 b : Nat} {z y y' : Hh} {h : Hs} {xs : List (Ev × Hd)} (g : OwnH w B B1 B2 z h xs) (hb : Hb w b y) : OwnH (put2 w b y') B B1 B2 z h xs :=
  ⟨g.m, g.b, g.b2, Nat.le_trans g.b3 (kept_put2 w b y').size, g.s.put hb (by decide), g.sl, g.x.put hb (by decide), g.xl, fun x hx => ⟨(g.d x hx).1.kept (kept_put2 w b y') (hb.off dnC_int (g.d x hx).1.row), (g.d x hx).2⟩⟩
/-- The two lists have been copied. -/
structure Cl (W wx : World) (bP : Nat) (z : Hh) (h : Hs) (xs : List (Ev × Hd)) (B1 : Nat) : Prop where
  box : Hb wx bP z
  b : W.heap.size ≤ B1
  s : MineS wx W.heap.size z.s h.s
  sl : ∀ a, z.s.o = some a → a.block < B1
  x : MineX wx B1 z.e xs
  n : z.e.n = xs.length
  low : Below W.heap.size W wx
  b2 : B1 ≤ wx.heap.size
theorem cl_a {W w9 w8 : World} {B9 B8 b : Nat} {z9 z8 : Hd} {h : Hs} {xs : List (Ev × Hd)} (H9 : MineS w9 B9 z9 h.s) (e9 : W.heap.size ≤ B9) (H8 : MineX w8 B8 z8 xs) (e8 : w9.heap.size ≤ B8) (b8 : Below w9.heap.size w9 w8) (q9 : Below W.heap.size W w9) (hq : Hb w8 b nilX) (hb : W.heap.size ≤ b) : Cl W (put2 w8 b ⟨z9, z8⟩) b ⟨z9, z8⟩ h xs w9.heap.size :=
  ⟨hq.put, q9.size, ((H9.below b8).base e9).put hq (by decide), fun _ e => (H9.blk e).2, (H8.base e8).put hq (by decide), H8.1, put2_low (q_trans q9 b8) hb, by simp [put2, World.setCell]; exact b8.size⟩
theorem cl_b {W w9 w8 : World} {B9 B8 : Nat} {z9 z8 : Hd} {h : Hs} {xs : List (Ev × Hd)} (H9 : MineS w9 B9 z9 h.s) (e9 : W.heap.size ≤ B9) (H8 : MineX w8 B8 z8 xs) (e8 : w9.heap.size ≤ B8) (b8 : Below w9.heap.size w9 w8) (q9 : Below W.heap.size W w9) : Cl W (w8.alloc (.cells #[.slice z9.o z9.n z9.c, .slice z8.o z8.n z8.c] 25)) w8.heap.size ⟨z9, z8⟩ h xs w9.heap.size :=
  ⟨hb_new w8 ⟨z9, z8⟩, q9.size, ((H9.below b8).base e9).below (alloc_below _ _), fun _ e => (H9.blk e).2, (H8.base e8).below (alloc_below _ _), H8.1, q_alloc (q_trans q9 b8) _, Nat.le_trans b8.size (by simp)⟩
theorem Cl.below {W w w' : World} {b B1 : Nat} {z : Hh} {h : Hs} {xs : List (Ev × Hd)} (g : Cl W w b z h xs B1) (q : Below w.heap.size w w') : Cl W w' b z h xs B1 := ⟨g.box.below q, g.b, g.s.below q, g.sl, g.x.below q, g.n, q_trans g.low q, Nat.le_trans g.b2 q.size⟩
theorem lay1 (W : World) (a : Obj) {w9 : World} (h : Below (W.drew.alloc a).heap.size (W.drew.alloc a) w9) : w9.heap[W.heap.size]? = some a :=
  (h.block W.heap.size (by simp)).trans (heap_alloc_new W.drew a)
theorem lay9 (W : World) (a : Obj) {w9 : World} (h : Below (W.alloc a).heap.size (W.alloc a) w9) : w9.heap[W.heap.size]? = some a :=
  (h.block W.heap.size (by simp)).trans (heap_alloc_new W a)
theorem add_head (g k : Nat) : (⟨g, 0, none⟩ : Addr).add k = ⟨g, k, none⟩ := by
  unfold Addr.add
  split
  · next e => rw [e]
  · simp
theorem own_setS {w : World} {B n cap g j size : Nat} {e : TypeId} {cs : List Value} (u : Value) (h : w.ownsRow B e size (.slice (some ⟨g, 0, none⟩) n cap) n cs) :
    (w.setCell ⟨g, j, none⟩ u).ownsRow B e size (.slice (some ⟨g, 0, none⟩) n cap) n (cs.set j u) := by
  refine ⟨by simpa using h.1, ?_⟩
  rcases h.2 with ⟨e, _⟩ | ⟨g', cap', cur, e, hb, hg, h1, h2, h3, h4⟩
  · cases e
  · cases e
    refine .inr ⟨g, cap, cur.setIfInBounds j u, rfl, hb, ?_, h1, h2, by simpa using h3, ?_⟩
    · have hlt := (Array.getElem?_eq_some_iff.1 hg).1
      simp [World.setCell, Array.getElem?_modify, hg]
    · rw [← h4]
      simp [List.take_set]
theorem own_head {w : World} {B n size : Nat} {e : TypeId} {ao : Option Addr} {c : Nat} {cs : List Value} (h : w.ownsRow B e size (.slice ao n c) n cs) (hn : 0 < n) : ∃ g, ao = some ⟨g, 0, none⟩ ∧ B ≤ g := by
  rcases h.2 with ⟨_, e2⟩ | ⟨g, c, cur, e, hb, _⟩
  · omega
  · injection e with e1 e2 e3
    exact ⟨g, e1, hb⟩
theorem set_self {α : Type} {l : List α} {i : Nat} {a : α} (hi : i < l.length) (h : a = l[i]) : l.set i a = l := by
  subst h
  exact List.set_getElem_self hi
/-- Some of the replies have been copied. -/
structure Lp (A : Nat) (W wr : World) (bP : Nat) (z : Hh) (h : Hs) (B2 : Nat) (ys : List (Ev × Hd)) (B1 : Nat) : Prop where
  box : Hb wr bP z
  r : Hb wr (A + 1) nilX
  b : W.heap.size ≤ B1
  b2 : B1 ≤ B2
  b3 : B2 ≤ wr.heap.size
  s : MineS wr W.heap.size z.s h.s
  sl : ∀ a, z.s.o = some a → a.block < B1
  x : MineX wr B1 z.e ys
  xl : ∀ a, z.e.o = some a → a.block < B2
  m : ys.map (·.1) = h.e
  d : ∀ x ∈ ys, HasD wr x.2 x.1.l ∧ Off (fun k => W.heap.size ≤ k ∧ k < B2) x.2.o (x.1.l.flatMap dnC)
  low : Below W.heap.size W wr
theorem lp_start {w W W1 : World} {x z : Hh} {bP : Nat} {h : Hs} {xs : List (Ev × Hd)} {B1 : Nat} (hr : Hb W (w.heap.size + 1) nilX) (g : Cl W W1 bP z h xs B1) (hx : HasX w x.e xs) (hm : xs.map (·.1) = h.e) (hb : Below w.heap.size w W1) (hl : w.heap.size ≤ W.heap.size) (b2 : B1 ≤ W1.heap.size) : Lp w.heap.size W W1 bP z h W1.heap.size xs B1 :=
  ⟨g.box, hr.below g.low, g.b, b2, Nat.le_refl _, g.s, g.sl, g.x, fun a e => (g.x.blk e).2, hm, fun y hy => ⟨(hx.each y hy).below hb, fun h0 a e s => by
    have := (hx.each y hy).row.lt h0
    obtain ⟨a', e', hl'⟩ := this
    rw [e] at e'
    cases e'
    omega⟩, g.low⟩
theorem Lp.below {A : Nat} {W wr w' : World} {bP B2 B1 : Nat} {z : Hh} {h : Hs} {ys : List (Ev × Hd)} (g : Lp A W wr bP z h B2 ys B1) (q : Below wr.heap.size wr w') : Lp A W w' bP z h B2 ys B1 :=
  ⟨g.box.below q, g.r.below q, g.b, g.b2, Nat.le_trans g.b3 q.size, g.s.below q, g.sl, g.x.below q, g.xl, g.m, fun x hx => ⟨(g.d x hx).1.below q, (g.d x hx).2⟩, q_trans g.low q⟩
/-- The replies at a place are written anew. -/
theorem Lp.store {A : Nat} {W wr : World} {bP B2 B1 q g0 B9 : Nat} {z : Hh} {h : Hs} {ys : List (Ev × Hd)} {u : Hd} (g : Lp A W wr bP z h B2 ys B1) (hq : q < ys.length) (ho : z.e.o = some ⟨g0, 0, none⟩) (hd : MineD wr B9 u (ys.getD q (e0, nilH)).1.l) (h9 : B2 ≤ B9) : Lp A W (wr.setCell ⟨g0, q * 12 + 11, none⟩ (.slice u.o u.n u.c)) bP z h B2 (ys.set q ((ys.getD q (e0, nilH)).1, u)) B1 := by
  have hk : Kept (fun i => i = g0) wr (wr.setCell ⟨g0, q * 12 + 11, none⟩ (.slice u.o u.n u.c)) := kept_set _ _ _ _ rfl
  have hg := g.x.2
  rw [ho] at hg
  have hob : (Value.slice (some (⟨g0, 0, none⟩ : Addr)) z.e.n z.e.c).ownBlock = some g0 := rfl
  have hlo : B1 ≤ g0 := (g.x.blk ho).1
  have hhi : g0 < B2 := g.xl _ ho
  have n1 : ¬ bP = g0 := fun e => own_ty hg g.box.h (by decide) g0 hob e.symm
  have n2 : ¬ A + 1 = g0 := fun e => own_ty hg g.r.h (by decide) g0 hob e.symm
  refine ⟨g.box.kept hk n1, g.r.kept hk n2, g.b, g.b2, Nat.le_trans g.b3 hk.size, ⟨g.s.1, own_kept g.s.2 hk ?_⟩, g.sl, ⟨by rw [List.length_set]; exact g.x.1, ?_⟩, g.xl, ?_, ?_, ?_⟩
  · intro i hi e1
    cases hs : z.s.o with
    | none => rw [hs] at hi; cases hi
    | some a =>
      rw [hs] at hi
      cases hi
      have := g.sl a hs
      have e1 : a.block = g0 := e1
      omega
  · rw [ho, ← fm_set1 evC 12 evC_len ys (e0, nilH) ((ys.getD q (e0, nilH)).1, u) q 11 (.slice u.o u.n u.c) hq (by decide) rfl]
    exact own_setS _ hg
  · rw [List.map_set, ← g.m]
    exact set_self (by simpa using hq) (by simp [List.getD, hq])
  · intro x hx
    rcases List.mem_or_eq_of_mem_set hx with h1 | rfl
    · refine ⟨(g.d x h1).1.kept hk ?_, (g.d x h1).2⟩
      intro h0 a e s
      have s : a.block = g0 := s
      exact (g.d x h1).2 h0 a e ⟨by have := g.b; omega, by omega⟩
    · refine ⟨hd.has.kept hk ?_, ?_⟩
      · intro h0 a e s
        have s : a.block = g0 := s
        have := (hd.blk e).1
        omega
      · intro h0 a e s
        have := (hd.blk e).1
        have := s.2
        omega
  · exact q_set g.low (by show W.heap.size ≤ g0; have := g.b; omega) _
abbrev SA (b : Nat) (x : Hh) (w : World) : Prop := w.cell? ⟨b, 0, none⟩ = some (.slice x.s.o x.s.n x.s.c) ∧ w.cell? ⟨b, 1, none⟩ = some (.slice x.e.o x.e.n x.e.c)
theorem sa_keep {b : Nat} {x : Hh} {W w : World} (h : SA b x W) (q : Below W.heap.size W w) : SA b x w :=
  ⟨(q.cell (World.block_lt_of_cell? W _ h.1)).trans h.1, (q.cell (World.block_lt_of_cell? W _ h.2)).trans h.2⟩
abbrev SB (b : Nat) (x : Hh) (c : Nat) (u : Hd) (w : World) : Prop := w.cell? ⟨b, 1, none⟩ = some (.slice x.e.o x.e.n x.e.c) ∧ w.cell? ⟨c, 11, none⟩ = some (.slice u.o u.n u.c)
theorem sb_keep {b c : Nat} {x : Hh} {u : Hd} {W w : World} (h : SB b x c u W) (q : Below W.heap.size W w) : SB b x c u w :=
  ⟨(q.cell (World.block_lt_of_cell? W _ h.1)).trans h.1, (q.cell (World.block_lt_of_cell? W _ h.2)).trans h.2⟩
theorem sb_set {b c g j : Nat} {x : Hh} {u : Hd} {w : World} (h : SB b x c u w) (h1 : g ≠ b) (h2 : g ≠ c) (v : Value) : SB b x c u (w.setCell ⟨g, j, none⟩ v) := by
  refine ⟨?_, ?_⟩
  · rw [World.cell?_setCell_other _ _ _ _ (fun e => h1 (by injection e))]; exact h.1
  · rw [World.cell?_setCell_other _ _ _ _ (fun e => h2 (by injection e))]; exact h.2
theorem cell_at {w : World} {B q g0 : Nat} {y : Hd} {ys : List (Ev × Hd)} (h : MineX w B y ys) (hq : q < ys.length) (ho : y.o = some ⟨g0, 0, none⟩) : ∃ v, w.cell? ⟨g0, q * 12 + 11, none⟩ = some v := by
  obtain ⟨a, ea, ca⟩ := atE_of h.has.row q hq
  rw [ho] at ea
  cases ea
  rw [add_head] at ca
  exact ⟨_, ca.c11⟩
theorem own_frz {w : World} {B g0 : Nat} {y : Hd} {ys : List (Ev × Hd)} (h : MineX w B y ys) (ho : y.o = some ⟨g0, 0, none⟩) (j : Nat) : w.frozen? ⟨g0, j, none⟩ = false := by
  have := h.2
  rw [ho] at this
  exact own_frozen this
set_option maxRecDepth 100000 in
set_option maxHeartbeats 1000000 in
theorem apart_in (x : Hh) (h : Hs) (xs : List (Ev × Hd)) (w : World) (h1 : x.s.n ≤ 5000) (h2 : x.e.n ≤ 5000) (hd : ShortE h.e) (HS0 : Hid (HasS w x.s h.s)) (HX0 : Hid (HasX w x.e xs)) (HM : Hid (xs.map (·.1) = h.e)) :
    Calls Try.prog 36 #[(.agg #[.slice x.s.o x.s.n x.s.c, .slice x.e.o x.e.n x.e.c])] w fun e w' => ∃ (z : Hh) (B B1 B2 : Nat) (ys : List (Ev × Hd)), e = .returned (.agg #[.slice z.s.o z.s.n z.s.c, .slice z.e.o z.e.n z.e.c]) ∧ OwnH w' B B1 B2 z h ys ∧ w.heap.size ≤ B ∧ Below w.heap.size w w' := by
  have HD := hid hd
  clear hd
  go_enter Try.func36, Try.ntmps36
  go_upto_region 1 with fail
  have HT : Hid (Hb ((w.alloc (.cells #[.slice x.s.o x.s.n x.s.c, .slice x.e.o x.e.n x.e.c] 25)).alloc (.cells #[.slice none 0 0, .slice none 0 0] 25)) w.heap.size x ∧ Hb ((w.alloc (.cells #[.slice x.s.o x.s.n x.s.c, .slice x.e.o x.e.n x.e.c] 25)).alloc (.cells #[.slice none 0 0, .slice none 0 0] 25)) (w.heap.size + 1) nilX ∧ Below w.heap.size w ((w.alloc (.cells #[.slice x.s.o x.s.n x.s.c, .slice x.e.o x.e.n x.e.c] 25)).alloc (.cells #[.slice none 0 0, .slice none 0 0] 25))) := two_hi w x nilX
  generalize (w.alloc (.cells #[.slice x.s.o x.s.n x.s.c, .slice x.e.o x.e.n x.e.c] 25)).alloc (.cells #[.slice none 0 0, .slice none 0 0] 25) = W at HT ⊢
  have hlW : w.heap.size + 1 < W.heap.size := HT.out.2.1.lt
  have C1 : Hid (∀ X, Below W.heap.size W X → Calls Try.prog 44 #[.slice x.s.o x.s.n x.s.c] X fun e w' => ∃ z : Hd, e = .returned (.slice z.o z.n z.c) ∧ Hid (z.n = x.s.n) ∧ MineS w' X.heap.size z h.s ∧ Below X.heap.size X w') := fun X b => clone_sp x.s h.s X h1 (HS0.out.below (q_trans HT.out.2.2 b))
  have C2 : Hid (∀ X, Below W.heap.size W X → Calls Try.prog 45 #[.slice x.e.o x.e.n x.e.c] X fun e w' => ∃ z : Hd, e = .returned (.slice z.o z.n z.c) ∧ Hid (z.n = x.e.n) ∧ MineX w' X.heap.size z xs ∧ Below X.heap.size X w') := fun X b => clone_ev x.e xs X h2 (HX0.out.has.below (q_trans HT.out.2.2 b))
  have hS : SA w.heap.size x W := ⟨HT.out.1.c0, HT.out.1.c1⟩
  go_cut [3] from 6 to 12 (fun s wx => ∃ (bP : Nat) (z : Hh) (B1 : Nat), s = .pointer (some ⟨bP, 0, none⟩) ∧ Hid (Cl W wx bP z h xs B1))
  case first =>
    go_region_held3 (SA w.heap.size x) ((refine sa_keep hS ?_; repeat' (first | with_reducible exact HB8.out | with_reducible exact HB9.out | with_reducible exact (Below.refl _ W).drew | with_reducible exact Below.refl _ _ | with_reducible refine Below.drew ?_ | with_reducible refine q_alloc ?_ _ | with_reducible refine q_set ?_ (by dsimp only; omega) _)))
      (first
        | (go_at_call 44; refine (C1.out _ (by first | exact (Below.refl _ W).drew | exact q_alloc (Below.refl _ W).drew _)).mono ?_; rintro e w9 ⟨z9, rfl, _, hm9, hb9⟩; have HM9 := hid hm9; (try (have HQ9 : Hid (Hb w9 W.heap.size nilX) := Hb.mk (lay1 W _ hb9))); have HB9 : Hid (Below W.heap.size W w9) := (q_trans (by first | exact (Below.refl _ W).drew | exact q_alloc (Below.refl _ W).drew _) hb9); have hl9 : W.heap.size ≤ w9.heap.size := HB9.out.size; clear hm9 hb9)
        | (go_at_call 45; refine (C2.out _ (by first | exact HB9.out | exact q_alloc HB9.out _)).mono ?_; rintro e w8 ⟨z8, rfl, _, hm8, hb8⟩; have HM8 := hid hm8; have HL8 : Hid (Below w9.heap.size w9 w8) := (by first | exact hb8 | exact q_trans (alloc_below w9 _) hb8); (first | (have HQ8 : Hid (Hb w8 W.heap.size nilX) := hid (HQ9.out.below HL8.out); have k0 : w8.cell? ⟨_, 0, none⟩ = some (.slice none 0 0) := HQ8.out.c0; have k1 : w8.cell? ⟨_, 1, none⟩ = some (.slice none 0 0) := HQ8.out.c1; have f0 := HQ8.out.fz 0; have f1 := HQ8.out.fz 1; have hl8 := HQ8.out.lt) | (have HQ8 : Hid (Hb w8 w9.heap.size nilX) := Hb.mk (lay9 w9 _ hb8); have k0 : w8.cell? ⟨_, 0, none⟩ = some (.slice none 0 0) := HQ8.out.c0; have k1 : w8.cell? ⟨_, 1, none⟩ = some (.slice none 0 0) := HQ8.out.c1; have f0 := HQ8.out.fz 0; have f1 := HQ8.out.fz 1; have hl8 := HQ8.out.lt) | skip); have HB8 : Hid (Below W.heap.size W w8) := (q_trans (by first | exact HB9.out | exact q_alloc HB9.out _) hb8); clear hm8 hb8)
        | fail)
    all_goals (try go_wp2_with fail)
    all_goals go_meet
    all_goals
      first
        | with_reducible exact ⟨_, ⟨z9, z8⟩, _, rfl, hid (cl_b HM9.out (by first | exact Nat.le_refl _ | simp) HM8.out (by first | exact Nat.le_refl _ | simp) HL8.out HB9.out)⟩
        | with_reducible exact ⟨_, ⟨z9, z8⟩, _, rfl, hid ((cl_b HM9.out (by first | exact Nat.le_refl _ | simp) HM8.out (by first | exact Nat.le_refl _ | simp) HL8.out HB9.out).below (Below.refl _ _).drew)⟩
        | with_reducible exact ⟨_, ⟨z9, z8⟩, _, rfl, hid ((cl_a HM9.out (by first | exact Nat.le_refl _ | simp) HM8.out (by first | exact Nat.le_refl _ | simp) HL8.out HB9.out HQ8.out (by first | exact Nat.le_refl _ | omega)).below (Below.refl _ _).drew)⟩
        | with_reducible exact ⟨_, ⟨z9, z8⟩, _, rfl, hid (cl_a HM9.out (by first | exact Nat.le_refl _ | simp) HM8.out (by first | exact Nat.le_refl _ | simp) HL8.out HB9.out HQ8.out (by first | exact Nat.le_refl _ | omega))⟩
        | fail
  case rest =>
    obtain ⟨bP, ⟨sp, ⟨eo, en, ec⟩⟩, B1, rfl, HC⟩ := hcut
    obtain ⟨W1, hW1⟩ : ∃ W1, W1 = wc := ⟨_, rfl⟩
    subst hW1
    clear C1 C2 hS
    have HB0 := hid (q_trans HT.out.2.2 HC.out.low)
    have HL0 : Hid (Lp w.heap.size W W1 bP ⟨sp, ⟨eo, en, ec⟩⟩ h W1.heap.size xs B1) := lp_start HT.out.2.1 HC.out HX0.out HM.out HB0.out (by omega) HC.out.b2
    have HN : Hid (en = xs.length) := HC.out.n
    have c0 : W1.cell? ⟨bP, 0, none⟩ = some (.slice sp.o sp.n sp.c) := HC.out.box.c0
    have c1 : W1.cell? ⟨bP, 1, none⟩ = some (.slice eo en ec) := HC.out.box.c1
    have hzn : en ≤ 5000 := by have := HX0.out.has.len; have h9 := HN.out; omega
    have HBW := hid HT.out.2.2
    clear HC HT
    go_wp2_with fail
    go_loopw [16] (fun i wr => ∃ (q : Nat) (ys : List (Ev × Hd)), q ≤ en ∧ i = .int .i64 q ∧ Hid (ys.length = en) ∧ Hid (Lp w.heap.size W wr bP ⟨sp, ⟨eo, en, ec⟩⟩ h W1.heap.size ys B1)) (fun i _ => en - (intOf i).toNat)
    case atStart => exact ⟨0, xs, Nat.zero_le _, rfl, HN.out.symm, HL0⟩
    case round =>
      obtain ⟨q, ys, hq, rfl, HY, HL⟩ := hrel
      clear HL0 HN c0 c1
      by_cases hlt : q < en
      · have i1 : (0 : Int) ≤ (q : Int) := by omega
        have i2 : (q : Int) < (en : Int) := by omega
        have hqy : q < ys.length := by have := HY.out; omega
        have HQ := hid hqy
        obtain ⟨g0, hg0, _⟩ := own_head HL.out.x.2 (by show 0 < en; omega)
        obtain rfl : eo = some ⟨g0, 0, none⟩ := hg0
        have HG0 : Hid ((some ⟨g0, 0, none⟩ : Option Addr) = some ⟨g0, 0, none⟩) := rfl
        obtain ⟨a, ea, ca⟩ := atE_of HL.out.x.has.row q hqy
        cases ea
        rw [add_head] at ca
        have HDn := HL.out.d (ys.getD q (e0, nilH)) (getD_mem hqy)
        have HDn1 := hid HDn.1
        have hun : (ys.getD q (e0, nilH)).2.n ≤ 5000 := by
          rw [HDn.1.len]
          refine HD.out _ ?_
          rw [← HL.out.m]
          exact List.mem_map_of_mem (getD_mem hqy)
        clear HDn
        have hM : ∀ (V : World) (B9 : Nat) (u : Hd), Lp w.heap.size W V bP ⟨sp, ⟨some ⟨g0, 0, none⟩, en, ec⟩⟩ h W1.heap.size ys B1 → MineD V B9 u (ys.getD q (e0, nilH)).1.l → W1.heap.size ≤ B9 → Lp w.heap.size W (V.setCell ⟨g0, q * 12 + 11, none⟩ (.slice u.o u.n u.c)) bP ⟨sp, ⟨some ⟨g0, 0, none⟩, en, ec⟩⟩ h W1.heap.size (ys.set q ((ys.getD q (e0, nilH)).1, u)) B1 := fun V B9 u k1 k2 k3 => k1.store hqy rfl k2 k3
        have HMs := hid hM
        clear hM
        generalize ys.getD q (e0, nilH) = p at ca HDn1 hun HMs
        obtain ⟨e, u⟩ := p
        obtain ⟨c0, c1, c2, c3, c4, c5, c6, c7, c8, c9, c10, c11⟩ := ca
        dsimp only at c0 c1 c2 c3 c4 c5 c6 c7 c8 c9 c10 c11
        have hlg : g0 < wr.heap.size := (HL.out.x.blk rfl).2
        have hAd := add_head g0 (q * 12)
        have hb0 := HL.out.box.lt
        go_upto_region 5 with fail
        have HBX : Hid (Eb (wr.alloc (.cells #[.int .i64 e.k, .int .i64 e.co, .int .i64 e.c.k, .int .u64 e.c.a, .int .u64 e.c.b, .int .i64 e.c.r, .int .i64 e.c.g, .int .i64 e.c.t, .int .i64 e.c.s, .int .i64 e.c.v, .int .i64 e.sp, .slice u.o u.n u.c] 34)) wr.heap.size (e, u)) := eb_new wr (e, u)
        have HBl := hid (alloc_below wr (.cells #[.int .i64 e.k, .int .i64 e.co, .int .i64 e.c.k, .int .u64 e.c.a, .int .u64 e.c.b, .int .i64 e.c.r, .int .i64 e.c.g, .int .i64 e.c.t, .int .i64 e.c.s, .int .i64 e.c.v, .int .i64 e.sp, .slice u.o u.n u.c] 34))
        generalize wr.alloc (.cells #[.int .i64 e.k, .int .i64 e.co, .int .i64 e.c.k, .int .u64 e.c.a, .int .u64 e.c.b, .int .i64 e.c.r, .int .i64 e.c.g, .int .i64 e.c.t, .int .i64 e.c.s, .int .i64 e.c.v, .int .i64 e.sp, .slice u.o u.n u.c] 34) = W2 at HBX HBl ⊢
        clear c0 c1 c2 c3 c4 c5 c6 c7 c8 c9 c10 c11
        have k1 : W2.cell? ⟨bP, 1, none⟩ = some (.slice (some ⟨g0, 0, none⟩) en ec) := (HL.out.box.below HBl.out).c1
        have k11 := HBX.out.at.c11
        dsimp only at k11
        have hS : SB bP ⟨sp, ⟨some ⟨g0, 0, none⟩, en, ec⟩⟩ wr.heap.size u W2 := ⟨k1, k11⟩
        have C1 : Hid (∀ X, Below W2.heap.size W2 X → Calls Try.prog 40 #[.slice u.o u.n u.c] X fun e9 w' => ∃ z : Hd, e9 = .returned (.slice z.o z.n z.c) ∧ Hid (z.n = u.n) ∧ MineD w' X.heap.size z e.l ∧ Below X.heap.size X w') := fun X b => clone_dn u e.l X hun (HDn1.out.below (q_trans HBl.out b))
        have hlW := HBl.out.size
        have hne : g0 ≠ bP := fun e => own_ty HL.out.x.2 HL.out.box.h (by decide) g0 rfl e
        have hne2 : g0 ≠ wr.heap.size := by omega
        go_region_held3 (SB bP ⟨sp, ⟨some ⟨g0, 0, none⟩, en, ec⟩⟩ wr.heap.size u) (first | with_reducible exact sb_set (sb_keep hS HB9.out) hne hne2 _ | (refine sb_keep hS ?_; repeat' (first | with_reducible exact HB9.out | with_reducible exact (Below.refl _ W2).drew | with_reducible exact Below.refl _ _ | with_reducible refine Below.drew ?_)))
          (first
            | (go_at_call 40; refine (C1.out _ (by first | exact (Below.refl _ W2).drew)).mono ?_; rintro e9 w9 ⟨z9, rfl, _, hm9, hb9⟩; have HM9 := hid hm9; have HB9 : Hid (Below W2.heap.size W2 w9) := (q_trans (by first | exact (Below.refl _ W2).drew) hb9); have HL9 := hid ((HL.out.below HBl.out).below HB9.out); have hg9 : g0 < w9.heap.size := Nat.lt_of_lt_of_le (Nat.lt_of_lt_of_le hlg hlW) HB9.out.size; obtain ⟨v0, t0⟩ := cell_at HL9.out.x HQ.out HG0.out; have t1 := own_frz HL9.out.x HG0.out (q * 12 + 11); clear hm9 hb9)
            | fail)
        all_goals
          have HL10 := hid (HMs.out w9 _ z9 HL9.out HM9.out (Nat.le_trans HL.out.b3 hlW))
          go_wp2_with fail
          go_roundw
          case rel => exact ⟨q + 1, ys.set q (e, z9), by omega, by go_num, (List.length_set).trans HY.out, (by first | with_reducible exact HL10 | with_reducible exact hid (HL10.out.below (Below.refl _ _).drew))⟩
          case measure => simp [intOf]; omega
      · obtain rfl : en = q := by omega
        have c0 : wr.cell? ⟨bP, 0, none⟩ = some (.slice sp.o sp.n sp.c) := HL.out.box.c0
        have c1 : wr.cell? ⟨bP, 1, none⟩ = some (.slice eo en ec) := HL.out.box.c1
        have r0 : wr.cell? ⟨w.heap.size + 1, 0, none⟩ = some (.slice none 0 0) := HL.out.r.c0
        have r1 : wr.cell? ⟨w.heap.size + 1, 1, none⟩ = some (.slice none 0 0) := HL.out.r.c1
        have f0 := HL.out.r.fz 0
        have f1 := HL.out.r.fz 1
        go_wp2_with fail
        refine bodyPost_ret (v := .agg #[.slice sp.o sp.n sp.c, .slice eo en ec]) (by simp [results, Try.results36, go_sem, *]) rfl ⟨⟨sp, ⟨eo, en, ec⟩⟩, W.heap.size, B1, W1.heap.size, ys, rfl, ?_, ?_, ?_⟩
        · exact (OwnH.mk HL.out.m HL.out.b HL.out.b2 HL.out.b3 HL.out.s HL.out.sl HL.out.x HL.out.xl HL.out.d).put (y' := ⟨sp, ⟨eo, en, ec⟩⟩) HL.out.r
        · omega
        · exact put2_low (b := w.heap.size + 1) (x := ⟨sp, ⟨eo, en, ec⟩⟩) (q_trans HBW.out HL.out.low) (Nat.le_succ _)
/-- apart: THE SAME HISTORY, IN MEMORY OF ITS OWN. -/
theorem apart_any (x : Hh) (h : Hs) (w : World) (h1 : x.s.n ≤ 5000) (h2 : x.e.n ≤ 5000) (hd : ShortE h.e) (HH : HasH w x h) :
    Calls Try.prog 36 #[(.agg #[.slice x.s.o x.s.n x.s.c, .slice x.e.o x.e.n x.e.c])] w fun e w' => ∃ (z : Hh) (B B1 B2 : Nat) (ys : List (Ev × Hd)), e = .returned (.agg #[.slice z.s.o z.s.n z.s.c, .slice z.e.o z.e.n z.e.c]) ∧ OwnH w' B B1 B2 z h ys ∧ w.heap.size ≤ B ∧ Below w.heap.size w w' := by
  obtain ⟨xs, e, hx⟩ := HH.e
  exact apart_in x h xs w h1 h2 hd HH.s hx e
end Go.Proofs.Ytmnkbkhfonngeaa.Hi
