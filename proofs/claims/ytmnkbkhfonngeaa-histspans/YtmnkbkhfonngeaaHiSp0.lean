/- What HistSpans leans on, without its own walk. -/
import Derived.Test.YtmnkbkhfonngeaaHiG1
namespace Go.Proofs.Ytmnkbkhfonngeaa.Hi
open Go.RowKit

theorem two_cr (w : World) (x : C) (y : Rp) : Cb ((w.alloc (.cells #[.int .i64 x.k, .int .u64 x.a, .int .u64 x.b, .int .i64 x.r, .int .i64 x.g, .int .i64 x.t, .int .i64 x.s, .int .i64 x.v] 28)).alloc (.cells #[.int .i64 y.e, .int .i64 y.v, .int .i64 y.b, .bool y.t] 31)) w.heap.size x ∧ Rb ((w.alloc (.cells #[.int .i64 x.k, .int .u64 x.a, .int .u64 x.b, .int .i64 x.r, .int .i64 x.g, .int .i64 x.t, .int .i64 x.s, .int .i64 x.v] 28)).alloc (.cells #[.int .i64 y.e, .int .i64 y.v, .int .i64 y.b, .bool y.t] 31)) (w.heap.size + 1) y ∧ Below w.heap.size w ((w.alloc (.cells #[.int .i64 x.k, .int .u64 x.a, .int .u64 x.b, .int .i64 x.r, .int .i64 x.g, .int .i64 x.t, .int .i64 x.s, .int .i64 x.v] 28)).alloc (.cells #[.int .i64 y.e, .int .i64 y.v, .int .i64 y.b, .bool y.t] 31)) := by
  refine ⟨(cb_new w x).below (alloc_below _ _), ?_, q_alloc (alloc_below _ _) _⟩
  have h := rb_new (w.alloc (.cells #[.int .i64 x.k, .int .u64 x.a, .int .u64 x.b, .int .i64 x.r, .int .i64 x.g, .int .i64 x.t, .int .i64 x.s, .int .i64 x.v] 28)) y
  rwa [show (w.alloc (.cells #[.int .i64 x.k, .int .u64 x.a, .int .u64 x.b, .int .i64 x.r, .int .i64 x.g, .int .i64 x.t, .int .i64 x.s, .int .i64 x.v] 28)).heap.size = w.heap.size + 1 by simp] at h
/-- A CALL THAT IS RECORDED IS THE LAST SPAN, OPEN; ITS ANSWER CLOSES JUST IT. -/
theorem spans_math {h : Hs} {c t d : Int} {cl : C} {r : Rp} (e : invE h c t = 0) (hd : 0 ≤ d) : 1 ≤ t ∧ ansE (invH h c cl t) c (t + d) = 0 ∧ ansH (invH h c cl t) c r (t + d) = ⟨h.s ++ [⟨c, cl, t, t + d, r⟩], h.e⟩ := by
  have h1 := inv_arg e
  have ho := okH_iff.1 (inv_okH e)
  have hl := lo_one ho.1 h.s.length (Nat.le_refl _)
  have hk := inv_ok (x := cl) e
  have hlast : lastO (h.s ++ [(⟨c, cl, t, 0, r0⟩ : Sp)]) c = some h.s.length := by
    unfold lastO
    refine lst_of (by simp) (by rw [S_app2]) fun j g1 g2 => ?_
    simp at g2; omega
  have hp : pnO (h.s ++ [(⟨c, cl, t, 0, r0⟩ : Sp)]) c = some h.s.length := by
    unfold pnO
    rw [hlast]
    simp only []
    rw [S_app2]
    rfl
  have ha : ansE (invH h c cl t) c (t + d) = 0 := by
    rw [invH_of e, ansE, if_neg (by rw [hk]; decide)]
    simp only []
    rw [hp]
    simp only []
    rw [S_app2, if_neg (by show ¬ (t + d < t); omega)]
  refine ⟨Int.le_trans hl h1.2, ha, ?_⟩
  have hq : pnO (invH h c cl t).s c = some h.s.length := by rw [invH_of e]; exact hp
  rw [ansH_of ha hq, invH_of e]
  simp only []
  rw [S_app2]
  congr 1
  simp [clS]
/-- What is read of two histories' boxes, of a call's and a reply's, and two spans. -/
abbrev S5 (b c f g : Nat) (x y : Hh) (a1 a2 : Addr) (cl : C) (r : Rp) (p q : Sp) (w : World) : Prop :=
  w.cell? ⟨b, 0, none⟩ = some (.slice x.s.o x.s.n x.s.c) ∧ w.cell? ⟨c, 0, none⟩ = some (.slice y.s.o y.s.n y.s.c) ∧ (LS (.pointer (some a1))).run Try.prog w = .ok (.agg #[.int .i64 p.co, .int .i64 p.c.k, .int .u64 p.c.a, .int .u64 p.c.b, .int .i64 p.c.r, .int .i64 p.c.g, .int .i64 p.c.t, .int .i64 p.c.s, .int .i64 p.c.v, .int .i64 p.st, .int .i64 p.en, .int .i64 p.r.e, .int .i64 p.r.v, .int .i64 p.r.b, .bool p.r.t]) w ∧ (LS (.pointer (some a2))).run Try.prog w = .ok (.agg #[.int .i64 q.co, .int .i64 q.c.k, .int .u64 q.c.a, .int .u64 q.c.b, .int .i64 q.c.r, .int .i64 q.c.g, .int .i64 q.c.t, .int .i64 q.c.s, .int .i64 q.c.v, .int .i64 q.st, .int .i64 q.en, .int .i64 q.r.e, .int .i64 q.r.v, .int .i64 q.r.b, .bool q.r.t]) w ∧
  w.cell? ⟨f, 0, none⟩ = some (.int .i64 cl.k) ∧ w.cell? ⟨f, 1, none⟩ = some (.int .u64 cl.a) ∧ w.cell? ⟨f, 2, none⟩ = some (.int .u64 cl.b) ∧ w.cell? ⟨f, 3, none⟩ = some (.int .i64 cl.r) ∧ w.cell? ⟨f, 4, none⟩ = some (.int .i64 cl.g) ∧ w.cell? ⟨f, 5, none⟩ = some (.int .i64 cl.t) ∧ w.cell? ⟨f, 6, none⟩ = some (.int .i64 cl.s) ∧ w.cell? ⟨f, 7, none⟩ = some (.int .i64 cl.v) ∧
  w.cell? ⟨g, 0, none⟩ = some (.int .i64 r.e) ∧ w.cell? ⟨g, 1, none⟩ = some (.int .i64 r.v) ∧ w.cell? ⟨g, 2, none⟩ = some (.int .i64 r.b) ∧ w.cell? ⟨g, 3, none⟩ = some (.bool r.t) ∧
  Hid (∀ j v, (spC p)[j]? = some v → w.cell? (a1.add j) = some v) ∧ Hid (∀ j v, (spC q)[j]? = some v → w.cell? (a2.add j) = some v) ∧ Hid (Hb w b x ∧ Hb w c y ∧ Cb w f cl ∧ Rb w g r)
theorem cs_keep {a : Addr} {p : Sp} {W w : World} (h : Hid (∀ j v, (spC p)[j]? = some v → W.cell? (a.add j) = some v)) (k : Below W.heap.size W w) : Hid (∀ j v, (spC p)[j]? = some v → w.cell? (a.add j) = some v) :=
  fun j v hv => (k.cell (World.block_lt_of_cell? W _ (h.out j v hv))).trans (h.out j v hv)
theorem s5_mk {b c f g : Nat} {x y : Hh} {a1 a2 : Addr} {cl : C} {r : Rp} {p q : Sp} {w : World} (g1 : Hid (∀ j v, (spC p)[j]? = some v → w.cell? (a1.add j) = some v)) (g2 : Hid (∀ j v, (spC q)[j]? = some v → w.cell? (a2.add j) = some v)) (hb : Hb w b x) (hc : Hb w c y) (hf : Cb w f cl) (hg : Rb w g r) : S5 b c f g x y a1 a2 cl r p q w :=
  ⟨hb.c0, hc.c0, ls_run g1.out, ls_run g2.out, hf.at.c0, hf.at.c1, hf.at.c2, hf.at.c3, hf.at.c4, hf.at.c5, hf.at.c6, hf.at.c7, hg.at.c0, hg.at.c1, hg.at.c2, hg.at.c3, g1, g2, hid ⟨hb, hc, hf, hg⟩⟩
theorem s5_keep {b c f g : Nat} {x y : Hh} {a1 a2 : Addr} {cl : C} {r : Rp} {p q : Sp} {W w : World} (h : S5 b c f g x y a1 a2 cl r p q W) (k : Below W.heap.size W w) : S5 b c f g x y a1 a2 cl r p q w := by
  obtain ⟨_, _, _, _, _, _, _, _, _, _, _, _, _, _, _, _, g1, g2, g3⟩ := h
  exact s5_mk (cs_keep g1 k) (cs_keep g2 k) (g3.out.1.below k) (g3.out.2.1.below k) (g3.out.2.2.1.below k) (g3.out.2.2.2.below k)
theorem cs_of {w : World} {a : Addr} {l : List Sp} (h : Row w (some a) (l.flatMap spC)) (k : Nat) (hk : k < l.length) : Hid (∀ j v, (spC (l.getD k s0))[j]? = some v → w.cell? ((a.add (k * 15)).add j) = some v) := by
  intro j v hv
  have hj : j < 15 := by have := (List.getElem?_eq_some_iff.1 hv).1; simpa [spC] using this
  obtain ⟨a', e', hc⟩ := h.cell (k * 15 + j) v ((fm_at spC 15 spC_len l s0 k j hj hk).trans hv)
  cases e'
  rw [add_add]
  exact hc
theorem s5_of {w : World} {b c f g n : Nat} {x y : Hh} {cl : C} {r : Rp} {l : List Sp} {p q : Sp} (hb : Hb w b x) (hc : Hb w c y) (hf : Cb w f cl) (hg : Rb w g r) (h1 : HasS w x.s (l ++ [p])) (h2 : HasS w y.s (l ++ [q])) (hn : l.length = n) :
    ∃ A, x.s.o = some A ∧ ∃ B, y.s.o = some B ∧ S5 b c f g x y (A.add (n * 15)) (B.add (n * 15)) cl r p q w := by
  subst hn
  have r1 := h1.row
  have r2 := h2.row
  obtain ⟨A, eA, _⟩ := atS_of r1 l.length (by simp)
  obtain ⟨B, eB, _⟩ := atS_of r2 l.length (by simp)
  rw [eA] at r1
  rw [eB] at r2
  have g1 := cs_of r1 l.length (by simp)
  have g2 := cs_of r2 l.length (by simp)
  have e1 : (l ++ [p]).getD l.length s0 = p := S_app2
  have e2 : (l ++ [q]).getD l.length s0 = q := S_app2
  rw [e1] at g1
  rw [e2] at g2
  exact ⟨A, eA, B, eB, s5_mk g1 g2 hb hc hf hg⟩
/-- What is read of two histories' boxes, and a span of each: the same. -/
abbrev S2s (b c : Nat) (x y : Hh) (a1 a2 : Addr) (p : Sp) (w : World) : Prop := w.cell? ⟨b, 0, none⟩ = some (.slice x.s.o x.s.n x.s.c) ∧ w.cell? ⟨c, 0, none⟩ = some (.slice y.s.o y.s.n y.s.c) ∧ (LS (.pointer (some a1))).run Try.prog w = .ok (.agg #[.int .i64 p.co, .int .i64 p.c.k, .int .u64 p.c.a, .int .u64 p.c.b, .int .i64 p.c.r, .int .i64 p.c.g, .int .i64 p.c.t, .int .i64 p.c.s, .int .i64 p.c.v, .int .i64 p.st, .int .i64 p.en, .int .i64 p.r.e, .int .i64 p.r.v, .int .i64 p.r.b, .bool p.r.t]) w ∧ (LS (.pointer (some a2))).run Try.prog w = .ok (.agg #[.int .i64 p.co, .int .i64 p.c.k, .int .u64 p.c.a, .int .u64 p.c.b, .int .i64 p.c.r, .int .i64 p.c.g, .int .i64 p.c.t, .int .i64 p.c.s, .int .i64 p.c.v, .int .i64 p.st, .int .i64 p.en, .int .i64 p.r.e, .int .i64 p.r.v, .int .i64 p.r.b, .bool p.r.t]) w ∧ Hid (∀ j v, (spC p)[j]? = some v → w.cell? (a1.add j) = some v) ∧ Hid (∀ j v, (spC p)[j]? = some v → w.cell? (a2.add j) = some v)
theorem s2_keep {b c : Nat} {x y : Hh} {a1 a2 : Addr} {p : Sp} {W w : World} (h : S2s b c x y a1 a2 p W) (k : Below W.heap.size W w) : S2s b c x y a1 a2 p w := by
  obtain ⟨h0, h1, _, _, g1, g2⟩ := h
  exact ⟨(k.cell (World.block_lt_of_cell? W _ h0)).trans h0, (k.cell (World.block_lt_of_cell? W _ h1)).trans h1, ls_run (cs_keep g1 k).out, ls_run (cs_keep g2 k).out, cs_keep g1 k, cs_keep g2 k⟩
theorem s2_of {w : World} {b c : Nat} {x y : Hh} {A B : Addr} {l : List Sp} {q : Sp} (hb : Hb w b x) (hc : Hb w c y) (r1 : Row w (some A) ((l ++ [q]).flatMap spC)) (r2 : Row w (some B) (l.flatMap spC)) {k : Nat} (hk : k < l.length) :
    S2s b c x y (A.add (k * 15)) (B.add (k * 15)) (l.getD k s0) w := by
  have g1 := cs_of r1 k (by simp; omega)
  have g2 := cs_of r2 k hk
  have e1 : (l ++ [q]).getD k s0 = l.getD k s0 := S_app1 hk
  rw [e1] at g1
  exact ⟨hb.c0, hc.c0, ls_run g1.out, ls_run g2.out, g1, g2⟩
end Go.Proofs.Ytmnkbkhfonngeaa.Hi
