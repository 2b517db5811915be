/- What the program's apart does. -/
import Derived.Test.YtejghoncihdfkaaEpW3
namespace Go.Proofs.Ytejghoncihdfkaa.Ep
open Go.RowKit

theorem block_of {ao : Option Addr} {n c k : Nat} (h : (Value.slice ao n c).ownBlock = some k) : ∃ a, ao = some a ∧ a.block = k := by
  cases ao with
  | none => cases h
  | some a => cases h; exact ⟨a, rfl, rfl⟩
/-- EPOCHS OF ONE's OWN: their lists lie in blocks from B on, each in one of its own. -/
structure OwnE (w : World) (B : Nat) (y : WE) (e : E) (hs : List Hd) : Prop where
  p : w.ownsRow B 2 1 (.slice y.p.o y.p.n y.p.c) y.p.n (vals e.pins)
  l : w.ownsRow B 49 1 (.slice y.l.o y.l.n y.l.c) y.l.n (hds hs)
  hl : hs.length = e.lim.length
  each : ∀ i, i < e.lim.length → w.ownsRow B 51 2 (.slice (hs.getD i Hd.zero).o (hs.getD i Hd.zero).n (hs.getD i Hd.zero).c) (hs.getD i Hd.zero).n (wts (e.lim.getD i []))
  sep : ∀ i j, i < j → j < e.lim.length → ∀ k, (hs.getD i Hd.zero).v.ownBlock = some k → (hs.getD j Hd.zero).v.ownBlock ≠ some k
section
variable {w w' : World} {B : Nat} {y : WE} {e : E} {hs : List Hd}
theorem own_wts {B n cap : Nat} {ao : Option Addr} {l : List W} (h : w.ownsRow B 51 2 (.slice ao n cap) n (wts l)) : HasW w ao n cap l := by
  obtain ⟨r1, r2, r3, r4⟩ := own_row h
  exact ⟨by have := h.1; rw [len_wts] at this; omega, r3, r2, r1⟩
theorem OwnE.pn (h : OwnE w B y e hs) : y.p.n = e.pins.length := by have := h.p.1; rw [len_vals] at this; omega
theorem OwnE.ln (h : OwnE w B y e hs) : y.l.n = e.lim.length := by have := h.l.1; rw [len_hds, h.hl] at this; omega
theorem OwnE.has {Av : Nat → Prop} (h : OwnE w B y e hs) (hA : ∀ i, Av i → i < B) : HasE w Av y e := by
  obtain ⟨r1, r2, r3, r4⟩ := own_row h.l
  exact ⟨(own_mine h.p).has, own_off h.p hA, hs, ⟨h.ln, h.hl, r3, r2, r1, own_off h.l hA, fun i hi => own_wts (h.each i hi), fun i hi => own_off (h.each i hi) hA⟩⟩
theorem OwnE.kept {S : Nat → Prop} (h : OwnE w B y e hs) (k : Kept S w w') (hS : ∀ i, S i → i < B) : OwnE w' B y e hs :=
  ⟨own_kept h.p k (fun i e s => by have := (h.p.lt i e).1; have := hS i s; omega), own_kept h.l k (fun i e s => by have := (h.l.lt i e).1; have := hS i s; omega), h.hl, fun i hi => own_kept (h.each i hi) k (fun j e s => by have := ((h.each i hi).lt j e).1; have := hS j s; omega), h.sep⟩
/-- A block that is behind all of them, or was not there, is none of theirs. -/
theorem OwnE.keptN (h : OwnE w B y e hs) {S : Nat → Prop} {w1 : World} (h0 : OwnE w1 B y e hs) (k : Kept S w w') (hS : ∀ i, S i → w1.heap.size ≤ i) : OwnE w' B y e hs :=
  ⟨own_kept h.p k (fun i e s => by have := (h0.p.lt i e).2; have := hS i s; omega), own_kept h.l k (fun i e s => by have := (h0.l.lt i e).2; have := hS i s; omega), h.hl, fun i hi => own_kept (h.each i hi) k (fun j e s => by have := ((h0.each i hi).lt j e).2; have := hS j s; omega), h.sep⟩
theorem OwnE.below (h : OwnE w B y e hs) (b : Below w.heap.size w w') : OwnE w' B y e hs := h.kept (S := fun _ => False) (kept_below b) (fun _ s => s.elim)
theorem OwnE.base {B' : Nat} (h : OwnE w B y e hs) (hb : B' ≤ B) : OwnE w B' y e hs :=
  ⟨own_base h.p (fun k e => Nat.le_trans hb (h.p.lt k e).1), own_base h.l (fun k e => Nat.le_trans hb (h.l.lt k e).1), h.hl, fun i hi => own_base (h.each i hi) (fun k e => Nat.le_trans hb ((h.each i hi).lt k e).1), h.sep⟩
end
/-- The copy under way: in the box bx; the lists ahead of k are its own, the others those that were handed in. -/
structure Ap (w wx : World) (bx : Nat) (n : Int) (y : WE) (e : E) (h0 hs : List Hd) (k : Nat) : Prop where
  low : Below w.heap.size w wx
  res : InE wx (w.heap.size + 1) 0 WE.zero
  box : InE wx bx n y
  new : w.heap.size + 2 ≤ bx
  p : wx.ownsRow (w.heap.size + 2) 2 1 (.slice y.p.o y.p.n y.p.c) y.p.n (vals e.pins)
  l : wx.ownsRow (w.heap.size + 2) 49 1 (.slice y.l.o y.l.n y.l.c) y.l.n (hds hs)
  lb : ∀ b, (Value.slice y.l.o y.l.n y.l.c).ownBlock = some b → b ≠ bx
  hl : hs.length = e.lim.length
  each : ∀ i, i < k → i < e.lim.length → wx.ownsRow (w.heap.size + 2) 51 2 (.slice (hs.getD i Hd.zero).o (hs.getD i Hd.zero).n (hs.getD i Hd.zero).c) (hs.getD i Hd.zero).n (wts (e.lim.getD i []))
  old : ∀ i, k ≤ i → hs.getD i Hd.zero = h0.getD i Hd.zero
  sep : ∀ i j, i < j → j < k → j < e.lim.length → ∀ q, (hs.getD i Hd.zero).v.ownBlock = some q → (hs.getD j Hd.zero).v.ownBlock ≠ some q
theorem ap_mk {w W w3 wx : World} {n : Int} {y : WE} {yp yl : Hd} {e : E} {h0 : List Hd} {bx : Nat} (hB : B2 w W n 0 y WE.zero) (b3 : Below W.heap.size W w3) (hp : w3.ownsRow (w.heap.size + 2) 2 1 (.slice yp.o yp.n yp.c) yp.n (vals e.pins)) (hl : w3.ownsRow (w.heap.size + 2) 49 1 (.slice yl.o yl.n yl.c) yl.n (hds h0)) (hh : h0.length = e.lim.length)
    (hpb : ∀ b, (Value.slice yp.o yp.n yp.c).ownBlock = some b → b ≠ bx) (hlb : ∀ b, (Value.slice yl.o yl.n yl.c).ownBlock = some b → b ≠ bx) (hbx : w.heap.size + 2 ≤ bx) (hk : Kept (fun i => i = bx) w3 wx) (hi : InE wx bx n ⟨yp, yl⟩) : Ap w wx bx n ⟨yp, yl⟩ e h0 h0 0 :=
  ⟨(q_trans hB.low b3).trans (hk.below w.heap.size (q_trans hB.low b3).size (fun i e => by omega)), (hB.b.below b3).kept hk (by omega), hi, hbx, own_kept hp hk (fun i e s => hpb i e s), own_kept hl hk (fun i e s => hlb i e s), hlb, hh, fun i hi => absurd hi (by omega), fun i _ => rfl, fun i j _ hj => absurd hj (by omega)⟩
theorem tne1 : (49 : TypeId) ≠ 51 := by decide
theorem tne0 : (2 : TypeId) ≠ 49 := by decide
/-- Rows of unlike elements lie in unlike blocks. -/
theorem own_apart {w : World} {B B' n n' s s' : Nat} {t t' : TypeId} {v v' : Value} {cs cs' : List Value} (h : w.ownsRow B t s v n cs) (h' : w.ownsRow B' t' s' v' n' cs') (ht : t ≠ t') {k : Nat} (e : v.ownBlock = some k) (e' : v'.ownBlock = some k) : False := by
  rcases h.2 with ⟨e1, _⟩ | ⟨g, cap, cur, e1, _, hg, _⟩
  · rw [e1] at e; cases e
  · rcases h'.2 with ⟨e2, _⟩ | ⟨g', cap', cur', e2, _, hg', _⟩
    · rw [e2] at e'; cases e'
    · rw [e1] at e
      rw [e2] at e'
      cases e
      cases e'
      rw [hg] at hg'
      injection hg' with hg'
      injection hg' with _ h2 _
      exact ht h2
/-- Behind a store of another list's head. -/
theorem ap_put {w wr w2 : World} {bx g k : Nat} {n : Int} {y : WE} {e : E} {h0 hs : List Hd} {v : Hd} (h : Ap w wr bx n y e h0 hs k) (b : Below wr.heap.size wr w2) (hg : y.l.o = some ⟨g, 0, none⟩) (hk : k < e.lim.length) (hv : w2.ownsRow wr.heap.size 51 2 (.slice v.o v.n v.c) v.n (wts (e.lim.getD k []))) :
    Ap w (w2.setCell ⟨g, k, none⟩ (.slice v.o v.n v.c)) bx n y e h0 (hs.set k v) (k + 1) := by
  have hb : (Value.slice y.l.o y.l.n y.l.c).ownBlock = some g := by rw [hg]; rfl
  have hgB := (h.l.lt g hb).1
  have q : Kept (fun i => i = g) w2 (w2.setCell ⟨g, k, none⟩ (.slice v.o v.n v.c)) := kept_set _ w2 _ _ rfl
  have lo := q_trans h.low b
  have hnew := h.new
  have hbx : w.heap.size + 2 ≤ wr.heap.size := Nat.le_trans hnew (Nat.le_of_lt h.box.lt)
  have hl2 := own_below h.l b
  have hkl : k < hs.length := by rw [h.hl]; exact hk
  have eg : ∀ i, i ≠ k → (hs.set k v).getD i Hd.zero = hs.getD i Hd.zero := fun i hi => by
    have : k ≠ i := fun e => hi e.symm
    simp [List.getD, this]
  have ek : (hs.set k v).getD k Hd.zero = v := by simp [List.getD, hkl]
  have hv2 : (w2.setCell ⟨g, k, none⟩ (.slice v.o v.n v.c)).ownsRow wr.heap.size 51 2 (.slice v.o v.n v.c) v.n (wts (e.lim.getD k [])) := own_kept hv q (fun i ei s => by subst s; exact own_apart hl2 hv tne1 hb ei)
  refine ⟨lo.trans (q.below w.heap.size lo.size (fun i e => by omega)), (h.res.below b).kept q (by omega), (h.box.below b).kept q (fun e => h.lb g hb e.symm), hnew, own_kept (own_below h.p b) q (fun i ei s => by subst s; exact own_apart (own_below h.p b) hl2 tne0 ei hb), ?_, h.lb, by rw [List.length_set]; exact h.hl, fun i hi hi2 => ?_, fun i hi => ?_, fun i j hij hj hj2 r er => ?_⟩
  · rw [← hds_set]
    obtain ⟨⟨yo, yn, yc⟩, ⟨lo', ln, lc⟩⟩ := y
    have e0 : lo' = some ⟨g, 0, none⟩ := hg
    subst e0
    exact own_setS (j := k) v.v hl2
  · by_cases e1 : i = k
    · subst e1
      rw [ek]
      exact own_base hv2 (fun r er => Nat.le_trans hbx (hv2.lt r er).1)
    · rw [eg i e1]
      have ho := own_below (h.each i (by omega) hi2) b
      exact own_kept ho q (fun r er s => by subst s; exact own_apart hl2 ho tne1 hb er)
  · rw [eg i (by omega)]
    exact h.old i (by omega)
  · by_cases e1 : j = k
    · subst e1
      rw [eg i (by omega)] at er
      rw [ek]
      intro er2
      have l1 := ((h.each i hij (by omega)).lt r er).2
      have l2 := (hv.lt r er2).1
      omega
    · rw [eg j e1]
      rw [eg i (by omega)] at er
      exact h.sep i j hij (by omega) hj2 r er
/-- Behind the copy. -/
theorem ap_own {w wx wf : World} {bx : Nat} {n : Int} {y : WE} {e : E} {h0 hs : List Hd} {k : Nat} (h : Ap w wx bx n y e h0 hs k) (hk : e.lim.length ≤ k) (hf : Kept (fun i => i = w.heap.size + 1) wx wf) : OwnE wf w.heap.size y e hs := by
  have ho : OwnE wx (w.heap.size + 2) y e hs := ⟨h.p, h.l, h.hl, fun i hi => h.each i (by omega) hi, fun i j hij hj => h.sep i j hij (by omega) hj⟩
  exact (ho.kept hf (fun i s => by omega)).base (by omega)
/-- What holds at every moment of a region that draws its order: a box of epochs. -/
abbrev SA (W : World) (b : Nat) (n : Int) (y : WE) (w : World) : Prop := w.cell? ⟨b, 0, none⟩ = some (.int .i64 n) ∧ w.cell? ⟨b, 1, none⟩ = some (.slice y.p.o y.p.n y.p.c) ∧ w.cell? ⟨b, 2, none⟩ = some (.slice y.l.o y.l.n y.l.c) ∧ Hid (Below W.heap.size W w)
theorem sa_keep {W w w' : World} {b : Nat} {n : Int} {y : WE} (hb : Below w.heap.size w w') (h : SA W b n y w) : SA W b n y w' := by
  obtain ⟨h0, h1, h2, h3⟩ := h
  have k : ∀ {a : Addr} {v : Value}, w.cell? a = some v → w'.cell? a = some v := fun h => (hb.cell (World.block_lt_of_cell? w _ h)).trans h
  exact ⟨k h0, k h1, k h2, q_trans h3.out hb⟩
theorem sa_drew {W w : World} {b : Nat} {n : Int} {y : WE} (h : SA W b n y w) : SA W b n y w.drew := sa_keep (Below.refl _ w).drew h
theorem sa_alloc {W w : World} {b : Nat} {n : Int} {y : WE} {o : Obj} (h : SA W b n y w) : SA W b n y (w.alloc o) := sa_keep (alloc_below _ _) h
theorem sa_set {W w : World} {b c : Nat} {n : Int} {y : WE} {u v x : Value} (h : SA W b n y w) (hb : b < W.heap.size) (hc : W.heap.size ≤ c) : SA W b n y (((w.setCell ⟨c, 0, none⟩ u).setCell ⟨c, 1, none⟩ v).setCell ⟨c, 2, none⟩ x) := by
  obtain ⟨h0, h1, h2, h3⟩ := h
  have k := kept_store w c u v x
  exact ⟨k.cell h0 (show ¬ b = c by omega), k.cell h1 (show ¬ b = c by omega), k.cell h2 (show ¬ b = c by omega), q_set (q_set (q_set h3.out hc _) hc _) hc _⟩
theorem sa_low {W w : World} {b : Nat} {n : Int} {y : WE} (h : SA W b n y w) : Below W.heap.size W w := h.2.2.2.out
/-- The box's third cell alone. -/
abbrev SL (b : Nat) (y : WE) (w : World) : Prop := w.cell? ⟨b, 2, none⟩ = some (.slice y.l.o y.l.n y.l.c)
theorem sl_keep {w w' : World} {b : Nat} {y : WE} (hb : Below w.heap.size w w') (h : SL b y w) : SL b y w' := (hb.cell (World.block_lt_of_cell? w _ h)).trans h
theorem sl_put {w : World} {b c k : Nat} {y : WE} {u : Value} (h : SL b y w) (hb : b ≠ c) : SL b y (w.setCell ⟨c, k, none⟩ u) :=
  (kept_set (fun i => i = c) w ⟨c, k, none⟩ u rfl).cell h hb
set_option maxRecDepth 100000 in
set_option maxHeartbeats 2000000 in
/-- apart: THE SAME, IN MEMORY OF ITS OWN. -/
theorem apart_any (y : WE) (e : E) (Av : Nat → Prop) (w : World) (HS : Hid (Sm e)) (HE : Hid (HasE w Av y e)) :
    Calls Try.prog 38 #[(.agg #[.int .i64 e.now, .slice y.p.o y.p.n y.p.c, .slice y.l.o y.l.n y.l.c])] w fun r w' => ∃ z : WE, r = .returned (.agg #[.int .i64 e.now, .slice z.p.o z.p.n z.p.c, .slice z.l.o z.l.n z.l.c]) ∧ (∃ hs, OwnE w' w.heap.size z e hs) ∧ Below w.heap.size w w' := by
  generalize e.now = n
  go_enter Try.func38, Try.ntmps38
  go_upto_region 1 with fail
  have HD := hid (b2_start w n 0 y WE.zero 25)
  have HW : Hid (((w.alloc (.cells #[.int .i64 n, .slice y.p.o y.p.n y.p.c, .slice y.l.o y.l.n y.l.c] 25)).alloc (.cells #[.int .i64 0, .slice WE.zero.p.o WE.zero.p.n WE.zero.p.c, .slice WE.zero.l.o WE.zero.l.n WE.zero.l.c] 25)).heap.size = w.heap.size + 2) := by simp [Hid]
  have ez : ((w.alloc (.cells #[.int .i64 n, .slice y.p.o y.p.n y.p.c, .slice y.l.o y.l.n y.l.c] 25)).alloc (.cells #[.int .i64 0, .slice none 0 0, .slice none 0 0] 25)) = ((w.alloc (.cells #[.int .i64 n, .slice y.p.o y.p.n y.p.c, .slice y.l.o y.l.n y.l.c] 25)).alloc (.cells #[.int .i64 0, .slice WE.zero.p.o WE.zero.p.n WE.zero.p.c, .slice WE.zero.l.o WE.zero.l.n WE.zero.l.c] 25)) := rfl
  rw [ez]
  clear ez
  generalize ((w.alloc (.cells #[.int .i64 n, .slice y.p.o y.p.n y.p.c, .slice y.l.o y.l.n y.l.c] 25)).alloc (.cells #[.int .i64 0, .slice WE.zero.p.o WE.zero.p.n WE.zero.p.c, .slice WE.zero.l.o WE.zero.l.n WE.zero.l.c] 25)) = W at HD HW ⊢
  have HH := hid (HE.out.below HD.out.low)
  obtain ⟨h0, hL0⟩ := HE.out.l
  have HL0 := hid hL0
  have HL := hid (hL0.below HD.out.low)
  clear hL0
  have CI := hid (fun W' (b : Below W.heap.size W W') => cloneI_any y.p.o y.p.n y.p.c e.pins W' (HH.out.p.below b) (by rw [HH.out.pn]; have := HS.out.p; omega))
  have CL := hid (fun W' (b : Below W.heap.size W W') => cloneL_any y.l.o y.l.n y.l.c h0 e.lim Av W' (HL.out.below b) (by rw [HH.out.ln]; have := HS.out.l; omega))
  obtain ⟨c0, c1, c2, cf⟩ := HD.out.a
  go_cut [3] from 6 to 15 (fun s3 wx => ∃ (bx : Nat) (z : WE), s3 = .pointer (some ⟨bx, 0, none⟩) ∧ Hid (Ap w wx bx n z e h0 h0 0))
  case first =>
    have hS : SA W w.heap.size n y W := ⟨c0, c1, c2, Below.refl _ _⟩
    have hbW : w.heap.size < W.heap.size := HD.out.a.lt
    go_region_held3 (SA W w.heap.size n y) (first | with_reducible assumption | with_reducible exact HS3.out | with_reducible exact sa_alloc HS3.out | with_reducible exact sa_set HS3.out hbW (by first | exact Nat.le_refl _ | exact HB2.out.size) | with_reducible exact HS2.out | with_reducible exact sa_alloc HS2.out | with_reducible exact sa_drew hS | with_reducible exact sa_alloc (sa_drew hS) | with_reducible exact sa_drew (sa_alloc hS))
      (first
        | (go_at_call 45; refine (CL.out _ (by first | exact HB2.out | exact q_alloc HB2.out _)).mono ?_; rintro r w3 ⟨yl, rfl, hf, b3⟩; have HF3 := hid hf; have HB3 : Hid (Below W.heap.size W w3) := (by first | exact q_trans HB2.out b3 | exact q_trans (q_alloc HB2.out _) b3); have HS3 : Hid (SA W w.heap.size n y w3) := sa_keep HB3.out hS; (first | (have HZ3 := hid (HZ2.out.below b3); obtain ⟨z0, z1, z2, zf⟩ := HZ3.out) | (have HZ4 : Hid (InE w3 w2.heap.size 0 WE.zero) := (by exact (inE_new w2 0 WE.zero 25).below b3); obtain ⟨z0, z1, z2, zf⟩ := HZ4.out) | skip); clear hf)
        | (go_at_call 44; refine (CI.out _ (by first | exact (Below.refl _ W).drew | exact q_alloc (Below.refl _ W).drew _)).mono ?_; rintro r w2 ⟨yp, rfl, ht, b2⟩; have HT2 := hid ht; have HB2 : Hid (Below W.heap.size W w2) := (by first | exact q_trans (Below.refl _ W).drew b2 | exact q_trans (q_alloc (Below.refl _ W).drew _) b2); have HS2 : Hid (SA W w.heap.size n y w2) := sa_keep HB2.out hS; (first | (have HZ2 : Hid (InE w2 W.heap.size 0 WE.zero) := (by exact (inE_new W.drew 0 WE.zero 25).below b2)) | skip); clear ht))
    all_goals (try go_wp2_with fail)
    all_goals go_meet
    · have hz := HW.out
      have s2 : W.heap.size ≤ w2.heap.size := HB2.out.size
      have s3 : w2.heap.size ≤ w3.heap.size := b3.size
      have hp : w3.ownsRow (w.heap.size + 2) 2 1 (.slice yp.o yp.n yp.c) yp.n (vals e.pins) := own_base (own_below HT2.out b3) (fun k e => by have h : W.heap.size ≤ k := (HT2.out.lt k e).1; omega)
      have hl : w3.ownsRow (w.heap.size + 2) 49 1 (.slice yl.o yl.n yl.c) yl.n (hds h0) := own_base HF3.out (fun k e => by have h : w2.heap.size ≤ k := (HF3.out.lt k e).1; omega)
      exact ⟨_, ⟨yp, yl⟩, rfl, ap_mk (y := y) HD.out HB3.out hp hl HL.out.hl (fun b e => by have := (HT2.out.lt b e).2; omega) (fun b e => by have := (HF3.out.lt b e).2; omega) (by omega) (kept_below (alloc_below _ _)) (inE_new w3 n ⟨yp, yl⟩ _)⟩
    · have hz := HW.out
      have s2 : W.heap.size ≤ w2.heap.size := HB2.out.size
      have s3 : w2.heap.size + 1 ≤ w3.heap.size := by have := b3.size; simpa using this
      have hp : w3.ownsRow (w.heap.size + 2) 2 1 (.slice yp.o yp.n yp.c) yp.n (vals e.pins) := own_base (own_below (own_below HT2.out (alloc_below w2 _)) b3) (fun k e => by have h : W.heap.size ≤ k := (HT2.out.lt k e).1; omega)
      have f3 : ∀ k, (Value.slice yl.o yl.n yl.c).ownBlock = some k → w2.heap.size + 1 ≤ k := fun k e => by have := (HF3.out.lt k e).1; simpa using this
      have hl : w3.ownsRow (w.heap.size + 2) 49 1 (.slice yl.o yl.n yl.c) yl.n (hds h0) := own_base HF3.out (fun k e => by have h := f3 k e; omega)
      exact ⟨_, ⟨yp, yl⟩, rfl, ap_mk (y := y) HD.out HB3.out hp hl HL.out.hl (fun b e => by have := (HT2.out.lt b e).2; omega) (fun b e => by have := f3 b e; omega) (by omega) (kept_store w3 w2.heap.size _ _ _) (HZ4.out.store n ⟨yp, yl⟩)⟩
    · have hz := HW.out
      have s2 : W.heap.size + 1 ≤ w2.heap.size := HZ2.out.lt
      have s3 : w2.heap.size ≤ w3.heap.size := b3.size
      have t2 : ∀ k, (Value.slice yp.o yp.n yp.c).ownBlock = some k → W.heap.size + 1 ≤ k := fun k e => by have := (HT2.out.lt k e).1; simpa using this
      have hp : w3.ownsRow (w.heap.size + 2) 2 1 (.slice yp.o yp.n yp.c) yp.n (vals e.pins) := own_base (own_below HT2.out b3) (fun k e => by have h := t2 k e; omega)
      have hl : w3.ownsRow (w.heap.size + 2) 49 1 (.slice yl.o yl.n yl.c) yl.n (hds h0) := own_base HF3.out (fun k e => by have h : w2.heap.size ≤ k := (HF3.out.lt k e).1; omega)
      exact ⟨_, ⟨yp, yl⟩, rfl, ap_mk (y := y) HD.out HB3.out hp hl HL.out.hl (fun b e => by have := t2 b e; omega) (fun b e => by have := (HF3.out.lt b e).1; omega) (by omega) (kept_store w3 W.heap.size _ _ _) (HZ3.out.store n ⟨yp, yl⟩)⟩
  case rest =>
    obtain ⟨bx, z, rfl, HA⟩ := hcut
    clear c0 c1 c2 cf CI CL
    obtain ⟨⟨zpo, zpn, zpc⟩, ⟨zlo, zln, zlc⟩⟩ := z
    have HLN : Hid (zln = e.lim.length) := by have := HA.out.l.1; rw [len_hds, HA.out.hl] at this; simp at this; exact this.symm
    have hm : zln ≤ 70 := by have := HLN.out; have := HS.out.l; omega
    obtain ⟨c0, c1, c2, cf⟩ := HA.out.box
    go_wp2
    clear c0 c1 c2 cf
    go_loopw [18] (fun i wr => ∃ (k : Nat) (hs : List Hd), k ≤ zln ∧ i = .int .i64 k ∧ Hid (Ap w wr bx n ⟨⟨zpo, zpn, zpc⟩, ⟨zlo, zln, zlc⟩⟩ e h0 hs k)) (fun i _ => zln - (intOf i).toNat)
    case atStart => exact ⟨0, h0, Nat.zero_le _, rfl, HA⟩
    case round =>
      obtain ⟨k, hs, hk, rfl, HG⟩ := hrel
      clear HA
      by_cases hlt : k < zln
      · have i1 : (0 : Int) ≤ (k : Int) := by omega
        have i2 : (k : Int) < (zln : Int) := by omega
        have HK : Hid (k < e.lim.length) := by have := HLN.out; exact (by omega : k < e.lim.length)
        obtain ⟨g, eg, hg, hg2⟩ := own_head HG.out.l (by show 0 < zln; omega)
        have eg : zlo = some ⟨g, 0, none⟩ := eg
        subst eg
        obtain ⟨_, e2, ca⟩ := (own_row HG.out.l).1.cell k _ (hds_at hs k (by have := HG.out.hl; have := HK.out; omega))
        cases e2
        rw [add0] at ca
        have hW := (HL0.out.each k HK.out).below HG.out.low
        rw [← HG.out.old k (Nat.le_refl _)] at hW
        obtain ⟨⟨lo, m, lc⟩, hy⟩ : ∃ y, hs.getD k Hd.zero = y := ⟨_, rfl⟩
        rw [hy] at ca hW
        replace ca : wr.cell? ⟨g, k, none⟩ = some (.slice lo m lc) := ca
        have CW := hid (fun W' (b : Below wr.heap.size wr W') => cloneW_any lo m lc (e.lim.getD k []) W' (hW.below b) (by have := hW.len; have := HS.out.each k HK.out; simp only at *; omega))
        have hfz : wr.frozen? ⟨g, k, none⟩ = false := own_frozen HG.out.l
        obtain ⟨c0, c1, c2, cf⟩ := HG.out.box
        clear hW hy
        go_wp2_with fail
        have hne : bx ≠ g := fun e => HG.out.lb g rfl e.symm
        have hS : SL bx ⟨⟨zpo, zpn, zpc⟩, ⟨some ⟨g, 0, none⟩, zln, zlc⟩⟩ wr := c2
        go_region_held3 (SL bx ⟨⟨zpo, zpn, zpc⟩, ⟨some ⟨g, 0, none⟩, zln, zlc⟩⟩) (first | with_reducible assumption | with_reducible exact sl_put HS2.out hne | with_reducible exact HS2.out | with_reducible exact sl_keep (Below.refl _ wr).drew hS | exact hS)
          (first | (go_at_call 46; refine (CW.out _ (by first | exact (Below.refl _ wr).drew | exact Below.refl _ _)).mono ?_; rintro r w2 ⟨v, rfl, hv, b⟩; have HV := hid hv; have HB2 : Hid (Below wr.heap.size wr w2) := (q_trans (Below.refl _ wr).drew b); have HS2 : Hid (SL bx ⟨⟨zpo, zpn, zpc⟩, ⟨some ⟨g, 0, none⟩, zln, zlc⟩⟩ w2) := (sl_keep HB2.out hS); have d0 : w2.cell? ⟨g, k, none⟩ = some (.slice lo m lc) := (HB2.out.cell (World.block_lt_of_cell? wr _ ca)).trans ca; have dfz : w2.frozen? ⟨g, k, none⟩ = false := (World.frozen?_of_block (HB2.out.block _ (World.block_lt_of_cell? wr _ ca))).trans hfz; clear hv))
        all_goals
          have HP : Hid (Ap w (w2.setCell ⟨g, k, none⟩ (.slice v.o v.n v.c)) bx n ⟨⟨zpo, zpn, zpc⟩, ⟨some ⟨g, 0, none⟩, zln, zlc⟩⟩ e h0 (hs.set k v) (k + 1)) := ap_put HG.out HB2.out rfl HK.out HV.out
          clear d0 dfz c0 c1 c2 cf ca hfz hS
          go_wp2_with fail
          go_roundw
          case rel => exact ⟨k + 1, _, by omega, by go_num, HP⟩
          case measure => simp [intOf]; omega
      · obtain rfl : k = zln := by omega
        obtain ⟨c0, c1, c2, cf⟩ := HG.out.box
        obtain ⟨r0, r1, r2, rf⟩ := HG.out.res
        have n2 : w.heap.size + 1 < wr.heap.size := HG.out.res.lt
        go_wp2_with fail
        have kf := kept_store wr (w.heap.size + 1) (.int .i64 n) (.slice zpo zpn zpc) (.slice zlo k zlc)
        refine bodyPost_ret (v := .agg #[.int .i64 n, .slice zpo zpn zpc, .slice zlo k zlc]) (by simp [results, Try.results38, go_sem, *]) rfl ⟨⟨⟨zpo, zpn, zpc⟩, ⟨zlo, k, zlc⟩⟩, rfl, ⟨hs, ap_own HG.out (by rw [HLN.out]; exact Nat.le_refl _) kf⟩, HG.out.low.trans (kf.below w.heap.size HG.out.low.size (fun i e => by omega))⟩
end Go.Proofs.Ytejghoncihdfkaa.Ep
