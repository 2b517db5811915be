/- What the program's Reap does. -/
import Derived.Test.YtejghoncihdfkaaEpW7
import Derived.Test.YtejghoncihdfkaaEpRReap
import Derived.WalkMore
namespace Go.Proofs.Ytejghoncihdfkaa.Ep
open Go.RowKit

/-! ### A slice of those that wait, from a place on -/
theorem runW_from (ao : Option Addr) (k n cap : Nat) (hk : k ≤ n) (V : World) :
    (Instr.slice 49 (.slice ao n cap) (some (.int .i64 k)) none none).run Try.prog V = .ok (.slice (if cap = k then ao else ao.map (·.add (k * 2))) (n - k) (cap - k)) V := by
  have hb := fun code => run_sliceBound (P := Try.prog) (w := V) .i64 (k : Int) n code (by omega) (by omega)
  simp [Instr.slice, Instr.sliceBounds, run_underlying Try.underlying49, hb, Try.sizeOf51]
theorem wts_drop (l : List W) (k j : Nat) : (wts (l.drop k))[j]? = (wts l)[k * 2 + j]? := by
  by_cases hk : k ≤ l.length
  · have e : wts l = wts (l.take k) ++ wts (l.drop k) := by rw [← wts_app, List.take_append_drop]
    rw [e, List.getElem?_append_right (by rw [len_wts, List.length_take]; omega)]
    congr 1
    rw [len_wts, List.length_take]
    omega
  · rw [List.drop_of_length_le (by omega), List.getElem?_eq_none (by simp [wts]), List.getElem?_eq_none (by rw [len_wts]; omega)]
theorem HasW.drop {w : World} {ao : Option Addr} {n cap : Nat} {l : List W} (h : HasW w ao n cap l) (k : Nat) (hk : k ≤ n) : HasW w (if cap = k then ao else ao.map (·.add (k * 2))) (n - k) (cap - k) (l.drop k) := by
  have hl := h.len
  have hc := h.cap
  refine ⟨by simp; omega, fun e => ?_, by omega, ⟨fun j u hu => ?_⟩⟩
  · by_cases e2 : cap = k
    · omega
    · rw [if_neg e2] at e
      have : ao = none := by cases ao with
        | none => rfl
        | some a => simp at e
      have := h.nil this
      omega
  · by_cases e2 : cap = k
    · have : l.drop k = [] := List.drop_of_length_le (by omega)
      rw [this] at hu
      simp [wts] at hu
    · rw [if_neg e2]
      rw [wts_drop] at hu
      obtain ⟨a, rfl, hcell⟩ := h.row.cell _ u hu
      exact ⟨a.add (k * 2), rfl, by rw [add_add]; exact hcell⟩
/-- The slice from place k on: where it lies, and its block. -/
theorem cutW (ao : Option Addr) (n cap k : Nat) (hk : k ≤ n) : ∃ ao', (∀ (w : World) (l : List W), HasW w ao n cap l → HasW w ao' (n - k) (cap - k) (l.drop k)) ∧ (∀ q, (Value.slice ao' (n - k) (cap - k)).ownBlock = some q → (Value.slice ao n cap).ownBlock = some q) ∧ ∀ V, (Instr.slice 49 (.slice ao n cap) (some (.int .i64 k)) none none).run Try.prog V = .ok (.slice ao' (n - k) (cap - k)) V := by
  refine ⟨_, fun w l h => h.drop k hk, fun q e => ?_, runW_from ao k n cap hk⟩
  cases ao with
  | none => by_cases e2 : cap = k <;> simp [e2, Value.ownBlock] at e
  | some a =>
    by_cases e2 : cap = k
    · rw [if_pos e2] at e; exact e
    · rw [if_neg e2] at e
      simp only [Option.map_some, Value.ownBlock] at e ⊢
      rw [add_block] at e
      exact e
/-- What is reaped: those ahead of the first that stays. -/
theorem reap_at {e : E} {c : Int} (h : coB e c = true) {l : List W} (hl : limOf e c = l) (i : Nat) (hi : i ≤ l.length) (h1 : ∀ j, j < i → (l.getD j (0, 0)).2 ≤ e.now - 2) (h2 : i = l.length ∨ e.now - 2 < (l.getD i (0, 0)).2) : rpL e c = (l.take i).map (·.1) ∧ rpA e c = setL e c (l.drop i) := by
  have hnf : nf l = true := by have := (okL_iff.1 (okL_at h)).2.2; rwa [hl] at this
  obtain ⟨r, hr, g1, g2, g3⟩ := goes_take (e := e) hnf
  have hrl : r ≤ l.length := by rw [hr]; exact List.length_filter_le _ _
  have e1 : i = r := by
    rcases Nat.lt_trichotomy i r with hlt | heq | hgt
    · have := g1 i hlt
      unfold goes at this
      simp only [decide_eq_true_eq] at this
      rcases h2 with h2 | h2
      · omega
      · omega
    · exact heq
    · have hm : l.getD r (0, 0) ∈ l.drop r := by
        rw [get_lt (by omega : r < l.length), List.drop_eq_getElem_cons (by omega)]
        exact List.mem_cons_self
      rw [← g3] at hm
      have := (List.mem_filter.1 hm).2
      unfold goes at this
      have h3 := h1 r hgt
      rw [decide_eq_true h3] at this
      cases this
  subst e1
  unfold rpL rpA
  rw [if_pos h, if_pos h, hl, g2, g3]
  exact ⟨rfl, rfl⟩
/-! ### The list's head is stored -/
theorem put_has {w V : World} {n : Int} {y z : WE} {bx g k : Nat} {e : E} {hs : List Hd} {Av : Nat → Prop} {x : Hd} {l : List W} (h : Fb w V n y bx z e hs) (hk : k < e.lim.length) (hg : z.l.o = some ⟨g, 0, none⟩)
    (hx : HasW V x.o x.n x.c l) (hxb : ∀ q, x.v.ownBlock = some q → w.heap.size + 2 ≤ q ∧ q ≠ g) (hA : ∀ i, Av i → i < w.heap.size) :
    Below w.heap.size w (V.setCell ⟨g, k, none⟩ x.v) ∧ InE (V.setCell ⟨g, k, none⟩ x.v) bx n z ∧ InE (V.setCell ⟨g, k, none⟩ x.v) (w.heap.size + 1) 0 WE.zero ∧ HasE (V.setCell ⟨g, k, none⟩ x.v) (fun i => Av i ∨ i = w.heap.size + 1) z (setL e (k : Int) l) := by
  have hb : (Value.slice z.l.o z.l.n z.l.c).ownBlock = some g := by rw [hg]; rfl
  have hgB := (h.own.l.lt g hb).1
  have q : Kept (fun i => i = g) V (V.setCell ⟨g, k, none⟩ x.v) := kept_set _ V _ _ rfl
  have hkl : k < hs.length := by rw [h.own.hl]; exact hk
  refine ⟨q_set h.b.low (by show w.heap.size ≤ g; omega) _, h.f.kept q (fun e => h.lb g hb e.symm), h.b.b.kept q (by omega), ?_⟩
  refine has_of (B := w.heap.size + 2) (hs := hs.set k x) (own_kept h.own.p q (fun i ei s => by subst s; exact own_apart h.own.p h.own.l tne0 ei hb)) ?_ (by simp [setL, h.own.hl]) (fun i hi => ?_) (fun i s => by rcases s with s | s; (have := hA i s; omega); omega)
  · rw [← hds_set]
    have hl := h.own.l
    obtain ⟨zp, ⟨lo', ln, lc⟩⟩ := z
    have e0 : lo' = some ⟨g, 0, none⟩ := hg
    subst e0
    exact own_setS (j := k) x.v hl
  · have hi' : i < e.lim.length := by simpa [setL] using hi
    by_cases e1 : i = k
    · subst e1
      have e2 : (setL e (i : Int) l).lim.getD i [] = l := by simp [setL, List.getD, hi']
      have e3 : (hs.set i x).getD i Hd.zero = x := by simp [List.getD, hkl]
      rw [e2, e3]
      exact ⟨_, Nat.le_refl _, hx.kept q (fun _ a ea s => (hxb a.block (by unfold Hd.v; rw [ea]; rfl)).2 s), fun j ej => (hxb j ej).1⟩
    · have e4 : k ≠ i := fun e => e1 e.symm
      have e2 : (setL e (k : Int) l).lim.getD i [] = e.lim.getD i [] := by simp [setL, List.getD, e4]
      have e3 : (hs.set k x).getD i Hd.zero = hs.getD i Hd.zero := by simp [List.getD, e4]
      rw [e2, e3]
      have oi := h.own.each i hi'
      exact ⟨_, Nat.le_refl _, own_wts (own_kept oi q (fun j ej s => by subst s; exact own_apart h.own.l oi tne1 hb ej)), fun j ej => (oi.lt j ej).1⟩
theorem tneI1 : (2 : TypeId) ≠ 3 := by decide
theorem tneI2 : (49 : TypeId) ≠ 3 := by decide
theorem tneI3 : (51 : TypeId) ≠ 3 := by decide
/-- While the list is gone over: i have gone. -/
structure Rr (w wr : World) (n : Int) (y : WE) (bx : Nat) (z : WE) (e : E) (hs : List Hd) (l : List W) (i : Nat) (oo : Option Addr) (gn oc : Nat) : Prop where
  f : Fb w wr n y bx z e hs
  out : wr.ownsRow (bx + 1) 3 1 (.slice oo gn oc) gn (vals ((l.take i).map (·.1)))
section
variable {w wr wm w3 : World} {n : Int} {y z : WE} {bx : Nat} {e : E} {hs : List Hd} {l : List W} {i : Nat} {oo : Option Addr} {gn oc : Nat}
theorem Rr.below (h : Rr w wr n y bx z e hs l i oo gn oc) (b : Below wr.heap.size wr wm) : Rr w wm n y bx z e hs l i oo gn oc := ⟨h.f.below b, own_below h.out b⟩
theorem Rr.many (h : Rr w wr n y bx z e hs l i oo gn oc) (hi : i ≤ l.length) : gn = i := by
  have := h.out.1
  rw [len_vals, List.length_map, List.length_take] at this
  omega
theorem Rr.more {ao3 : Option Addr} {cap3 : Nat} {x : W} (h : Rr w wm n y bx z e hs l i oo gn oc) (hi : i < l.length) (hz : l.getD i (0, 0) = x)
    (own3 : w3.ownsRow (bx + 1) 3 1 (.slice ao3 (gn + 1) cap3) (gn + 1) (vals ((l.take i).map (·.1)) ++ vals [x.1])) (grow : wm.grownBy w3 (Value.ownBlock (.slice oo gn oc))) : Rr w w3 n y bx z e hs l (i + 1) ao3 (gn + 1) cap3 := by
  have kg := kept_grown grow
  have hB : ∀ q, some q = Value.ownBlock (.slice oo gn oc) → bx + 1 ≤ q := fun q eq => (h.out.lt q eq.symm).1
  have hnb := h.f.nb
  refine ⟨⟨⟨h.f.b.low.trans (kg.below w.heap.size h.f.b.low.size (fun q eq => by have := hB q eq; omega)), h.f.b.a.kept kg (fun eq => by have := hB _ eq; omega), h.f.b.b.kept kg (fun eq => by have := hB _ eq; omega)⟩, h.f.f.kept kg (fun eq => by have := hB _ eq; omega), h.f.nb, ?_, h.f.pb, h.f.lb⟩, ?_⟩
  · exact ⟨own_kept h.f.own.p kg (fun q eq s => own_apart h.f.own.p h.out tneI1 eq s.symm), own_kept h.f.own.l kg (fun q eq s => own_apart h.f.own.l h.out tneI2 eq s.symm), h.f.own.hl, fun j hj => own_kept (h.f.own.each j hj) kg (fun q eq s => own_apart (h.f.own.each j hj) h.out tneI3 eq s.symm), h.f.own.sep⟩
  · rw [wtake_snoc hi, hz, List.map_append, show vals ((l.take i).map (·.1) ++ [x].map (·.1)) = vals ((l.take i).map (·.1)) ++ vals [x.1] by simp]
    exact own3
end
set_option maxRecDepth 100000 in
set_option maxHeartbeats 4000000 in
theorem reap_any (y : WE) (e : E) (c : Int) (Av : Nat → Prop) (w : World) (hA : Hid (∀ i, Av i → i < w.heap.size)) (HS : Hid (Sm e)) (HE : Hid (HasE w Av y e)) :
    Calls Try.prog 23 #[(.agg #[.int .i64 e.now, .slice y.p.o y.p.n y.p.c, .slice y.l.o y.l.n y.l.c]), .int .i64 c] w fun r w' => ∃ (z : WE) (o : Option Addr) (cp : Nat), r = .returned (.tuple #[(.agg #[.int .i64 e.now, .slice z.p.o z.p.n z.p.c, .slice z.l.o z.l.n z.l.c]), .slice o (rpL e c).length cp]) ∧ HasE w' Av z (rpA e c) ∧ Has w' o (rpL e c).length cp (rpL e c) ∧ Off Av o (vals (rpL e c)) ∧ Below w.heap.size w w' := by
  obtain ⟨⟨po, P, pc⟩, ⟨lo, L, lc⟩⟩ := y
  have HP : Hid (L = e.lim.length) := HE.out.ln
  have CA := hid (fun (W : World) (h : HasE W Av ⟨⟨po, P, pc⟩, ⟨lo, L, lc⟩⟩ e) => apart_any ⟨⟨po, P, pc⟩, ⟨lo, L, lc⟩⟩ e Av W HS h)
  cases hco : coB e c with
  | false =>
    have HR := hid (rp_same hco)
    have HI := hid (fun (W : World) (h : HasE W Av ⟨⟨po, P, pc⟩, ⟨lo, L, lc⟩⟩ e) => is_core HS.out h hco)
    clear hco
    generalize e.now = n at HI CA ⊢
    go_enter Try.func23, Try.ntmps23
    go_wp2_with fail
    go_step3
    go_wp2_with fail
    have HB : Hid (B2 w ((w.alloc (.cells #[.int .i64 n, .slice po P pc, .slice lo L lc] 25)).alloc (.cells #[.int .i64 0, .slice none 0 0, .slice none 0 0] 25)) n 0 ⟨⟨po, P, pc⟩, ⟨lo, L, lc⟩⟩ WE.zero) := b2_start w n 0 ⟨⟨po, P, pc⟩, ⟨lo, L, lc⟩⟩ WE.zero 25
    refine (CA.out _ (HE.out.below HB.out.low)).mono ?_
    rintro r w1 ⟨z, rfl, ⟨hs, ho⟩, b1⟩
    have HF := hid (fb_start HB.out (size2 _ _ _) ho b1 25)
    clear ho b1 HB
    go_upto_region 2 with fail
    generalize w1.heap.size = bx at HF ⊢
    generalize w1.alloc (.cells #[.int .i64 n, .slice z.p.o z.p.n z.p.c, .slice z.l.o z.l.n z.l.c] 25) = W at HF ⊢
    clear w1
    obtain ⟨x0, x1, x2, xf⟩ := HF.out.b.a
    go_wp2_with fail
    refine (HI.out _ (HE.out.below HF.out.b.low)).mono ?_
    rintro r w2 ⟨rfl, b2⟩
    replace HF := hid (HF.out.below b2)
    clear b2 x0 x1 x2 xf W
    obtain ⟨v0, v1, v2, vf⟩ := HF.out.f
    obtain ⟨z0, z1, z2, zf⟩ := HF.out.b.b
    have hb2 : w.heap.size + 1 < w2.heap.size := HF.out.b.b.lt
    go_wp2_with fail
    try rw [Exit.noGoto_ret]
    refine bodyPost_ret (v := .tuple #[(.agg #[.int .i64 n, .slice z.p.o z.p.n z.p.c, .slice z.l.o z.l.n z.l.c]), .slice none 0 0]) (by simp [results, Try.results23, go_sem, *]) rfl ⟨z, none, 0, by rw [HR.out.2]; rfl, ?_, ?_, fun _ _ h => (by cases h), fin_low HF.out.b.low _ _ _⟩
    · rw [HR.out.1]
      exact HF.out.has hA.out _ _ _
    · rw [HR.out.2]; exact has_nil _
  | true =>
    obtain ⟨hok, c0, c1⟩ := co_iff.1 hco
    have HLe := hid hok.len
    have n1 : 1 ≤ e.now := hok.now1
    have n2 : e.now ≤ 1099511627776 := hok.now2
    obtain ⟨k, rfl⟩ : ∃ k : Nat, c = (k : Int) := ⟨c.toNat, by omega⟩
    have hkL : k < L := by have := HP.out; have := HLe.out; omega
    have i1 : (0 : Int) ≤ (k : Int) := by omega
    have i2 : (k : Int) < (L : Int) := by omega
    have HI := hid (fun (W : World) (h : HasE W Av ⟨⟨po, P, pc⟩, ⟨lo, L, lc⟩⟩ e) => is_core HS.out h hco)
    have HLi := hid (fun (W : World) (h : HasE W Av ⟨⟨po, P, pc⟩, ⟨lo, L, lc⟩⟩ e) => h.list k (by have := HP.out; omega))
    obtain ⟨l, hl⟩ : ∃ l, e.lim.getD k [] = l := ⟨_, rfl⟩
    have hl8 : l.length ≤ 8 := by rw [← hl]; exact (okL_iff.1 (hok.wait k (by have := HP.out; have := HLe.out; omega))).1
    have HLk := hid hl
    have HRs := hid (fun i hi h1 h2 => reap_at hco (show limOf e (k : Int) = l by unfold limOf; simpa using hl) i hi h1 h2)
    rw [hl] at HLi
    clear hco hok hl
    generalize e.now = n at HI CA HRs n1 n2 ⊢
    go_enter Try.func23, Try.ntmps23
    go_wp2_with fail
    go_step3
    go_wp2_with fail
    have HB : Hid (B2 w ((w.alloc (.cells #[.int .i64 n, .slice po P pc, .slice lo L lc] 25)).alloc (.cells #[.int .i64 0, .slice none 0 0, .slice none 0 0] 25)) n 0 ⟨⟨po, P, pc⟩, ⟨lo, L, lc⟩⟩ WE.zero) := b2_start w n 0 ⟨⟨po, P, pc⟩, ⟨lo, L, lc⟩⟩ WE.zero 25
    refine (CA.out _ (HE.out.below HB.out.low)).mono ?_
    rintro r w1 ⟨z, rfl, ⟨hs, ho⟩, b1⟩
    have HF := hid (fb_start HB.out (size2 _ _ _) ho b1 25)
    clear ho b1 HB
    go_upto_region 2 with fail
    generalize w1.heap.size = bx at HF ⊢
    generalize w1.alloc (.cells #[.int .i64 n, .slice z.p.o z.p.n z.p.c, .slice z.l.o z.l.n z.l.c] 25) = W at HF ⊢
    clear w1
    obtain ⟨x0, x1, x2, xf⟩ := HF.out.b.a
    go_wp2_with fail
    refine (HI.out _ (HE.out.below HF.out.b.low)).mono ?_
    rintro r w2 ⟨rfl, b2⟩
    replace HF := hid (HF.out.below b2)
    clear b2 x0 x1 x2 xf W
    have HKl : Hid (k < e.lim.length) := by have := HP.out; exact (by omega : k < e.lim.length)
    obtain ⟨b, lo', m, lc', eb, cb, hw, _⟩ := HLi.out w HE.out
    obtain rfl : lo = some b := eb
    have HWk := hid hw
    have hm : m = l.length := hw.len
    have hm8 : m ≤ 8 := by omega
    have HM := hid hm
    have HCB := hid (fun (wx : World) (hx : Below w.heap.size w wx) => (hx.cell (World.block_lt_of_cell? _ _ cb)).trans cb)
    clear hw hm hl8 cb
    obtain ⟨⟨zpo, zpn, zpc⟩, ⟨zlo, zln, zlc⟩⟩ := z
    have hln : zln = L := by rw [HP.out]; exact HF.out.own.ln
    subst hln
    obtain ⟨g, eg, hg, hg2⟩ := own_head HF.out.own.l (by show 0 < zln; omega)
    have eg : zlo = some ⟨g, 0, none⟩ := eg
    subst eg
    obtain ⟨⟨vo, vn, vc⟩, hy⟩ : ∃ y, hs.getD k Hd.zero = y := ⟨_, rfl⟩
    have HOw := hid (fun (wx : World) (h : OwnE wx (w.heap.size + 2) ⟨⟨zpo, zpn, zpc⟩, ⟨some ⟨g, 0, none⟩, zln, zlc⟩⟩ e hs) => h.each k HKl.out)
    rw [hy, HLk.out] at HOw
    have HNG : Hid (∀ q, (Value.slice vo vn vc).ownBlock = some q → w.heap.size + 2 ≤ q ∧ q ≠ g) := fun q eq => ⟨((HOw.out _ HF.out.own).lt q eq).1, fun e2 => by subst e2; exact own_apart HF.out.own.l (HOw.out _ HF.out.own) tne1 rfl eq⟩
    have HCg : Hid (∀ wx, OwnE wx (w.heap.size + 2) ⟨⟨zpo, zpn, zpc⟩, ⟨some ⟨g, 0, none⟩, zln, zlc⟩⟩ e hs → wx.cell? ⟨g, k, none⟩ = some (.slice vo vn vc)) := by
      intro wx h
      obtain ⟨_, e2, cg⟩ := (own_row h.l).1.cell k _ (hds_at hs k (by rw [h.hl]; exact HKl.out))
      cases e2
      rw [add0, hy] at cg
      exact cg
    have hvn : vn = m := by
      have h1 := (HOw.out _ HF.out.own).1
      rw [len_wts] at h1
      have h2 : l.length * 2 = vn * 2 := h1
      have := HM.out
      omega
    subst hvn
    clear hy
    obtain ⟨x0, x1, x2, xf⟩ := HF.out.b.a
    have cb := HCB.out w2 HF.out.b.low
    go_wp2_with fail
    go_step3
    go_wp2_with fail
    clear x0 x1 x2 xf cb
    go_loopw [7, 23] (fun s7 s23 wr => ∃ (i gn oc : Nat) (oo : Option Addr), i ≤ vn ∧ s7 = .slice oo gn oc ∧ s23 = .int .i64 i ∧ Hid (∀ j, j < i → (l.getD j (0, 0)).2 ≤ n - 2) ∧ Hid (Rr w wr n ⟨⟨po, P, pc⟩, ⟨some b, zln, lc⟩⟩ bx ⟨⟨zpo, zpn, zpc⟩, ⟨some ⟨g, 0, none⟩, zln, zlc⟩⟩ e hs l i oo gn oc)) (fun _ s _ => vn - (intOf s).toNat)
    case atStart => exact ⟨0, 0, 0, none, Nat.zero_le _, rfl, rfl, fun j hj => absurd hj (by omega), ⟨HF.out, World.ownsRow_nil _ _ _ _⟩⟩
    case round =>
      obtain ⟨i, gn, oc, oo, hi, rfl, rfl, HGo, HQ⟩ := hrel
      clear HF
      obtain ⟨x0, x1, x2, xf⟩ := HQ.out.f.b.a
      have hgi : gn = i := HQ.out.many (by have := HM.out; omega)
      subst hgi
      by_cases hlt : gn < vn
      · have j1 : (0 : Int) ≤ (gn : Int) := by omega
        have j2 : (gn : Int) < (vn : Int) := by omega
        obtain ⟨a2, e3, cz⟩ := atW_of (HWk.out.row.below HQ.out.f.b.low) gn (by have := HM.out; omega)
        subst e3
        obtain ⟨x, hx⟩ : ∃ x, l.getD gn (0, 0) = x := ⟨_, rfl⟩
        rw [hx] at cz
        have HZ := hid hx
        clear hx
        obtain ⟨c0, c1⟩ := cz
        have hzn : IntKind.i64.wrap (n - 2) = n - 2 := by rw [IntKind.wrap_i64]; omega
        have hbw : w.heap.size < wr.heap.size := HQ.out.f.b.a.lt
        by_cases hgt : n - 2 < x.2
        · have HSt : Hid (gn = l.length ∨ n - 2 < (l.getD gn (0, 0)).2) := .inr (by rw [HZ.out]; exact hgt)
          have HRp := hid (HRs.out gn (by have := HM.out; omega) HGo.out HSt.out)
          obtain ⟨ao', HCt⟩ := cutW vo vn vc gn (by omega)
          have hrun := HCt.2.2
          have HD := hid HCt.1
          have HDb := hid HCt.2.1
          clear HCt
          have HQw := hid (HQ.out.below (alloc_below wr (.cells #[.int .i64 x.1, .int .i64 x.2] 51)))
          have cg : (wr.alloc (.cells #[.int .i64 x.1, .int .i64 x.2] 51)).cell? ⟨g, k, none⟩ = some (.slice vo vn vc) := HCg.out _ HQw.out.f.own
          have gf : (wr.alloc (.cells #[.int .i64 x.1, .int .i64 x.2] 51)).frozen? ⟨g, k, none⟩ = false := own_frozen HQw.out.f.own.l
          obtain ⟨v0, v1, v2, vf⟩ := HQw.out.f.f
          have k1 : (0 : Int) ≤ (gn : Int) := by omega
          have HPt := hid (put_has (x := ⟨ao', vn - gn, vc - gn⟩) (l := l.drop gn) (HQw.out.f.below (Below.refl _ _).drew) HKl.out rfl (HD.out _ l (own_wts (HOw.out _ (HQw.out.f.below (Below.refl _ _).drew).own))) (fun q eq => HNG.out q (HDb.out q eq)) hA.out)
          have HOr := hid (own_kept (own_below HQw.out.out (Below.refl _ _).drew) (kept_set (fun i => i = g) ((wr.alloc (.cells #[.int .i64 x.1, .int .i64 x.2] 51))).drew ⟨g, k, none⟩ (.slice ao' (vn - gn) (vc - gn)) rfl) (fun q eq s => by subst s; exact own_apart HQw.out.f.own.l HQw.out.out tneI2 rfl eq))
          go_upto_region 11 with fail
          go_region
          have e0 : ((wr.alloc (.cells #[.int .i64 x.1, .int .i64 x.2] 51)).setCell ⟨g, k, none⟩ (.slice ao' (vn - gn) (vc - gn))).drew = (wr.alloc (.cells #[.int .i64 x.1, .int .i64 x.2] 51)).drew.setCell ⟨g, k, none⟩ (.slice ao' (vn - gn) (vc - gn)) := rfl
          rw [e0]
          clear e0
          have hbox := HPt.out.2.1
          have hres := HPt.out.2.2.1
          have HL2 := hid HPt.out.1
          have HZ2 := hid HPt.out.2.2.2
          clear v0 v1 v2 vf cg gf hrun HPt x0 x1 x2 xf c0 c1 hbw
          change InE (((wr.alloc (.cells #[.int .i64 x.1, .int .i64 x.2] 51))).drew.setCell ⟨g, k, none⟩ (.slice ao' (vn - gn) (vc - gn))) _ _ _ at hbox
          change InE (((wr.alloc (.cells #[.int .i64 x.1, .int .i64 x.2] 51))).drew.setCell ⟨g, k, none⟩ (.slice ao' (vn - gn) (vc - gn))) _ _ _ at hres
          replace HL2 : Hid (Below w.heap.size w (((wr.alloc (.cells #[.int .i64 x.1, .int .i64 x.2] 51))).drew.setCell ⟨g, k, none⟩ (.slice ao' (vn - gn) (vc - gn)))) := HL2
          replace HZ2 : Hid (HasE (((wr.alloc (.cells #[.int .i64 x.1, .int .i64 x.2] 51))).drew.setCell ⟨g, k, none⟩ (.slice ao' (vn - gn) (vc - gn))) (fun i => Av i ∨ i = w.heap.size + 1) ⟨⟨zpo, zpn, zpc⟩, ⟨some ⟨g, 0, none⟩, zln, zlc⟩⟩ (setL e (k : Int) (l.drop gn))) := HZ2
          generalize ((wr.alloc (.cells #[.int .i64 x.1, .int .i64 x.2] 51))).drew.setCell ⟨g, k, none⟩ (.slice ao' (vn - gn) (vc - gn)) = W5 at HL2 HZ2 HOr hbox hres ⊢
          obtain ⟨v0, v1, v2, vf⟩ := hbox
          have hb2 : w.heap.size + 1 < W5.heap.size := hres.lt
          obtain ⟨z0, z1, z2, zf⟩ := hres
          have HLn : Hid (gn = (rpL e (k : Int)).length) := by rw [Hid, HRp.out.1, List.length_map, List.length_take]; have := HM.out; omega
          go_wp2_with fail
          try rw [Exit.noGoto_ret]
          refine bodyPost_ret (v := .tuple #[.agg #[.int .i64 n, .slice zpo zpn zpc, .slice (some ⟨g, 0, none⟩) zln zlc], .slice oo gn oc]) (by simp [results, Try.results23, go_sem, *]) rfl ⟨⟨⟨zpo, zpn, zpc⟩, ⟨some ⟨g, 0, none⟩, zln, zlc⟩⟩, oo, oc, ?_, ?_, ?_, own_off HOr.out (fun j s => by have := hA.out j s; have := HQ.out.f.nb; omega), fin_low HL2.out _ _ _⟩
          · exact ret_es HLn.out
          · rw [HRp.out.2]; exact fin_has HZ2.out _ _ _
          · rw [← HLn.out, HRp.out.1]
            exact (own_mine (own_kept HOr.out (kept_store W5 (w.heap.size + 1) _ _ _) (fun j ej sj => by have := (HOr.out.lt j ej).1; have := HQ.out.f.nb; omega))).has
        · have hge : x.2 ≤ n - 2 := by omega
          have HGe := hid hge
          have dge : decide (n - 2 < x.2) = false := by simp; omega
          clear hgt hge
          have BA := hid (alloc_below wr (.cells #[.int .i64 x.1, .int .i64 x.2] 51))
          have HQ2 := hid (HQ.out.below BA.out)
          go_upto_region 8 with fail
          have AZ := hid (at_new wr x 51)
          generalize wr.heap.size = zb at AZ ⊢
          generalize wr.alloc (.cells #[.int .i64 x.1, .int .i64 x.2] 51) = wd at AZ HQ2 ⊢
          clear x0 x1 x2 xf c0 c1 BA hbw
          obtain ⟨v0, v1⟩ := AZ.out
          have HO := hid (own_below HQ2.out.out (alloc_below wd (.cells #[.int .i64 x.1] 3)))
          have HRw := hid (one_int wd x.1 3)
          have HBs : Hid (bx + 1 ≤ (wd.alloc (.cells #[.int .i64 x.1] 3)).heap.size) := Nat.le_trans HQ2.out.f.f.lt (alloc_below _ _).size
          go_wp2_with (at_builtin; go_loud (refine wpList_append_row _ rfl (.tmp 27) (.tmp 30) 30 3 _ 1 8 rfl Try.underlying30 infoN rfl (by decide) (by decide) (bx + 1) _ gn (vals ((l.take gn).map (fun a : W => a.1))) rfl HO.out _ 1 1 (vals [x.1]) rfl rfl (fun h => by cases h) HRw.out (vals_one _) (by omega) HBs.out ?_; intro ao3 cap3 w3 own3 grow3; apply Hid.out))
          have HQ3 := hid ((HQ2.out.below (alloc_below wd (.cells #[.int .i64 x.1] 3))).more (by have := HM.out; omega) HZ.out own3 grow3)
          clear own3 grow3 HO HRw HBs v0 v1 AZ
          unfold Hid
          go_wp2_with fail
          go_roundw
          case rel =>
            refine ⟨gn + 1, gn + 1, cap3, ao3, by omega, rfl, by go_num, fun j hj => ?_, HQ3⟩
            by_cases e1 : j = gn
            · subst e1; rw [HZ.out]; exact HGe.out
            · exact HGo.out j (by omega)
          case measure => simp [intOf]; omega
      · have HSt : Hid (gn = l.length ∨ n - 2 < (l.getD gn (0, 0)).2) := .inl (by have := HM.out; omega)
        have HRp := hid (HRs.out gn (by have := HM.out; omega) HGo.out HSt.out)
        obtain ⟨ao', HCt⟩ := cutW vo vn vc gn (by omega)
        have hrun := HCt.2.2
        have HD := hid HCt.1
        have HDb := hid HCt.2.1
        clear HCt
        have HQw := hid (HQ.out.below (Below.refl _ _))
        have cg : wr.cell? ⟨g, k, none⟩ = some (.slice vo vn vc) := HCg.out _ HQw.out.f.own
        have gf : wr.frozen? ⟨g, k, none⟩ = false := own_frozen HQw.out.f.own.l
        obtain ⟨v0, v1, v2, vf⟩ := HQw.out.f.f
        have k1 : (0 : Int) ≤ (gn : Int) := by omega
        have HPt := hid (put_has (x := ⟨ao', vn - gn, vc - gn⟩) (l := l.drop gn) (HQw.out.f.below (Below.refl _ _).drew) HKl.out rfl (HD.out _ l (own_wts (HOw.out _ (HQw.out.f.below (Below.refl _ _).drew).own))) (fun q eq => HNG.out q (HDb.out q eq)) hA.out)
        have HOr := hid (own_kept (own_below HQw.out.out (Below.refl _ _).drew) (kept_set (fun i => i = g) (wr).drew ⟨g, k, none⟩ (.slice ao' (vn - gn) (vc - gn)) rfl) (fun q eq s => by subst s; exact own_apart HQw.out.f.own.l HQw.out.out tneI2 rfl eq))
        go_upto_region 11 with fail
        go_region
        have e0 : (wr.setCell ⟨g, k, none⟩ (.slice ao' (vn - gn) (vc - gn))).drew = wr.drew.setCell ⟨g, k, none⟩ (.slice ao' (vn - gn) (vc - gn)) := rfl
        rw [e0]
        clear e0
        have hbox := HPt.out.2.1
        have hres := HPt.out.2.2.1
        have HL2 := hid HPt.out.1
        have HZ2 := hid HPt.out.2.2.2
        clear v0 v1 v2 vf cg gf hrun HPt x0 x1 x2 xf 
        change InE ((wr).drew.setCell ⟨g, k, none⟩ (.slice ao' (vn - gn) (vc - gn))) _ _ _ at hbox
        change InE ((wr).drew.setCell ⟨g, k, none⟩ (.slice ao' (vn - gn) (vc - gn))) _ _ _ at hres
        replace HL2 : Hid (Below w.heap.size w ((wr).drew.setCell ⟨g, k, none⟩ (.slice ao' (vn - gn) (vc - gn)))) := HL2
        replace HZ2 : Hid (HasE ((wr).drew.setCell ⟨g, k, none⟩ (.slice ao' (vn - gn) (vc - gn))) (fun i => Av i ∨ i = w.heap.size + 1) ⟨⟨zpo, zpn, zpc⟩, ⟨some ⟨g, 0, none⟩, zln, zlc⟩⟩ (setL e (k : Int) (l.drop gn))) := HZ2
        generalize (wr).drew.setCell ⟨g, k, none⟩ (.slice ao' (vn - gn) (vc - gn)) = W5 at HL2 HZ2 HOr hbox hres ⊢
        obtain ⟨v0, v1, v2, vf⟩ := hbox
        have hb2 : w.heap.size + 1 < W5.heap.size := hres.lt
        obtain ⟨z0, z1, z2, zf⟩ := hres
        have HLn : Hid (gn = (rpL e (k : Int)).length) := by rw [Hid, HRp.out.1, List.length_map, List.length_take]; have := HM.out; omega
        go_wp2_with fail
        try rw [Exit.noGoto_ret]
        refine bodyPost_ret (v := .tuple #[.agg #[.int .i64 n, .slice zpo zpn zpc, .slice (some ⟨g, 0, none⟩) zln zlc], .slice oo gn oc]) (by simp [results, Try.results23, go_sem, *]) rfl ⟨⟨⟨zpo, zpn, zpc⟩, ⟨some ⟨g, 0, none⟩, zln, zlc⟩⟩, oo, oc, ?_, ?_, ?_, own_off HOr.out (fun j s => by have := hA.out j s; have := HQ.out.f.nb; omega), fin_low HL2.out _ _ _⟩
        · exact ret_es HLn.out
        · rw [HRp.out.2]; exact fin_has HZ2.out _ _ _
        · rw [← HLn.out, HRp.out.1]
          exact (own_mine (own_kept HOr.out (kept_store W5 (w.heap.size + 1) _ _ _) (fun j ej sj => by have := (HOr.out.lt j ej).1; have := HQ.out.f.nb; omega))).has
end Go.Proofs.Ytejghoncihdfkaa.Ep
