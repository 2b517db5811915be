/- What the program's Pin, Unpin do. -/
import Derived.Test.YtejghoncihdfkaaEpW4
import Derived.Test.YtejghoncihdfkaaEpRPin
namespace Go.Proofs.Ytejghoncihdfkaa.Ep
open Go.RowKit

/-- Behind apart: the box of what was handed in, the answer's, and in the box bx the copy. -/
structure Fb (w W : World) (n : Int) (y : WE) (bx : Nat) (z : WE) (e : E) (hs : List Hd) : Prop where
  b : B2 w W n 0 y WE.zero
  f : InE W bx n z
  nb : w.heap.size + 2 ≤ bx
  own : OwnE W (w.heap.size + 2) z e hs
  pb : ∀ k, (Value.slice z.p.o z.p.n z.p.c).ownBlock = some k → k ≠ bx
  lb : ∀ k, (Value.slice z.l.o z.l.n z.l.c).ownBlock = some k → k ≠ bx
theorem tneP : (2 : TypeId) ≠ 51 := by decide
section
variable {w W W' : World} {n : Int} {y z : WE} {bx : Nat} {e : E} {hs : List Hd}
theorem Fb.below (h : Fb w W n y bx z e hs) (k : Below W.heap.size W W') : Fb w W' n y bx z e hs := ⟨h.b.below k, h.f.below k, h.nb, h.own.below k, h.pb, h.lb⟩
theorem fb_start {w1 : World} (hB : B2 w W n 0 y WE.zero) (hW : W.heap.size = w.heap.size + 2) (ho : OwnE w1 W.heap.size z e hs) (b : Below W.heap.size W w1) (T : TypeId) : Fb w (w1.alloc (.cells #[.int .i64 n, .slice z.p.o z.p.n z.p.c, .slice z.l.o z.l.n z.l.c] T)) n y w1.heap.size z e hs := by
  have s : W.heap.size ≤ w1.heap.size := b.size
  rw [hW] at ho s
  exact ⟨(hB.below b).below (alloc_below _ _), inE_new w1 n z T, s, ho.below (alloc_below _ _), fun k e => Nat.ne_of_lt (ho.p.lt k e).2, fun k e => Nat.ne_of_lt (ho.l.lt k e).2⟩
theorem size2 (w : World) (a b : Obj) : ((w.alloc a).alloc b).heap.size = w.heap.size + 2 := by simp
/-- The answer is the copy. -/
theorem Fb.has {Av : Nat → Prop} (h : Fb w W n y bx z e hs) (hA : ∀ i, Av i → i < w.heap.size) (u v x : Value) : HasE (((W.setCell ⟨w.heap.size + 1, 0, none⟩ u).setCell ⟨w.heap.size + 1, 1, none⟩ v).setCell ⟨w.heap.size + 1, 2, none⟩ x) Av z e :=
  fin_has (h.own.has (fun i s => by rcases s with s | s; (have := hA i s; omega); omega)) u v x
/-- Another pin. -/
theorem OwnE.pin {B g : Nat} (h : OwnE w B z e hs) (hg : z.p.o = some ⟨g, 0, none⟩) (c : Int) (t : Int) : OwnE (w.setCell ⟨g, c.toNat, none⟩ (.int .i64 t)) B z (setP e c t) hs := by
  have hb : (Value.slice z.p.o z.p.n z.p.c).ownBlock = some g := by rw [hg]; rfl
  have q : Kept (fun i => i = g) w (w.setCell ⟨g, c.toNat, none⟩ (.int .i64 t)) := kept_set _ w _ _ rfl
  refine ⟨?_, own_kept h.l q (fun i ei s => by subst s; exact own_apart h.p h.l tne0 hb ei), h.hl, fun i hi => own_kept (h.each i hi) q (fun j ej s => by subst s; exact own_apart h.p (h.each i hi) tneP hb ej), h.sep⟩
  show World.ownsRow _ B 2 1 _ _ (vals (e.pins.set c.toNat t))
  rw [← vals_set]
  obtain ⟨⟨po, pn, pc⟩, zl⟩ := z
  have e0 : po = some ⟨g, 0, none⟩ := hg
  subst e0
  exact own_setS (j := c.toNat) _ h.p
theorem Fb.pin {g : Nat} (h : Fb w W n y bx z e hs) (hg : z.p.o = some ⟨g, 0, none⟩) (c : Int) (t : Int) : Fb w (W.setCell ⟨g, c.toNat, none⟩ (.int .i64 t)) n y bx z (setP e c t) hs := by
  have hb : (Value.slice z.p.o z.p.n z.p.c).ownBlock = some g := by rw [hg]; rfl
  have hgB := (h.own.p.lt g hb).1
  have q : Kept (fun i => i = g) W (W.setCell ⟨g, c.toNat, none⟩ (.int .i64 t)) := kept_set _ W _ _ rfl
  exact ⟨⟨q_set h.b.low (by show w.heap.size ≤ g; omega) _, h.b.a.kept q (by omega), h.b.b.kept q (by omega)⟩, h.f.kept q (fun e => h.pb g hb e.symm), h.nb, h.own.pin hg c t, h.pb, h.lb⟩
end
set_option maxRecDepth 100000 in
set_option maxHeartbeats 2000000 in
theorem pin_any (y : WE) (e : E) (c : Int) (Av : Nat → Prop) (w : World) (hA : Hid (∀ i, Av i → i < w.heap.size)) (HS : Hid (Sm e)) (HE : Hid (HasE w Av y e)) :
    Calls Try.prog 25 #[(.agg #[.int .i64 e.now, .slice y.p.o y.p.n y.p.c, .slice y.l.o y.l.n y.l.c]), .int .i64 c] w fun r w' => ∃ z : WE, r = .returned (.tuple #[(.agg #[.int .i64 e.now, .slice z.p.o z.p.n z.p.c, .slice z.l.o z.l.n z.l.c]), .int .i64 (pinE e c)]) ∧ HasE w' Av z (pinA e c) ∧ Below w.heap.size w w' := by
  obtain ⟨⟨po, P, pc⟩, ⟨lo, L, lc⟩⟩ := y
  have HP : Hid (P = e.pins.length) := HE.out.pn
  have CA := hid (fun (W : World) (h : HasE W Av ⟨⟨po, P, pc⟩, ⟨lo, L, lc⟩⟩ e) => apart_any ⟨⟨po, P, pc⟩, ⟨lo, L, lc⟩⟩ e Av W HS h)
  cases hco : coB e c with
  | false =>
    have HR : Hid (pinA e c = e ∧ pinE e c = 2) := by
      have h2 : pinE e c = 2 := by unfold pinE; rw [hco]; rfl
      exact ⟨pin_same (by rw [h2]; decide), h2⟩
    have HI := hid (fun (W : World) (h : HasE W Av ⟨⟨po, P, pc⟩, ⟨lo, L, lc⟩⟩ e) => is_core HS.out h hco)
    clear hco
    generalize e.now = n at HI CA ⊢
    go_enter Try.func25, Try.ntmps25
    go_wp2_with fail
    have HB : Hid (B2 w ((w.alloc (.cells #[.int .i64 n, .slice po P pc, .slice lo L lc] 25)).alloc (.cells #[.int .i64 0, .slice none 0 0, .slice none 0 0] 25)) n 0 ⟨⟨po, P, pc⟩, ⟨lo, L, lc⟩⟩ WE.zero) := b2_start w n 0 ⟨⟨po, P, pc⟩, ⟨lo, L, lc⟩⟩ WE.zero 25
    refine (CA.out _ (HE.out.below HB.out.low)).mono ?_
    rintro r w1 ⟨z, rfl, ⟨hs, ho⟩, b1⟩
    have HF := hid (fb_start HB.out (size2 _ _ _) ho b1 25)
    clear ho b1 HB
    go_upto_region 2 with fail
    generalize w1.heap.size = bx at HF ⊢
    generalize w1.alloc (.cells #[.int .i64 n, .slice z.p.o z.p.n z.p.c, .slice z.l.o z.l.n z.l.c] 25) = W at HF ⊢
    clear w1
    obtain ⟨x0, x1, x2, xf⟩ := HF.out.b.a
    go_wp2_with fail
    refine (HI.out _ (HE.out.below HF.out.b.low)).mono ?_
    rintro r w2 ⟨rfl, b2⟩
    replace HF := hid (HF.out.below b2)
    clear b2 x0 x1 x2 xf
    obtain ⟨v0, v1, v2, vf⟩ := HF.out.f
    obtain ⟨z0, z1, z2, zf⟩ := HF.out.b.b
    have hb2 : w.heap.size + 1 < w2.heap.size := HF.out.b.b.lt
    go_wp2_with fail
    refine bodyPost_ret (v := .tuple #[(.agg #[.int .i64 n, .slice z.p.o z.p.n z.p.c, .slice z.l.o z.l.n z.l.c]), .int .i64 2]) (by simp [results, Try.results25, go_sem, *]) rfl ⟨z, ret_ep HR.out.2.symm, ?_, fin_low HF.out.b.low _ _ _⟩
    rw [HR.out.1]
    exact HF.out.has hA.out _ _ _
  | true =>
    obtain ⟨hok, c0, c1⟩ := co_iff.1 hco
    have n1 : 1 ≤ e.now := hok.now1
    have n2 : e.now ≤ 1099511627776 := hok.now2
    obtain ⟨k, rfl⟩ : ∃ k : Nat, c = (k : Int) := ⟨c.toNat, by omega⟩
    have hk : k < P := by have := HP.out; omega
    have i1 : (0 : Int) ≤ (k : Int) := by omega
    have i2 : (k : Int) < (P : Int) := by omega
    have HI := hid (fun (W : World) (h : HasE W Av ⟨⟨po, P, pc⟩, ⟨lo, L, lc⟩⟩ e) => is_core HS.out h hco)
    have HPi := hid (fun (W : World) (h : HasE W Av ⟨⟨po, P, pc⟩, ⟨lo, L, lc⟩⟩ e) => h.pin k (by have := HP.out; omega))
    obtain ⟨q, hq⟩ : ∃ q, e.pins.getD k 0 = q := ⟨_, rfl⟩
    have HQ : Hid (pinOf e (k : Int) = q) := by unfold Hid pinOf; simpa using hq
    rw [hq] at HPi
    clear hq
    by_cases hq0 : q = 0
    · have d := bne_no hq0
      have d2 := beq_yes hq0
      have h0 : pinE e (k : Int) = 0 := pinE_zero.2 ⟨hco, by rw [HQ.out]; exact hq0⟩
      have HR : Hid (pinA e (k : Int) = setP e (k : Int) (e.now + 1) ∧ pinE e (k : Int) = 0) := ⟨by unfold pinA; rw [if_pos h0], h0⟩
      clear hco hq0 h0 hok
      generalize e.now = n at HI CA HR n1 n2 ⊢
      go_enter Try.func25, Try.ntmps25
      go_wp2_with fail
      have HB : Hid (B2 w ((w.alloc (.cells #[.int .i64 n, .slice po P pc, .slice lo L lc] 25)).alloc (.cells #[.int .i64 0, .slice none 0 0, .slice none 0 0] 25)) n 0 ⟨⟨po, P, pc⟩, ⟨lo, L, lc⟩⟩ WE.zero) := b2_start w n 0 ⟨⟨po, P, pc⟩, ⟨lo, L, lc⟩⟩ WE.zero 25
      refine (CA.out _ (HE.out.below HB.out.low)).mono ?_
      rintro r w1 ⟨z, rfl, ⟨hs, ho⟩, b1⟩
      have HF := hid (fb_start HB.out (size2 _ _ _) ho b1 25)
      clear ho b1 HB
      go_upto_region 2 with fail
      generalize w1.heap.size = bx at HF ⊢
      generalize w1.alloc (.cells #[.int .i64 n, .slice z.p.o z.p.n z.p.c, .slice z.l.o z.l.n z.l.c] 25) = W at HF ⊢
      clear w1
      obtain ⟨x0, x1, x2, xf⟩ := HF.out.b.a
      go_wp2_with fail
      refine (HI.out _ (HE.out.below HF.out.b.low)).mono ?_
      rintro r w2 ⟨rfl, b2⟩
      replace HF := hid (HF.out.below b2)
      clear b2 x0 x1 x2 xf
      obtain ⟨x0, x1, x2, xf⟩ := HF.out.b.a
      obtain ⟨a, ea, ca⟩ := HPi.out _ (HE.out.below HF.out.b.low)
      obtain rfl : po = some a := ea
      obtain ⟨⟨zpo, zpn, zpc⟩, ⟨zlo, zln, zlc⟩⟩ := z
      have hpn : zpn = P := by rw [HP.out]; exact HF.out.own.pn
      subst hpn
      obtain ⟨g, eg, hg, hg2⟩ := own_head HF.out.own.p (by show 0 < zpn; omega)
      have eg : zpo = some ⟨g, 0, none⟩ := eg
      subst eg
      obtain ⟨_, e2, cg⟩ := (own_row HF.out.own.p).1.cell k _ (vals_at e.pins k (by have := HP.out; omega))
      cases e2
      rw [add0] at cg
      have gf : w2.frozen? ⟨g, k, none⟩ = false := own_frozen HF.out.own.p
      obtain ⟨v0, v1, v2, vf⟩ := HF.out.f
      go_upto_region 7 with fail
      replace HF := hid (HF.out.pin rfl (k : Int) (n + 1))
      rw [Int.toNat_natCast] at HF
      clear cg gf ca x0 x1 x2 xf v0 v1 v2 vf hg2
      generalize w2.setCell ⟨g, k, none⟩ (.int .i64 (n + 1)) = W2 at HF ⊢
      clear w2
      obtain ⟨v0, v1, v2, vf⟩ := HF.out.f
      obtain ⟨z0, z1, z2, zf⟩ := HF.out.b.b
      have hb2 : w.heap.size + 1 < W2.heap.size := HF.out.b.b.lt
      go_wp2_with fail
      refine bodyPost_ret (v := .tuple #[.agg #[.int .i64 n, .slice (some ⟨g, 0, none⟩) zpn zpc, .slice zlo zln zlc], .int .i64 0]) (by simp [results, Try.results25, go_sem, *]) rfl ⟨⟨⟨some ⟨g, 0, none⟩, zpn, zpc⟩, ⟨zlo, zln, zlc⟩⟩, ret_ep HR.out.2.symm, ?_, fin_low HF.out.b.low _ _ _⟩
      rw [HR.out.1]
      exact HF.out.has hA.out _ _ _
    · have d := bne_yes hq0
      have d2 := beq_no hq0
      have h2 : pinE e (k : Int) = 8 := by unfold pinE; rw [hco, HQ.out]; simp [hq0]
      have HR : Hid (pinA e (k : Int) = e ∧ pinE e (k : Int) = 8) := ⟨pin_same (by rw [h2]; decide), h2⟩
      clear hco hq0 h2 hok
      generalize e.now = n at HI CA n1 n2 ⊢
      go_enter Try.func25, Try.ntmps25
      go_wp2_with fail
      have HB : Hid (B2 w ((w.alloc (.cells #[.int .i64 n, .slice po P pc, .slice lo L lc] 25)).alloc (.cells #[.int .i64 0, .slice none 0 0, .slice none 0 0] 25)) n 0 ⟨⟨po, P, pc⟩, ⟨lo, L, lc⟩⟩ WE.zero) := b2_start w n 0 ⟨⟨po, P, pc⟩, ⟨lo, L, lc⟩⟩ WE.zero 25
      refine (CA.out _ (HE.out.below HB.out.low)).mono ?_
      rintro r w1 ⟨z, rfl, ⟨hs, ho⟩, b1⟩
      have HF := hid (fb_start HB.out (size2 _ _ _) ho b1 25)
      clear ho b1 HB
      go_upto_region 2 with fail
      generalize w1.heap.size = bx at HF ⊢
      generalize w1.alloc (.cells #[.int .i64 n, .slice z.p.o z.p.n z.p.c, .slice z.l.o z.l.n z.l.c] 25) = W at HF ⊢
      clear w1
      obtain ⟨x0, x1, x2, xf⟩ := HF.out.b.a
      go_wp2_with fail
      refine (HI.out _ (HE.out.below HF.out.b.low)).mono ?_
      rintro r w2 ⟨rfl, b2⟩
      replace HF := hid (HF.out.below b2)
      clear b2 x0 x1 x2 xf
      obtain ⟨x0, x1, x2, xf⟩ := HF.out.b.a
      obtain ⟨v0, v1, v2, vf⟩ := HF.out.f
      obtain ⟨z0, z1, z2, zf⟩ := HF.out.b.b
      have hb2 : w.heap.size + 1 < w2.heap.size := HF.out.b.b.lt
      obtain ⟨a, ea, ca⟩ := HPi.out _ (HE.out.below HF.out.b.low)
      obtain rfl : po = some a := ea
      go_wp2_with fail
      refine bodyPost_ret (v := .tuple #[(.agg #[.int .i64 n, .slice z.p.o z.p.n z.p.c, .slice z.l.o z.l.n z.l.c]), .int .i64 8]) (by simp [results, Try.results25, go_sem, *]) rfl ⟨z, ret_ep HR.out.2.symm, ?_, fin_low HF.out.b.low _ _ _⟩
      rw [HR.out.1]
      exact HF.out.has hA.out _ _ _
set_option maxRecDepth 100000 in
set_option maxHeartbeats 2000000 in
theorem unpin_any (y : WE) (e : E) (c : Int) (Av : Nat → Prop) (w : World) (hA : Hid (∀ i, Av i → i < w.heap.size)) (HS : Hid (Sm e)) (HE : Hid (HasE w Av y e)) :
    Calls Try.prog 21 #[(.agg #[.int .i64 e.now, .slice y.p.o y.p.n y.p.c, .slice y.l.o y.l.n y.l.c]), .int .i64 c] w fun r w' => ∃ z : WE, r = .returned (.tuple #[(.agg #[.int .i64 e.now, .slice z.p.o z.p.n z.p.c, .slice z.l.o z.l.n z.l.c]), .int .i64 (unE e c)]) ∧ HasE w' Av z (unA e c) ∧ Below w.heap.size w w' := by
  obtain ⟨⟨po, P, pc⟩, ⟨lo, L, lc⟩⟩ := y
  have HP : Hid (P = e.pins.length) := HE.out.pn
  have CA := hid (fun (W : World) (h : HasE W Av ⟨⟨po, P, pc⟩, ⟨lo, L, lc⟩⟩ e) => apart_any ⟨⟨po, P, pc⟩, ⟨lo, L, lc⟩⟩ e Av W HS h)
  cases hco : coB e c with
  | false =>
    have HR : Hid (unA e c = e ∧ unE e c = 2) := by
      have h2 : unE e c = 2 := by unfold unE; rw [hco]; rfl
      exact ⟨un_same (by rw [h2]; decide), h2⟩
    have HI := hid (fun (W : World) (h : HasE W Av ⟨⟨po, P, pc⟩, ⟨lo, L, lc⟩⟩ e) => is_core HS.out h hco)
    clear hco
    generalize e.now = n at HI CA ⊢
    go_enter Try.func21, Try.ntmps21
    go_wp2_with fail
    have HB : Hid (B2 w ((w.alloc (.cells #[.int .i64 n, .slice po P pc, .slice lo L lc] 25)).alloc (.cells #[.int .i64 0, .slice none 0 0, .slice none 0 0] 25)) n 0 ⟨⟨po, P, pc⟩, ⟨lo, L, lc⟩⟩ WE.zero) := b2_start w n 0 ⟨⟨po, P, pc⟩, ⟨lo, L, lc⟩⟩ WE.zero 25
    refine (CA.out _ (HE.out.below HB.out.low)).mono ?_
    rintro r w1 ⟨z, rfl, ⟨hs, ho⟩, b1⟩
    have HF := hid (fb_start HB.out (size2 _ _ _) ho b1 25)
    clear ho b1 HB
    go_upto_region 2 with fail
    generalize w1.heap.size = bx at HF ⊢
    generalize w1.alloc (.cells #[.int .i64 n, .slice z.p.o z.p.n z.p.c, .slice z.l.o z.l.n z.l.c] 25) = W at HF ⊢
    clear w1
    obtain ⟨x0, x1, x2, xf⟩ := HF.out.b.a
    go_wp2_with fail
    refine (HI.out _ (HE.out.below HF.out.b.low)).mono ?_
    rintro r w2 ⟨rfl, b2⟩
    replace HF := hid (HF.out.below b2)
    clear b2 x0 x1 x2 xf
    obtain ⟨v0, v1, v2, vf⟩ := HF.out.f
    obtain ⟨z0, z1, z2, zf⟩ := HF.out.b.b
    have hb2 : w.heap.size + 1 < w2.heap.size := HF.out.b.b.lt
    go_wp2_with fail
    refine bodyPost_ret (v := .tuple #[(.agg #[.int .i64 n, .slice z.p.o z.p.n z.p.c, .slice z.l.o z.l.n z.l.c]), .int .i64 2]) (by simp [results, Try.results21, go_sem, *]) rfl ⟨z, ret_ep HR.out.2.symm, ?_, fin_low HF.out.b.low _ _ _⟩
    rw [HR.out.1]
    exact HF.out.has hA.out _ _ _
  | true =>
    obtain ⟨hok, c0, c1⟩ := co_iff.1 hco
    have n1 : 1 ≤ e.now := hok.now1
    have n2 : e.now ≤ 1099511627776 := hok.now2
    obtain ⟨k, rfl⟩ : ∃ k : Nat, c = (k : Int) := ⟨c.toNat, by omega⟩
    have hk : k < P := by have := HP.out; omega
    have i1 : (0 : Int) ≤ (k : Int) := by omega
    have i2 : (k : Int) < (P : Int) := by omega
    have HI := hid (fun (W : World) (h : HasE W Av ⟨⟨po, P, pc⟩, ⟨lo, L, lc⟩⟩ e) => is_core HS.out h hco)
    have HPi := hid (fun (W : World) (h : HasE W Av ⟨⟨po, P, pc⟩, ⟨lo, L, lc⟩⟩ e) => h.pin k (by have := HP.out; omega))
    obtain ⟨q, hq⟩ : ∃ q, e.pins.getD k 0 = q := ⟨_, rfl⟩
    have HQ : Hid (pinOf e (k : Int) = q) := by unfold Hid pinOf; simpa using hq
    rw [hq] at HPi
    clear hq
    by_cases hq0 : q = 0
    · have d := bne_no hq0
      have d2 := beq_yes hq0
      have h2 : unE e (k : Int) = 7 := by unfold unE; rw [hco, HQ.out]; simp [hq0]
      have HR : Hid (unA e (k : Int) = e ∧ unE e (k : Int) = 7) := ⟨un_same (by rw [h2]; decide), h2⟩
      clear hco hq0 h2 hok
      generalize e.now = n at HI CA n1 n2 ⊢
      go_enter Try.func21, Try.ntmps21
      go_wp2_with fail
      have HB : Hid (B2 w ((w.alloc (.cells #[.int .i64 n, .slice po P pc, .slice lo L lc] 25)).alloc (.cells #[.int .i64 0, .slice none 0 0, .slice none 0 0] 25)) n 0 ⟨⟨po, P, pc⟩, ⟨lo, L, lc⟩⟩ WE.zero) := b2_start w n 0 ⟨⟨po, P, pc⟩, ⟨lo, L, lc⟩⟩ WE.zero 25
      refine (CA.out _ (HE.out.below HB.out.low)).mono ?_
      rintro r w1 ⟨z, rfl, ⟨hs, ho⟩, b1⟩
      have HF := hid (fb_start HB.out (size2 _ _ _) ho b1 25)
      clear ho b1 HB
      go_upto_region 2 with fail
      generalize w1.heap.size = bx at HF ⊢
      generalize w1.alloc (.cells #[.int .i64 n, .slice z.p.o z.p.n z.p.c, .slice z.l.o z.l.n z.l.c] 25) = W at HF ⊢
      clear w1
      obtain ⟨x0, x1, x2, xf⟩ := HF.out.b.a
      go_wp2_with fail
      refine (HI.out _ (HE.out.below HF.out.b.low)).mono ?_
      rintro r w2 ⟨rfl, b2⟩
      replace HF := hid (HF.out.below b2)
      clear b2 x0 x1 x2 xf
      obtain ⟨x0, x1, x2, xf⟩ := HF.out.b.a
      obtain ⟨v0, v1, v2, vf⟩ := HF.out.f
      obtain ⟨z0, z1, z2, zf⟩ := HF.out.b.b
      have hb2 : w.heap.size + 1 < w2.heap.size := HF.out.b.b.lt
      obtain ⟨a, ea, ca⟩ := HPi.out _ (HE.out.below HF.out.b.low)
      obtain rfl : po = some a := ea
      go_wp2_with fail
      refine bodyPost_ret (v := .tuple #[(.agg #[.int .i64 n, .slice z.p.o z.p.n z.p.c, .slice z.l.o z.l.n z.l.c]), .int .i64 7]) (by simp [results, Try.results21, go_sem, *]) rfl ⟨z, ret_ep HR.out.2.symm, ?_, fin_low HF.out.b.low _ _ _⟩
      rw [HR.out.1]
      exact HF.out.has hA.out _ _ _
    · have d := bne_yes hq0
      have d2 := beq_no hq0
      have h0 : unE e (k : Int) = 0 := unE_zero.2 ⟨hco, by rw [HQ.out]; exact hq0⟩
      have HR : Hid (unA e (k : Int) = setP e (k : Int) (0) ∧ unE e (k : Int) = 0) := ⟨by unfold unA; rw [if_pos h0], h0⟩
      clear hco hq0 h0 hok
      generalize e.now = n at HI CA HR n1 n2 ⊢
      go_enter Try.func21, Try.ntmps21
      go_wp2_with fail
      have HB : Hid (B2 w ((w.alloc (.cells #[.int .i64 n, .slice po P pc, .slice lo L lc] 25)).alloc (.cells #[.int .i64 0, .slice none 0 0, .slice none 0 0] 25)) n 0 ⟨⟨po, P, pc⟩, ⟨lo, L, lc⟩⟩ WE.zero) := b2_start w n 0 ⟨⟨po, P, pc⟩, ⟨lo, L, lc⟩⟩ WE.zero 25
      refine (CA.out _ (HE.out.below HB.out.low)).mono ?_
      rintro r w1 ⟨z, rfl, ⟨hs, ho⟩, b1⟩
      have HF := hid (fb_start HB.out (size2 _ _ _) ho b1 25)
      clear ho b1 HB
      go_upto_region 2 with fail
      generalize w1.heap.size = bx at HF ⊢
      generalize w1.alloc (.cells #[.int .i64 n, .slice z.p.o z.p.n z.p.c, .slice z.l.o z.l.n z.l.c] 25) = W at HF ⊢
      clear w1
      obtain ⟨x0, x1, x2, xf⟩ := HF.out.b.a
      go_wp2_with fail
      refine (HI.out _ (HE.out.below HF.out.b.low)).mono ?_
      rintro r w2 ⟨rfl, b2⟩
      replace HF := hid (HF.out.below b2)
      clear b2 x0 x1 x2 xf
      obtain ⟨x0, x1, x2, xf⟩ := HF.out.b.a
      obtain ⟨a, ea, ca⟩ := HPi.out _ (HE.out.below HF.out.b.low)
      obtain rfl : po = some a := ea
      obtain ⟨⟨zpo, zpn, zpc⟩, ⟨zlo, zln, zlc⟩⟩ := z
      have hpn : zpn = P := by rw [HP.out]; exact HF.out.own.pn
      subst hpn
      obtain ⟨g, eg, hg, hg2⟩ := own_head HF.out.own.p (by show 0 < zpn; omega)
      have eg : zpo = some ⟨g, 0, none⟩ := eg
      subst eg
      obtain ⟨_, e2, cg⟩ := (own_row HF.out.own.p).1.cell k _ (vals_at e.pins k (by have := HP.out; omega))
      cases e2
      rw [add0] at cg
      have gf : w2.frozen? ⟨g, k, none⟩ = false := own_frozen HF.out.own.p
      obtain ⟨v0, v1, v2, vf⟩ := HF.out.f
      go_upto_region 7 with fail
      replace HF := hid (HF.out.pin rfl (k : Int) (0))
      rw [Int.toNat_natCast] at HF
      clear cg gf ca x0 x1 x2 xf v0 v1 v2 vf hg2
      generalize w2.setCell ⟨g, k, none⟩ (.int .i64 (0)) = W2 at HF ⊢
      clear w2
      obtain ⟨v0, v1, v2, vf⟩ := HF.out.f
      obtain ⟨z0, z1, z2, zf⟩ := HF.out.b.b
      have hb2 : w.heap.size + 1 < W2.heap.size := HF.out.b.b.lt
      go_wp2_with fail
      refine bodyPost_ret (v := .tuple #[.agg #[.int .i64 n, .slice (some ⟨g, 0, none⟩) zpn zpc, .slice zlo zln zlc], .int .i64 0]) (by simp [results, Try.results21, go_sem, *]) rfl ⟨⟨⟨some ⟨g, 0, none⟩, zpn, zpc⟩, ⟨zlo, zln, zlc⟩⟩, ret_ep HR.out.2.symm, ?_, fin_low HF.out.b.low _ _ _⟩
      rw [HR.out.1]
      exact HF.out.has hA.out _ _ _
end Go.Proofs.Ytejghoncihdfkaa.Ep
