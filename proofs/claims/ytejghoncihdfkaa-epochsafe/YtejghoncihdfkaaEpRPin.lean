/- What the document's Pin, Unpin do. -/
import Derived.Test.YtejghoncihdfkaaEpRSet
namespace Go.Proofs.Ytejghoncihdfkaa.Ep
open Go.RowKit

/-- Epochs apart from the result's box: they are as they were when it is written. -/
theorem fin_has {w W : World} {Av : Nat → Prop} {z : WE} {f : E} (h : HasE W (fun i => Av i ∨ i = w.heap.size + 1) z f) (u v x : Value) : HasE (((W.setCell ⟨w.heap.size + 1, 0, none⟩ u).setCell ⟨w.heap.size + 1, 1, none⟩ v).setCell ⟨w.heap.size + 1, 2, none⟩ x) Av z f :=
  (h.kept (kept_store W _ u v x) (fun _ s => .inr s)).less (fun _ s => .inl s)
theorem fin_low {w W : World} (h : Below w.heap.size w W) (u v x : Value) : Below w.heap.size w (((W.setCell ⟨w.heap.size + 1, 0, none⟩ u).setCell ⟨w.heap.size + 1, 1, none⟩ v).setCell ⟨w.heap.size + 1, 2, none⟩ x) :=
  q_set (q_set (q_set h (Nat.le_succ _) _) (Nat.le_succ _) _) (Nat.le_succ _) _
/-- What is handed in lies apart from the boxes. -/
theorem arg_has {w W : World} {Av : Nat → Prop} {y : WE} {e : E} (h : HasE w Av y e) (hb : Below w.heap.size w W) : HasE W (fun i => Av i ∨ i = w.heap.size + 1) y e :=
  (h.new.less (fun i s => by rcases s with s | s; exact .inl s; exact .inr (by omega))).below hb
theorem arg_lt {w W : World} {Av : Nat → Prop} (hA : ∀ i, Av i → i < w.heap.size) (hb : w.heap.size + 1 < W.heap.size) : ∀ i, (Av i ∨ i = w.heap.size + 1) → i < W.heap.size := by
  intro i s
  rcases s with s | s
  · have := hA i s; omega
  · omega
theorem ret_ep {v : Value} {a b : Int} (h : a = b) : Ending.returned (.tuple #[v, .int .i64 a]) = .returned (.tuple #[v, .int .i64 b]) := by rw [h]
set_option maxRecDepth 100000 in
set_option maxHeartbeats 2000000 in
theorem rPin_any (y : WE) (e : E) (c : Int) (Av : Nat → Prop) (w : World) (hA : Hid (∀ i, Av i → i < w.heap.size)) (HS : Hid (Sm e)) (HE : Hid (HasE w Av y e)) :
    Calls Try.prog 26 #[(.agg #[.int .i64 e.now, .slice y.p.o y.p.n y.p.c, .slice y.l.o y.l.n y.l.c]), .int .i64 c] w fun r w' => ∃ z : WE, r = .returned (.tuple #[(.agg #[.int .i64 e.now, .slice z.p.o z.p.n z.p.c, .slice z.l.o z.l.n z.l.c]), .int .i64 (pinE e c)]) ∧ HasE w' Av z (pinA e c) ∧ Below w.heap.size w w' := by
  obtain ⟨⟨po, P, pc⟩, ⟨lo, L, lc⟩⟩ := y
  have HP : Hid (P = e.pins.length) := HE.out.pn
  cases hco : coB e c with
  | false =>
    have HR : Hid (pinA e c = e ∧ pinE e c = 2) := by
      have h2 : pinE e c = 2 := by unfold pinE; rw [hco]; rfl
      exact ⟨pin_same (by rw [h2]; decide), h2⟩
    have HI := hid (fun (W : World) (h : HasE W Av ⟨⟨po, P, pc⟩, ⟨lo, L, lc⟩⟩ e) => is_rcore HS.out h hco)
    clear hco
    generalize e.now = n at HI ⊢
    go_enter Try.func26, Try.ntmps26
    go_wp2_with fail
    have HB : Hid (B2 w ((w.alloc (.cells #[.int .i64 n, .slice po P pc, .slice lo L lc] 25)).alloc (.cells #[.int .i64 0, .slice none 0 0, .slice none 0 0] 25)) n 0 ⟨⟨po, P, pc⟩, ⟨lo, L, lc⟩⟩ WE.zero) := b2_start w n 0 ⟨⟨po, P, pc⟩, ⟨lo, L, lc⟩⟩ WE.zero 25
    refine (HI.out _ (HE.out.below HB.out.low)).mono ?_
    rintro r w1 ⟨rfl, b1⟩
    replace HB := hid (HB.out.below b1)
    clear b1
    obtain ⟨x0, x1, x2, xf⟩ := HB.out.a
    obtain ⟨z0, z1, z2, zf⟩ := HB.out.b
    have hb1 : w.heap.size < w1.heap.size := HB.out.a.lt
    have hb2 : w.heap.size + 1 < w1.heap.size := HB.out.b.lt
    go_wp2_with fail
    refine bodyPost_ret (v := .tuple #[.agg #[.int .i64 n, .slice po P pc, .slice lo L lc], .int .i64 2]) (by simp [results, Try.results26, go_sem, *]) rfl ⟨⟨⟨po, P, pc⟩, ⟨lo, L, lc⟩⟩, ret_ep HR.out.2.symm, ?_, fin_low HB.out.low _ _ _⟩
    rw [HR.out.1]
    exact fin_has (arg_has HE.out HB.out.low) _ _ _
  | true =>
    obtain ⟨hok, c0, c1⟩ := co_iff.1 hco
    have n1 : 1 ≤ e.now := hok.now1
    have n2 : e.now ≤ 1099511627776 := hok.now2
    obtain ⟨k, rfl⟩ : ∃ k : Nat, c = (k : Int) := ⟨c.toNat, by omega⟩
    have hk : k < P := by have := HP.out; omega
    have i1 : (0 : Int) ≤ (k : Int) := by omega
    have i2 : (k : Int) < (P : Int) := by omega
    have HI := hid (fun (W : World) (h : HasE W Av ⟨⟨po, P, pc⟩, ⟨lo, L, lc⟩⟩ e) => is_rcore HS.out h hco)
    have HPi := hid (fun (W : World) (h : HasE W Av ⟨⟨po, P, pc⟩, ⟨lo, L, lc⟩⟩ e) => h.pin k (by have := HP.out; omega))
    obtain ⟨q, hq⟩ : ∃ q, e.pins.getD k 0 = q := ⟨_, rfl⟩
    have HQ : Hid (pinOf e (k : Int) = q) := by unfold Hid pinOf; simpa using hq
    rw [hq] at HPi
    clear hq
    by_cases hq0 : q = 0
    · have d := bne_no hq0
      have h0 : pinE e (k : Int) = 0 := pinE_zero.2 ⟨hco, by rw [HQ.out]; exact hq0⟩
      have HR : Hid (pinA e (k : Int) = setP e (k : Int) (e.now + 1) ∧ pinE e (k : Int) = 0) := ⟨by unfold pinA; rw [if_pos h0], h0⟩
      have HPin := hid (fun (W : World) (Av' : Nat → Prop) (hA' : ∀ i, Av' i → i < W.heap.size) (h : HasE W Av' ⟨⟨po, P, pc⟩, ⟨lo, L, lc⟩⟩ e) => rpin_any po lo P L pc lc k e (e.now + 1) Av' W hA' HS h hk)
      clear hco hq0 h0 hok
      generalize e.now = n at HI HR HPin n1 n2 ⊢
      go_enter Try.func26, Try.ntmps26
      go_wp2_with fail
      have HB : Hid (B2 w ((w.alloc (.cells #[.int .i64 n, .slice po P pc, .slice lo L lc] 25)).alloc (.cells #[.int .i64 0, .slice none 0 0, .slice none 0 0] 25)) n 0 ⟨⟨po, P, pc⟩, ⟨lo, L, lc⟩⟩ WE.zero) := b2_start w n 0 ⟨⟨po, P, pc⟩, ⟨lo, L, lc⟩⟩ WE.zero 25
      refine (HI.out _ (HE.out.below HB.out.low)).mono ?_
      rintro r w1 ⟨rfl, b1⟩
      replace HB := hid (HB.out.below b1)
      clear b1
      obtain ⟨x0, x1, x2, xf⟩ := HB.out.a
      obtain ⟨z0, z1, z2, zf⟩ := HB.out.b
      have hb1 : w.heap.size < w1.heap.size := HB.out.a.lt
      have hb2 : w.heap.size + 1 < w1.heap.size := HB.out.b.lt
      obtain ⟨a, ea, ca⟩ := HPi.out _ (HE.out.below HB.out.low)
      obtain rfl : po = some a := ea
      go_wp2_with fail
      refine (HPin.out _ _ (arg_lt hA.out hb2) (arg_has HE.out HB.out.low)).mono ?_
      rintro r w2 ⟨z, rfl, hz, b2⟩
      have HZ := hid hz
      replace HB := hid (HB.out.below b2)
      clear b2 hz x0 x1 x2 xf z0 z1 z2 zf ca hb1 hb2
      obtain ⟨x0, x1, x2, xf⟩ := HB.out.a
      obtain ⟨z0, z1, z2, zf⟩ := HB.out.b
      have hb1 : w.heap.size < w2.heap.size := HB.out.a.lt
      have hb2 : w.heap.size + 1 < w2.heap.size := HB.out.b.lt
      go_wp2_with fail
      refine bodyPost_ret (v := .tuple #[(.agg #[.int .i64 n, .slice z.p.o z.p.n z.p.c, .slice z.l.o z.l.n z.l.c]), .int .i64 0]) (by simp [results, Try.results26, go_sem, *]) rfl ⟨z, ret_ep HR.out.2.symm, ?_, fin_low HB.out.low _ _ _⟩
      rw [HR.out.1]
      exact fin_has HZ.out _ _ _
    · have d := bne_yes hq0
      have h2 : pinE e (k : Int) = 8 := by unfold pinE; rw [hco, HQ.out]; simp [hq0]
      have HR : Hid (pinA e (k : Int) = e ∧ pinE e (k : Int) = 8) := ⟨pin_same (by rw [h2]; decide), h2⟩
      clear hco hq0 h2 hok
      generalize e.now = n at HI n1 n2 ⊢
      go_enter Try.func26, Try.ntmps26
      go_wp2_with fail
      have HB : Hid (B2 w ((w.alloc (.cells #[.int .i64 n, .slice po P pc, .slice lo L lc] 25)).alloc (.cells #[.int .i64 0, .slice none 0 0, .slice none 0 0] 25)) n 0 ⟨⟨po, P, pc⟩, ⟨lo, L, lc⟩⟩ WE.zero) := b2_start w n 0 ⟨⟨po, P, pc⟩, ⟨lo, L, lc⟩⟩ WE.zero 25
      refine (HI.out _ (HE.out.below HB.out.low)).mono ?_
      rintro r w1 ⟨rfl, b1⟩
      replace HB := hid (HB.out.below b1)
      clear b1
      obtain ⟨x0, x1, x2, xf⟩ := HB.out.a
      obtain ⟨z0, z1, z2, zf⟩ := HB.out.b
      have hb1 : w.heap.size < w1.heap.size := HB.out.a.lt
      have hb2 : w.heap.size + 1 < w1.heap.size := HB.out.b.lt
      obtain ⟨a, ea, ca⟩ := HPi.out _ (HE.out.below HB.out.low)
      obtain rfl : po = some a := ea
      go_wp2_with fail
      refine bodyPost_ret (v := .tuple #[.agg #[.int .i64 n, .slice (some a) P pc, .slice lo L lc], .int .i64 8]) (by simp [results, Try.results26, go_sem, *]) rfl ⟨⟨⟨some a, P, pc⟩, ⟨lo, L, lc⟩⟩, ret_ep HR.out.2.symm, ?_, fin_low HB.out.low _ _ _⟩
      rw [HR.out.1]
      exact fin_has (arg_has HE.out HB.out.low) _ _ _
set_option maxRecDepth 100000 in
set_option maxHeartbeats 2000000 in
theorem rUnpin_any (y : WE) (e : E) (c : Int) (Av : Nat → Prop) (w : World) (hA : Hid (∀ i, Av i → i < w.heap.size)) (HS : Hid (Sm e)) (HE : Hid (HasE w Av y e)) :
    Calls Try.prog 27 #[(.agg #[.int .i64 e.now, .slice y.p.o y.p.n y.p.c, .slice y.l.o y.l.n y.l.c]), .int .i64 c] w fun r w' => ∃ z : WE, r = .returned (.tuple #[(.agg #[.int .i64 e.now, .slice z.p.o z.p.n z.p.c, .slice z.l.o z.l.n z.l.c]), .int .i64 (unE e c)]) ∧ HasE w' Av z (unA e c) ∧ Below w.heap.size w w' := by
  obtain ⟨⟨po, P, pc⟩, ⟨lo, L, lc⟩⟩ := y
  have HP : Hid (P = e.pins.length) := HE.out.pn
  cases hco : coB e c with
  | false =>
    have HR : Hid (unA e c = e ∧ unE e c = 2) := by
      have h2 : unE e c = 2 := by unfold unE; rw [hco]; rfl
      exact ⟨un_same (by rw [h2]; decide), h2⟩
    have HI := hid (fun (W : World) (h : HasE W Av ⟨⟨po, P, pc⟩, ⟨lo, L, lc⟩⟩ e) => is_rcore HS.out h hco)
    clear hco
    generalize e.now = n at HI ⊢
    go_enter Try.func27, Try.ntmps27
    go_wp2_with fail
    have HB : Hid (B2 w ((w.alloc (.cells #[.int .i64 n, .slice po P pc, .slice lo L lc] 25)).alloc (.cells #[.int .i64 0, .slice none 0 0, .slice none 0 0] 25)) n 0 ⟨⟨po, P, pc⟩, ⟨lo, L, lc⟩⟩ WE.zero) := b2_start w n 0 ⟨⟨po, P, pc⟩, ⟨lo, L, lc⟩⟩ WE.zero 25
    refine (HI.out _ (HE.out.below HB.out.low)).mono ?_
    rintro r w1 ⟨rfl, b1⟩
    replace HB := hid (HB.out.below b1)
    clear b1
    obtain ⟨x0, x1, x2, xf⟩ := HB.out.a
    obtain ⟨z0, z1, z2, zf⟩ := HB.out.b
    have hb1 : w.heap.size < w1.heap.size := HB.out.a.lt
    have hb2 : w.heap.size + 1 < w1.heap.size := HB.out.b.lt
    go_wp2_with fail
    refine bodyPost_ret (v := .tuple #[.agg #[.int .i64 n, .slice po P pc, .slice lo L lc], .int .i64 2]) (by simp [results, Try.results27, go_sem, *]) rfl ⟨⟨⟨po, P, pc⟩, ⟨lo, L, lc⟩⟩, ret_ep HR.out.2.symm, ?_, fin_low HB.out.low _ _ _⟩
    rw [HR.out.1]
    exact fin_has (arg_has HE.out HB.out.low) _ _ _
  | true =>
    obtain ⟨hok, c0, c1⟩ := co_iff.1 hco
    have n1 : 1 ≤ e.now := hok.now1
    have n2 : e.now ≤ 1099511627776 := hok.now2
    obtain ⟨k, rfl⟩ : ∃ k : Nat, c = (k : Int) := ⟨c.toNat, by omega⟩
    have hk : k < P := by have := HP.out; omega
    have i1 : (0 : Int) ≤ (k : Int) := by omega
    have i2 : (k : Int) < (P : Int) := by omega
    have HI := hid (fun (W : World) (h : HasE W Av ⟨⟨po, P, pc⟩, ⟨lo, L, lc⟩⟩ e) => is_rcore HS.out h hco)
    have HPi := hid (fun (W : World) (h : HasE W Av ⟨⟨po, P, pc⟩, ⟨lo, L, lc⟩⟩ e) => h.pin k (by have := HP.out; omega))
    obtain ⟨q, hq⟩ : ∃ q, e.pins.getD k 0 = q := ⟨_, rfl⟩
    have HQ : Hid (pinOf e (k : Int) = q) := by unfold Hid pinOf; simpa using hq
    rw [hq] at HPi
    clear hq
    by_cases hq0 : q = 0
    · have d := bne_no hq0
      have h2 : unE e (k : Int) = 7 := by unfold unE; rw [hco, HQ.out]; simp [hq0]
      have HR : Hid (unA e (k : Int) = e ∧ unE e (k : Int) = 7) := ⟨un_same (by rw [h2]; decide), h2⟩
      clear hco hq0 h2 hok
      generalize e.now = n at HI n1 n2 ⊢
      go_enter Try.func27, Try.ntmps27
      go_wp2_with fail
      have HB : Hid (B2 w ((w.alloc (.cells #[.int .i64 n, .slice po P pc, .slice lo L lc] 25)).alloc (.cells #[.int .i64 0, .slice none 0 0, .slice none 0 0] 25)) n 0 ⟨⟨po, P, pc⟩, ⟨lo, L, lc⟩⟩ WE.zero) := b2_start w n 0 ⟨⟨po, P, pc⟩, ⟨lo, L, lc⟩⟩ WE.zero 25
      refine (HI.out _ (HE.out.below HB.out.low)).mono ?_
      rintro r w1 ⟨rfl, b1⟩
      replace HB := hid (HB.out.below b1)
      clear b1
      obtain ⟨x0, x1, x2, xf⟩ := HB.out.a
      obtain ⟨z0, z1, z2, zf⟩ := HB.out.b
      have hb1 : w.heap.size < w1.heap.size := HB.out.a.lt
      have hb2 : w.heap.size + 1 < w1.heap.size := HB.out.b.lt
      obtain ⟨a, ea, ca⟩ := HPi.out _ (HE.out.below HB.out.low)
      obtain rfl : po = some a := ea
      go_wp2_with fail
      refine bodyPost_ret (v := .tuple #[.agg #[.int .i64 n, .slice (some a) P pc, .slice lo L lc], .int .i64 7]) (by simp [results, Try.results27, go_sem, *]) rfl ⟨⟨⟨some a, P, pc⟩, ⟨lo, L, lc⟩⟩, ret_ep HR.out.2.symm, ?_, fin_low HB.out.low _ _ _⟩
      rw [HR.out.1]
      exact fin_has (arg_has HE.out HB.out.low) _ _ _
    · have d := bne_yes hq0
      have h0 : unE e (k : Int) = 0 := unE_zero.2 ⟨hco, by rw [HQ.out]; exact hq0⟩
      have HR : Hid (unA e (k : Int) = setP e (k : Int) 0 ∧ unE e (k : Int) = 0) := ⟨by unfold unA; rw [if_pos h0], h0⟩
      have HPin := hid (fun (W : World) (Av' : Nat → Prop) (hA' : ∀ i, Av' i → i < W.heap.size) (h : HasE W Av' ⟨⟨po, P, pc⟩, ⟨lo, L, lc⟩⟩ e) => rpin_any po lo P L pc lc k e 0 Av' W hA' HS h hk)
      clear hco hq0 h0 hok
      generalize e.now = n at HI HR HPin n1 n2 ⊢
      go_enter Try.func27, Try.ntmps27
      go_wp2_with fail
      have HB : Hid (B2 w ((w.alloc (.cells #[.int .i64 n, .slice po P pc, .slice lo L lc] 25)).alloc (.cells #[.int .i64 0, .slice none 0 0, .slice none 0 0] 25)) n 0 ⟨⟨po, P, pc⟩, ⟨lo, L, lc⟩⟩ WE.zero) := b2_start w n 0 ⟨⟨po, P, pc⟩, ⟨lo, L, lc⟩⟩ WE.zero 25
      refine (HI.out _ (HE.out.below HB.out.low)).mono ?_
      rintro r w1 ⟨rfl, b1⟩
      replace HB := hid (HB.out.below b1)
      clear b1
      obtain ⟨x0, x1, x2, xf⟩ := HB.out.a
      obtain ⟨z0, z1, z2, zf⟩ := HB.out.b
      have hb1 : w.heap.size < w1.heap.size := HB.out.a.lt
      have hb2 : w.heap.size + 1 < w1.heap.size := HB.out.b.lt
      obtain ⟨a, ea, ca⟩ := HPi.out _ (HE.out.below HB.out.low)
      obtain rfl : po = some a := ea
      go_wp2_with fail
      refine (HPin.out _ _ (arg_lt hA.out hb2) (arg_has HE.out HB.out.low)).mono ?_
      rintro r w2 ⟨z, rfl, hz, b2⟩
      have HZ := hid hz
      replace HB := hid (HB.out.below b2)
      clear b2 hz x0 x1 x2 xf z0 z1 z2 zf ca hb1 hb2
      obtain ⟨x0, x1, x2, xf⟩ := HB.out.a
      obtain ⟨z0, z1, z2, zf⟩ := HB.out.b
      have hb1 : w.heap.size < w2.heap.size := HB.out.a.lt
      have hb2 : w.heap.size + 1 < w2.heap.size := HB.out.b.lt
      go_wp2_with fail
      refine bodyPost_ret (v := .tuple #[(.agg #[.int .i64 n, .slice z.p.o z.p.n z.p.c, .slice z.l.o z.l.n z.l.c]), .int .i64 0]) (by simp [results, Try.results27, go_sem, *]) rfl ⟨z, ret_ep HR.out.2.symm, ?_, fin_low HB.out.low _ _ _⟩
      rw [HR.out.1]
      exact fin_has HZ.out _ _ _
end Go.Proofs.Ytejghoncihdfkaa.Ep
