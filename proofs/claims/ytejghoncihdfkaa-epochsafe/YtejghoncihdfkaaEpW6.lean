/- What the program's Advance does. -/
import Derived.Test.YtejghoncihdfkaaEpW5
import Derived.Test.YtejghoncihdfkaaEpRAdv
namespace Go.Proofs.Ytejghoncihdfkaa.Ep
open Go.RowKit

/-- One epoch on, in the copy's box. -/
theorem adv_low {w W : World} {bx : Nat} (h : Below w.heap.size w W) (hb : w.heap.size + 2 ≤ bx) (u v x t : Value) : Below w.heap.size w ((((W.setCell ⟨bx, 0, none⟩ t).setCell ⟨w.heap.size + 1, 0, none⟩ u).setCell ⟨w.heap.size + 1, 1, none⟩ v).setCell ⟨w.heap.size + 1, 2, none⟩ x) :=
  fin_low (q_set h (p := ⟨bx, 0, none⟩) (by show w.heap.size ≤ bx; omega) t) u v x
theorem Fb.adv {w W : World} {n : Int} {y z : WE} {bx : Nat} {e : E} {hs : List Hd} {Av : Nat → Prop} (h : Fb w W n y bx z e hs) (hE : ∀ i, i < e.lim.length → ∀ k, (hs.getD i Hd.zero).v.ownBlock = some k → k ≠ bx) (hA : ∀ i, Av i → i < w.heap.size) (u v x t : Value) : HasE ((((W.setCell ⟨bx, 0, none⟩ t).setCell ⟨w.heap.size + 1, 0, none⟩ u).setCell ⟨w.heap.size + 1, 1, none⟩ v).setCell ⟨w.heap.size + 1, 2, none⟩ x) Av z e := by
  have q : Kept (fun i => i = bx) W (W.setCell ⟨bx, 0, none⟩ t) := kept_set _ W _ _ rfl
  have ho : OwnE (W.setCell ⟨bx, 0, none⟩ t) (w.heap.size + 2) z e hs := ⟨own_kept h.own.p q (fun i ei s => h.pb i ei s), own_kept h.own.l q (fun i ei s => h.lb i ei s), h.own.hl, fun i hi => own_kept (h.own.each i hi) q (fun k ek s => hE i hi k ek s), h.own.sep⟩
  exact fin_has (ho.has (fun i s => by rcases s with s | s; (have := hA i s; omega); omega)) u v x
set_option maxRecDepth 100000 in
set_option maxHeartbeats 4000000 in
theorem adv_any (y : WE) (e : E) (Av : Nat → Prop) (w : World) (hA : Hid (∀ i, Av i → i < w.heap.size)) (HS : Hid (Sm e)) (HE : Hid (HasE w Av y e)) :
    Calls Try.prog 22 #[(.agg #[.int .i64 e.now, .slice y.p.o y.p.n y.p.c, .slice y.l.o y.l.n y.l.c])] w fun r w' => ∃ z : WE, r = .returned (.tuple #[(.agg #[.int .i64 (adA e).now, .slice z.p.o z.p.n z.p.c, .slice z.l.o z.l.n z.l.c]), .bool (adB e)]) ∧ HasE w' Av z (adA e) ∧ Below w.heap.size w w' := by
  obtain ⟨⟨po, P, pc⟩, ⟨lo, L, lc⟩⟩ := y
  have HP : Hid (P = e.pins.length) := HE.out.pn
  have p70 : P ≤ 70 := by have := HS.out.p; have := HP.out; omega
  have CA := hid (fun (W : World) (h : HasE W Av ⟨⟨po, P, pc⟩, ⟨lo, L, lc⟩⟩ e) => apart_any ⟨⟨po, P, pc⟩, ⟨lo, L, lc⟩⟩ e Av W HS h)
  cases hok : okE e with
  | false =>
    have hb : adB e = false := by unfold adB; rw [hok]; rfl
    have HR := hid hb
    rw [ad_same hb, hb]
    have HI := hid (fun (W : World) (h : HasE W Av ⟨⟨po, P, pc⟩, ⟨lo, L, lc⟩⟩ e) => is_check HS.out h (ch_no hok))
    clear hok hb
    obtain ⟨n, hn⟩ : ∃ n, e.now = n := ⟨_, rfl⟩
    rw [hn] at HI CA ⊢
    clear hn
    go_enter Try.func22, Try.ntmps22
    go_wp2_with fail
    have HB : Hid (B2 w ((w.alloc (.cells #[.int .i64 n, .slice po P pc, .slice lo L lc] 25)).alloc (.cells #[.int .i64 0, .slice none 0 0, .slice none 0 0] 25)) n 0 ⟨⟨po, P, pc⟩, ⟨lo, L, lc⟩⟩ WE.zero) := b2_start w n 0 ⟨⟨po, P, pc⟩, ⟨lo, L, lc⟩⟩ WE.zero 25
    refine (CA.out _ (HE.out.below HB.out.low)).mono ?_
    rintro r w1 ⟨z, rfl, ⟨hs, ho⟩, b1⟩
    have HF := hid (fb_start HB.out (size2 _ _ _) ho b1 25)
    clear ho b1 HB
    go_upto_region 2 with fail
    generalize w1.heap.size = bx at HF ⊢
    generalize w1.alloc (.cells #[.int .i64 n, .slice z.p.o z.p.n z.p.c, .slice z.l.o z.l.n z.l.c] 25) = W at HF ⊢
    clear w1
    obtain ⟨x0, x1, x2, xf⟩ := HF.out.b.a
    go_wp2_with fail
    refine (HI.out _ (HE.out.below HF.out.b.low)).mono ?_
    rintro r w2 ⟨rfl, b2⟩
    replace HF := hid (HF.out.below b2)
    clear b2 x0 x1 x2 xf W
    obtain ⟨x0, x1, x2, xf⟩ := HF.out.b.a
    obtain ⟨v0, v1, v2, vf⟩ := HF.out.f
    obtain ⟨z0, z1, z2, zf⟩ := HF.out.b.b
    have hb2 : w.heap.size + 1 < w2.heap.size := HF.out.b.b.lt
    go_wp2_with fail
    exact bodyPost_ret (v := .tuple #[(.agg #[.int .i64 n, .slice z.p.o z.p.n z.p.c, .slice z.l.o z.l.n z.l.c]), .bool false]) (by simp [results, Try.results22, go_sem, *]) rfl ⟨z, rfl, HF.out.has hA.out _ _ _, fin_low HF.out.b.low _ _ _⟩
  | true =>
    have HO := hid (ok_iff.1 hok)
    have HI := hid (fun (W : World) (h : HasE W Av ⟨⟨po, P, pc⟩, ⟨lo, L, lc⟩⟩ e) => is_check HS.out h (ch_yes hok))
    clear hok
    obtain ⟨n, hn⟩ : ∃ n, e.now = n := ⟨_, rfl⟩
    have n1 : 1 ≤ n := by rw [← hn]; exact HO.out.now1
    have n2 : n ≤ 1099511627776 := by rw [← hn]; exact HO.out.now2
    rw [hn] at HI CA
    have HN := hid hn
    rw [hn]
    clear hn
    by_cases hm : n = 1099511627776
    · have hbf : adB e = false := by
        cases hh : adB e with
        | false => rfl
        | true =>
          obtain ⟨_, h2, _⟩ := ad_iff.1 hh
          rw [HN.out, hm] at h2
          exact absurd h2 (by decide)
      have HR := hid hbf
      have d1 := beq_yes hm
      clear hbf hm
      go_enter Try.func22, Try.ntmps22
      go_wp2_with fail
      have HB : Hid (B2 w ((w.alloc (.cells #[.int .i64 n, .slice po P pc, .slice lo L lc] 25)).alloc (.cells #[.int .i64 0, .slice none 0 0, .slice none 0 0] 25)) n 0 ⟨⟨po, P, pc⟩, ⟨lo, L, lc⟩⟩ WE.zero) := b2_start w n 0 ⟨⟨po, P, pc⟩, ⟨lo, L, lc⟩⟩ WE.zero 25
      refine (CA.out _ (HE.out.below HB.out.low)).mono ?_
      rintro r w1 ⟨z, rfl, ⟨hs, ho⟩, b1⟩
      have HF := hid (fb_start HB.out (size2 _ _ _) ho b1 25)
      clear ho b1 HB
      go_upto_region 2 with fail
      generalize w1.heap.size = bx at HF ⊢
      generalize w1.alloc (.cells #[.int .i64 n, .slice z.p.o z.p.n z.p.c, .slice z.l.o z.l.n z.l.c] 25) = W at HF ⊢
      clear w1
      obtain ⟨x0, x1, x2, xf⟩ := HF.out.b.a
      go_wp2_with fail
      refine (HI.out _ (HE.out.below HF.out.b.low)).mono ?_
      rintro r w2 ⟨rfl, b2⟩
      replace HF := hid (HF.out.below b2)
      clear b2 x0 x1 x2 xf W
      obtain ⟨x0, x1, x2, xf⟩ := HF.out.b.a
      obtain ⟨v0, v1, v2, vf⟩ := HF.out.f
      obtain ⟨z0, z1, z2, zf⟩ := HF.out.b.b
      have hb2 : w.heap.size + 1 < w2.heap.size := HF.out.b.b.lt
      go_wp2_with fail
      refine bodyPost_ret (v := .tuple #[(.agg #[.int .i64 n, .slice z.p.o z.p.n z.p.c, .slice z.l.o z.l.n z.l.c]), .bool false]) (by simp [results, Try.results22, go_sem, *]) rfl ⟨z, ?_, ?_, fin_low HF.out.b.low _ _ _⟩
      · rw [ad_same HR.out, HR.out, HN.out]
      · rw [ad_same HR.out]
        exact HF.out.has hA.out _ _ _
    · have d1 := beq_no hm
      have HM : Hid (n < 1099511627776) := by unfold Hid; omega
      clear hm
      go_enter Try.func22, Try.ntmps22
      go_wp2_with fail
      have HB : Hid (B2 w ((w.alloc (.cells #[.int .i64 n, .slice po P pc, .slice lo L lc] 25)).alloc (.cells #[.int .i64 0, .slice none 0 0, .slice none 0 0] 25)) n 0 ⟨⟨po, P, pc⟩, ⟨lo, L, lc⟩⟩ WE.zero) := b2_start w n 0 ⟨⟨po, P, pc⟩, ⟨lo, L, lc⟩⟩ WE.zero 25
      refine (CA.out _ (HE.out.below HB.out.low)).mono ?_
      rintro r w1 ⟨z, rfl, ⟨hs, ho⟩, b1⟩
      have HF := hid (fb_start HB.out (size2 _ _ _) ho b1 25)
      have HX : Hid (∀ i, i < e.lim.length → ∀ k, (hs.getD i Hd.zero).v.ownBlock = some k → k ≠ w1.heap.size) := fun i hi k ek => Nat.ne_of_lt ((ho.each i hi).lt k ek).2
      clear ho b1 HB
      go_upto_region 2 with fail
      generalize w1.heap.size = bx at HF HX ⊢
      generalize w1.alloc (.cells #[.int .i64 n, .slice z.p.o z.p.n z.p.c, .slice z.l.o z.l.n z.l.c] 25) = W at HF ⊢
      clear w1
      obtain ⟨x0, x1, x2, xf⟩ := HF.out.b.a
      go_wp2_with fail
      refine (HI.out _ (HE.out.below HF.out.b.low)).mono ?_
      rintro r w2 ⟨rfl, b2⟩
      replace HF := hid (HF.out.below b2)
      clear b2 x0 x1 x2 xf W
      obtain ⟨x0, x1, x2, xf⟩ := HF.out.b.a
      obtain ⟨v0, v1, v2, vf⟩ := HF.out.f
      obtain ⟨z0, z1, z2, zf⟩ := HF.out.b.b
      have hb2 : w.heap.size + 1 < w2.heap.size := HF.out.b.b.lt
      go_wp2_with fail
      clear x0 x1 x2 xf z0 z1 z2 zf v0 v1 v2 vf hb2
      go_loopw [21] (fun i wr => ∃ k : Nat, k ≤ P ∧ i = .int .i64 k ∧ Hid (∀ d, d < k → e.pins.getD d 0 = 0 ∨ e.pins.getD d 0 = n + 1) ∧ Hid (Fb w wr n ⟨⟨po, P, pc⟩, ⟨lo, L, lc⟩⟩ bx z e hs)) (fun i _ => P - (intOf i).toNat)
      case atStart => exact ⟨0, Nat.zero_le _, rfl, fun d hd => absurd hd (by omega), HF⟩
      case round =>
        obtain ⟨k, hk, rfl, HU, HW⟩ := hrel
        clear HF
        obtain ⟨x0, x1, x2, xf⟩ := HW.out.b.a
        by_cases hlt : k < P
        · have i1 : (0 : Int) ≤ (k : Int) := by omega
          have i2 : (k : Int) < (P : Int) := by omega
          obtain ⟨a, ea, ca⟩ := (HE.out.below HW.out.b.low).pin k (by have := HP.out; omega)
          obtain rfl : po = some a := ea
          obtain ⟨q, hq⟩ : ∃ q, e.pins.getD k 0 = q := ⟨_, rfl⟩
          rw [hq] at ca
          have HQ := hid hq
          clear hq
          cases hi : isB n q with
          | true =>
            have HQ0 : Hid (q = 0 ∨ q = n + 1) := by simpa [Hid, isB] using hi
            have HI2 := hid hi
            clear hi
            go_wp2_with (first | (go_at_call 32; refine (is_step (y := ⟨⟨some a, P, pc⟩, ⟨lo, L, lc⟩⟩) n1 n2 HI2.out).mono ?_; rintro r w3 ⟨rfl, b3⟩; have HW3 := hid (HW.out.below b3); clear b3))
            go_roundw
            case rel =>
              refine ⟨k + 1, by omega, by go_num, fun d hd => ?_, HW3⟩
              by_cases e1 : d = k
              · subst e1; rw [HQ.out]; exact HQ0.out
              · exact HU.out d (by omega)
            case measure => simp [intOf]; omega
          | false =>
            have hbf : adB e = false := by
              cases hh : adB e with
              | false => rfl
              | true =>
                obtain ⟨_, _, h3⟩ := ad_iff.1 hh
                have := h3 k (by have := HP.out; omega)
                rw [HQ.out, HN.out] at this
                simp [isB] at hi
                omega
            have HR := hid hbf
            have HI2 := hid hi
            clear hi hbf
            go_wp2_with fail
            refine (is_step (y := ⟨⟨some a, P, pc⟩, ⟨lo, L, lc⟩⟩) n1 n2 HI2.out).mono ?_
            rintro r w3 ⟨rfl, b3⟩
            replace HW := hid (HW.out.below b3)
            clear b3 x0 x1 x2 xf ca
            obtain ⟨v0, v1, v2, vf⟩ := HW.out.f
            obtain ⟨z0, z1, z2, zf⟩ := HW.out.b.b
            have hb2 : w.heap.size + 1 < w3.heap.size := HW.out.b.b.lt
            go_wp2_with fail
            refine bodyPost_ret (v := .tuple #[(.agg #[.int .i64 n, .slice z.p.o z.p.n z.p.c, .slice z.l.o z.l.n z.l.c]), .bool false]) (by simp [results, Try.results22, go_sem, *]) rfl ⟨z, ?_, ?_, fin_low HW.out.b.low _ _ _⟩
            · rw [ad_same HR.out, HR.out, HN.out]
            · rw [ad_same HR.out]
              exact HW.out.has hA.out _ _ _
        · have hbt : adB e = true := ad_iff.2 ⟨HO.out, by rw [HN.out]; exact HM.out, fun d hd => by rw [HN.out]; exact HU.out d (by have := HP.out; omega)⟩
          have HR := hid hbt
          have HAd : Hid (adA e = ⟨n + 1, e.pins, e.lim⟩) := by unfold Hid adA; rw [if_pos hbt, HN.out]
          clear hbt
          obtain ⟨v0, v1, v2, vf⟩ := HW.out.f
          obtain ⟨z0, z1, z2, zf⟩ := HW.out.b.b
          have hb2 : w.heap.size + 1 < wr.heap.size := HW.out.b.b.lt
          have hb3 : bx < wr.heap.size := HW.out.f.lt
          have hn1 : bx ≠ w.heap.size + 1 := by have := HW.out.nb; omega
          have hn2 : w.heap.size + 1 ≠ bx := by have := HW.out.nb; omega
          go_wp2_with fail
          refine bodyPost_ret (v := .tuple #[(.agg #[.int .i64 (n + 1), .slice z.p.o z.p.n z.p.c, .slice z.l.o z.l.n z.l.c]), .bool true]) (by simp [results, Try.results22, go_sem, *]) rfl ⟨z, ?_, ?_, ?_⟩
          · rw [HAd.out, HR.out]
          · rw [HAd.out]
            exact (HW.out.adv HX.out hA.out _ _ _ _).now (n + 1)
          · exact adv_low HW.out.b.low HW.out.nb _ _ _ _
end Go.Proofs.Ytejghoncihdfkaa.Ep
