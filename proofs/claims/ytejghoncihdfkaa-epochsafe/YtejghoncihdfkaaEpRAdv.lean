/- What the document's Advance does. -/
import Derived.Test.YtejghoncihdfkaaEpRPin
namespace Go.Proofs.Ytejghoncihdfkaa.Ep
open Go.RowKit

theorem ret_eb {v : Value} {a b : Bool} (h : a = b) : Ending.returned (.tuple #[v, .bool a]) = .returned (.tuple #[v, .bool b]) := by rw [h]
theorem ad_same {e : E} (h : adB e = false) : adA e = e := by unfold adA; rw [h]; rfl
set_option maxRecDepth 100000 in
set_option maxHeartbeats 4000000 in
theorem rAdv_any (y : WE) (e : E) (Av : Nat → Prop) (w : World) (HS : Hid (Sm e)) (HE : Hid (HasE w Av y e)) :
    Calls Try.prog 29 #[(.agg #[.int .i64 e.now, .slice y.p.o y.p.n y.p.c, .slice y.l.o y.l.n y.l.c])] w fun r w' => ∃ z : WE, r = .returned (.tuple #[(.agg #[.int .i64 (adA e).now, .slice z.p.o z.p.n z.p.c, .slice z.l.o z.l.n z.l.c]), .bool (adB e)]) ∧ HasE w' Av z (adA e) ∧ Below w.heap.size w w' := by
  obtain ⟨⟨po, P, pc⟩, ⟨lo, L, lc⟩⟩ := y
  have HP : Hid (P = e.pins.length) := HE.out.pn
  have p70 : P ≤ 70 := by have := HS.out.p; have := HP.out; omega
  cases hok : okE e with
  | false =>
    have hb : adB e = false := by unfold adB; rw [hok]; rfl
    have HR := hid hb
    rw [ad_same hb, hb]
    have HI := hid (fun (W : World) (h : HasE W Av ⟨⟨po, P, pc⟩, ⟨lo, L, lc⟩⟩ e) => is_ris HS.out h hok)
    clear hok hb
    obtain ⟨n, hn⟩ : ∃ n, e.now = n := ⟨_, rfl⟩
    rw [hn] at HI ⊢
    clear hn
    go_enter Try.func29, Try.ntmps29
    go_wp2_with fail
    have HB : Hid (B2 w ((w.alloc (.cells #[.int .i64 n, .slice po P pc, .slice lo L lc] 25)).alloc (.cells #[.int .i64 0, .slice none 0 0, .slice none 0 0] 25)) n 0 ⟨⟨po, P, pc⟩, ⟨lo, L, lc⟩⟩ WE.zero) := b2_start w n 0 ⟨⟨po, P, pc⟩, ⟨lo, L, lc⟩⟩ WE.zero 25
    refine (HI.out _ (HE.out.below HB.out.low)).mono ?_
    rintro r w1 ⟨rfl, b1⟩
    replace HB := hid (HB.out.below b1)
    clear b1
    obtain ⟨x0, x1, x2, xf⟩ := HB.out.a
    obtain ⟨z0, z1, z2, zf⟩ := HB.out.b
    have hb1 : w.heap.size < w1.heap.size := HB.out.a.lt
    have hb2 : w.heap.size + 1 < w1.heap.size := HB.out.b.lt
    go_wp2_with fail
    refine bodyPost_ret (v := .tuple #[.agg #[.int .i64 n, .slice po P pc, .slice lo L lc], .bool false]) (by simp [results, Try.results29, go_sem, *]) rfl ⟨⟨⟨po, P, pc⟩, ⟨lo, L, lc⟩⟩, rfl, fin_has (arg_has HE.out HB.out.low) _ _ _, fin_low HB.out.low _ _ _⟩
  | true =>
    have HO := hid (ok_iff.1 hok)
    have HI := hid (fun (W : World) (h : HasE W Av ⟨⟨po, P, pc⟩, ⟨lo, L, lc⟩⟩ e) => is_ris HS.out h hok)
    clear hok
    obtain ⟨n, hn⟩ : ∃ n, e.now = n := ⟨_, rfl⟩
    have n1 : 1 ≤ n := by rw [← hn]; exact HO.out.now1
    have n2 : n ≤ 1099511627776 := by rw [← hn]; exact HO.out.now2
    rw [hn] at HI ⊢
    have HN := hid hn
    clear hn
    by_cases hm : n < 1099511627776
    · go_enter Try.func29, Try.ntmps29
      go_wp2_with fail
      have HB : Hid (B2 w ((w.alloc (.cells #[.int .i64 n, .slice po P pc, .slice lo L lc] 25)).alloc (.cells #[.int .i64 0, .slice none 0 0, .slice none 0 0] 25)) n 0 ⟨⟨po, P, pc⟩, ⟨lo, L, lc⟩⟩ WE.zero) := b2_start w n 0 ⟨⟨po, P, pc⟩, ⟨lo, L, lc⟩⟩ WE.zero 25
      refine (HI.out _ (HE.out.below HB.out.low)).mono ?_
      rintro r w1 ⟨rfl, b1⟩
      replace HB := hid (HB.out.below b1)
      clear b1
      obtain ⟨x0, x1, x2, xf⟩ := HB.out.a
      go_wp2_with fail
      clear x0 x1 x2 xf
      go_loopw [4] (fun i wr => ∃ k : Nat, k ≤ P ∧ i = .int .i64 k ∧ Hid (∀ d, d < k → e.pins.getD d 0 = 0 ∨ e.pins.getD d 0 = n + 1) ∧ Hid (B2 w wr n 0 ⟨⟨po, P, pc⟩, ⟨lo, L, lc⟩⟩ WE.zero)) (fun i _ => P - (intOf i).toNat)
      case atStart => exact ⟨0, Nat.zero_le _, rfl, fun d hd => absurd hd (by omega), HB⟩
      case round =>
        obtain ⟨k, hk, rfl, HU, HW⟩ := hrel
        clear HB
        obtain ⟨x0, x1, x2, xf⟩ := HW.out.a
        obtain ⟨z0, z1, z2, zf⟩ := HW.out.b
        have hb1 : w.heap.size < wr.heap.size := HW.out.a.lt
        have hb2 : w.heap.size + 1 < wr.heap.size := HW.out.b.lt
        by_cases hlt : k < P
        · have i1 : (0 : Int) ≤ (k : Int) := by omega
          have i2 : (k : Int) < (P : Int) := by omega
          obtain ⟨a, ea, ca⟩ := (HE.out.below HW.out.low).pin k (by have := HP.out; omega)
          obtain rfl : po = some a := ea
          obtain ⟨q, hq⟩ : ∃ q, e.pins.getD k 0 = q := ⟨_, rfl⟩
          rw [hq] at ca
          have HQ := hid hq
          clear hq
          by_cases q0 : q = 0
          · have d0 := bne_no q0
            have HQ0 := hid q0
            clear q0
            go_wp2_with fail
            go_quiet (fail)
            go_wp2
            go_roundw
            case rel =>
              refine ⟨k + 1, by omega, by go_num, fun d hd => ?_, HW.out.below (q_drewN (Below.refl _ _) _)⟩
              by_cases e1 : d = k
              · subst e1; rw [HQ.out]; exact .inl HQ0.out
              · exact HU.out d (by omega)
            case measure => simp [intOf]; omega
          · have d0 := bne_yes q0
            by_cases q1 : q = n + 1
            · have d1 := bne_no q1
              have HQ1 := hid q1
              clear q0 q1
              go_wp2_with fail
              go_quiet (fail)
              go_wp2
              go_roundw
              case rel =>
                refine ⟨k + 1, by omega, by go_num, fun d hd => ?_, HW.out.below (q_drewN (Below.refl _ _) _)⟩
                by_cases e1 : d = k
                · subst e1; rw [HQ.out]; exact .inr HQ1.out
                · exact HU.out d (by omega)
              case measure => simp [intOf]; omega
            · have d1 := bne_yes q1
              have hbf : adB e = false := by
                cases hh : adB e with
                | false => rfl
                | true =>
                  obtain ⟨_, _, h3⟩ := ad_iff.1 hh
                  have := h3 k (by have := HP.out; omega)
                  rw [HQ.out, HN.out] at this
                  omega
              have HR := hid hbf
              clear q0 q1 hbf
              go_wp2_with fail
              go_quiet (fail)
              go_wp2_with fail
              refine bodyPost_ret (v := .tuple #[.agg #[.int .i64 n, .slice (some a) P pc, .slice lo L lc], .bool false]) (by simp [results, Try.results29, go_sem, *]) rfl ⟨⟨⟨some a, P, pc⟩, ⟨lo, L, lc⟩⟩, ?_, ?_, ?_⟩
              · rw [ad_same HR.out, HR.out, HN.out]
              · rw [ad_same HR.out]
                exact fin_has (arg_has HE.out (HW.out.below (q_drewN (Below.refl _ _) _)).low) _ _ _
              · exact fin_low (HW.out.below (q_drewN (Below.refl _ _) _)).low _ _ _
        · have hbt : adB e = true := ad_iff.2 ⟨HO.out, by rw [HN.out]; exact hm, fun d hd => by rw [HN.out]; exact HU.out d (by have := HP.out; omega)⟩
          have HR := hid hbt
          have HA : Hid (adA e = ⟨n + 1, e.pins, e.lim⟩) := by unfold Hid adA; rw [if_pos hbt, HN.out]
          clear hbt
          go_wp2_with fail
          refine bodyPost_ret (v := .tuple #[.agg #[.int .i64 (n + 1), .slice po P pc, .slice lo L lc], .bool true]) (by simp [results, Try.results29, go_sem, *]) rfl ⟨⟨⟨po, P, pc⟩, ⟨lo, L, lc⟩⟩, ?_, ?_, ?_⟩
          · rw [HA.out, HR.out]
          · rw [HA.out]
            exact fin_has (((arg_has HE.out (q_set HW.out.low (p := ⟨w.heap.size, 0, none⟩) (Nat.le_refl _) (.int .i64 (n + 1)))).now (n + 1))) _ _ _
          · exact fin_low (q_set HW.out.low (p := ⟨w.heap.size, 0, none⟩) (Nat.le_refl _) (.int .i64 (n + 1))) _ _ _
    · have hbf : adB e = false := by
        cases hh : adB e with
        | false => rfl
        | true =>
          obtain ⟨_, h2, _⟩ := ad_iff.1 hh
          rw [HN.out] at h2
          exact absurd h2 hm
      have HR := hid hbf
      have d1 : decide ((1099511627776 : Int) ≤ n) = true := by simp; omega
      clear hbf
      go_enter Try.func29, Try.ntmps29
      go_wp2_with fail
      have HB : Hid (B2 w ((w.alloc (.cells #[.int .i64 n, .slice po P pc, .slice lo L lc] 25)).alloc (.cells #[.int .i64 0, .slice none 0 0, .slice none 0 0] 25)) n 0 ⟨⟨po, P, pc⟩, ⟨lo, L, lc⟩⟩ WE.zero) := b2_start w n 0 ⟨⟨po, P, pc⟩, ⟨lo, L, lc⟩⟩ WE.zero 25
      refine (HI.out _ (HE.out.below HB.out.low)).mono ?_
      rintro r w1 ⟨rfl, b1⟩
      replace HB := hid (HB.out.below b1)
      clear b1
      obtain ⟨x0, x1, x2, xf⟩ := HB.out.a
      obtain ⟨z0, z1, z2, zf⟩ := HB.out.b
      have hb1 : w.heap.size < w1.heap.size := HB.out.a.lt
      have hb2 : w.heap.size + 1 < w1.heap.size := HB.out.b.lt
      go_wp2_with fail
      refine bodyPost_ret (v := .tuple #[.agg #[.int .i64 n, .slice po P pc, .slice lo L lc], .bool false]) (by simp [results, Try.results29, go_sem, *]) rfl ⟨⟨⟨po, P, pc⟩, ⟨lo, L, lc⟩⟩, ?_, ?_, fin_low HB.out.low _ _ _⟩
      · rw [ad_same HR.out, HR.out, HN.out]
      · rw [ad_same HR.out]
        exact fin_has (arg_has HE.out HB.out.low) _ _ _
end Go.Proofs.Ytejghoncihdfkaa.Ep
