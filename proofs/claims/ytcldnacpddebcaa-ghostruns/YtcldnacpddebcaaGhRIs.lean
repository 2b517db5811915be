/- What the document's Is (of ghosts) does. -/
import Derived.Test.YtcldnacpddebcaaPkB
import Derived.Test.YtcldnacpddebcaaTrRIs
namespace Go.Proofs.Ytcldnacpddebcaa.Gh
open Go.RowKit
open Go.Proofs.Ytcldnacpddebcaa.Tr

set_option maxHeartbeats 1000000 in
theorem gis_no (y : Gv) (w : World) (h : y.k.n ≠ y.i.n ∨ 4096 < y.f.n ∨ y.f.n < y.k.n) :
    Calls Try.prog 16 #[(.agg #[.slice y.k.o y.k.n y.k.c, .slice y.i.o y.i.n y.i.c, .slice y.f.o y.f.n y.f.c])] w fun e w' => e = .returned (.bool false) ∧ Below w.heap.size w w' := by
  have B0 := hid (alloc_below w (.cells #[.slice y.k.o y.k.n y.k.c, .slice y.i.o y.i.n y.i.c, .slice y.f.o y.f.n y.f.c] 25))
  by_cases h1 : y.k.n = y.i.n
  · have e1 : ((y.k.n : Int) != (y.i.n : Int)) = false := by simp [h1]
    by_cases h2 : 4096 < y.f.n
    · have e2 : (y.f.n : Int) > 4096 := by omega
      clear h h1 h2
      go_enter Try.func16, Try.ntmps16
      go_wp2
      go_ret
      exact ⟨rfl, B0.out⟩
    · have e2 : ¬ (y.f.n : Int) > 4096 := by omega
      have e3 : (y.k.n : Int) > (y.f.n : Int) := by omega
      clear h h1 h2
      go_enter Try.func16, Try.ntmps16
      go_wp2
      go_ret
      exact ⟨rfl, B0.out⟩
  · have e1 : ((y.k.n : Int) != (y.i.n : Int)) = true := by simp; omega
    clear h h1
    go_enter Try.func16, Try.ntmps16
    go_wp2
    go_ret
    exact ⟨rfl, B0.out⟩
set_option maxRecDepth 100000 in
set_option maxHeartbeats 4000000 in
theorem gis_in (y : Gv) (g : Gt) (w : World) (h1 : y.k.n = y.i.n) (h2 : y.f.n ≤ 4096) (h3 : y.k.n ≤ y.f.n) (HH : Hid (HasG w y g)) :
    Calls Try.prog 16 #[(.agg #[.slice y.k.o y.k.n y.k.c, .slice y.i.o y.i.n y.i.c, .slice y.f.o y.f.n y.f.c])] w fun e w' => e = .returned (.bool (okB g)) ∧ Below w.heap.size w w' := by
  have HK := hid HH.out.ks.len
  have HI := hid HH.out.is.len
  have HF := hid HH.out.fr.len
  have H1 := hid h1
  have e1 : ((y.k.n : Int) != (y.i.n : Int)) = false := by simp [h1]
  have e2 : ¬ (y.f.n : Int) > 4096 := by omega
  have e3 : ¬ (y.k.n : Int) > (y.f.n : Int) := by omega
  clear h1
  go_enter Try.func16, Try.ntmps16
  go_wp2_with fail
  have B0 := hid (alloc_below w (.cells #[.slice y.k.o y.k.n y.k.c, .slice y.i.o y.i.n y.i.c, .slice y.f.o y.f.n y.f.c] 25))
  have G0 := hid (inG_new w y 25)
  generalize w.alloc (.cells #[.slice y.k.o y.k.n y.k.c, .slice y.i.o y.i.n y.i.c, .slice y.f.o y.f.n y.f.c] 25) = W at B0 G0 ⊢
  clear e1 e2 e3
  go_loopw [3] (fun i wr => ∃ q : Nat, q ≤ y.f.n ∧ i = .int .i64 q ∧ Hid (∀ j, j < q → -1 ≤ Ii g.fr j ∧ Ii g.fr j < j) ∧ Hid (InG wr w.heap.size y) ∧ Hid (Below w.heap.size w wr)) (fun i _ => y.f.n - (intOf i).toNat)
  case atStart => exact ⟨0, Nat.zero_le _, rfl, fun j hj => absurd hj (by omega), G0, B0⟩
  case round =>
    obtain ⟨q, hq, rfl, HU, HG, HB⟩ := hrel
    clear G0 B0
    obtain ⟨c0, c1, c2⟩ := HG.out
    by_cases hlt : q < y.f.n
    · have i1 : (0 : Int) ≤ (q : Int) := by omega
      have i2 : (q : Int) < (y.f.n : Int) := by omega
      obtain ⟨a, ea, ca⟩ := (HH.out.fr.below HB.out).cell q hlt
      rw [ea] at c2
      obtain ⟨x, hx⟩ : ∃ x, g.fr.getD q 0 = x := ⟨_, rfl⟩
      rw [hx] at ca
      have HX := hid hx
      clear hx ea
      by_cases d1 : x < -1
      · have HE : Hid (okB g = false) := okB_not.2 fun o => by have h := (o.fro q (by have := HF.out; omega)).1; have h' : -1 ≤ x := (by rw [← HX.out]; exact h); omega
        go_wp2_with fail
        go_ret
        exact ⟨ret_bool HE.out.symm, HB.out⟩
      · by_cases d2 : (q : Int) ≤ x
        · have HE : Hid (okB g = false) := okB_not.2 fun o => by have h := (o.fro q (by have := HF.out; omega)).2; have h' : x < q := (by rw [← HX.out]; exact h); omega
          have d3 : x ≥ (q : Int) := d2
          go_wp2_with fail
          go_ret
          exact ⟨ret_bool HE.out.symm, HB.out⟩
        · have d3 : ¬ x ≥ (q : Int) := d2
          have HD : Hid (-1 ≤ x ∧ x < q) := ⟨by omega, by omega⟩
          go_wp2_with fail
          go_roundw
          case rel =>
            refine ⟨q + 1, by omega, by go_num, fun j hj => ?_, HG, HB⟩
            rcases Nat.lt_or_ge j q with r | r
            · exact HU.out j r
            · obtain rfl : j = q := by omega
              show -1 ≤ g.fr.getD j 0 ∧ g.fr.getD j 0 < j
              rw [HX.out]
              exact HD.out
          case measure => simp [intOf]; omega
    · obtain rfl : q = y.f.n := by omega
      go_wp2_with fail
      clear c0 c1 c2
      go_loopw [4] (fun i wr => ∃ q : Nat, q ≤ y.k.n ∧ i = .int .i64 q ∧ Hid (∀ j, j < q → OkP g j) ∧ Hid (InG wr w.heap.size y) ∧ Hid (Below w.heap.size w wr)) (fun i _ => y.k.n - (intOf i).toNat)
      case atStart => exact ⟨0, Nat.zero_le _, rfl, fun j hj => absurd hj (by omega), HG, HB⟩
      case round =>
        obtain ⟨p, hp, rfl, HV, HG2, HB2⟩ := hrel
        clear HG HB
        by_cases hpl : p < y.k.n
        · have i1 : (0 : Int) ≤ (p : Int) := by omega
          have i2 : (p : Int) < (y.k.n : Int) := by omega
          have i3 : (p : Int) < (y.i.n : Int) := by have := H1.out; omega
          have hpi : p < y.i.n := by have := H1.out; omega
          obtain ⟨c0, c1, c2⟩ := HG2.out.always
          obtain ⟨z0, z1, z2⟩ := HG2.out
          obtain ⟨a, ea, ca⟩ := (HH.out.ks.below HB2.out).at p hpl
          obtain ⟨b, eb, cb⟩ := (HH.out.is.below HB2.out).cell p hpi
          rw [ea] at c0 z0
          rw [eb] at c1 z1
          obtain ⟨x, hx⟩ : ∃ x, g.ks.getD p (0, 0) = x := ⟨_, rfl⟩
          obtain ⟨v, hv⟩ : ∃ v, g.is.getD p 0 = v := ⟨_, rfl⟩
          rw [hx] at ca
          rw [hv] at cb
          have HX := hid hx
          have HVv := hid hv
          have HEa := hid ea
          have HEb := hid eb
          clear hx hv ea eb
          obtain ⟨f0, f1⟩ := ca.always
          have f2 : ∀ g : Later wr, g.now.cell? (b.add p) = some (.int .i64 v) := fun g => g.cell cb
          have HCa := hid ca
          have HCb := hid cb
          clear ca cb
          have hne : Nonempty (Later wr) := ⟨⟨_, Below.refl _ _⟩⟩
          have hbad : Hid (∀ (_ : ¬ OkP g p), okB g = false) := fun h => okB_not.2 fun o => h (o.at (by have := HK.out; omega))
          cases hk : okK x with
          | false =>
            have HE := hid (hbad.out fun o => by have h := o.key; unfold Kk at h; rw [HX.out, hk] at h; cases h)
            have HKi : Hid (∀ W : World, Calls Try.prog 39 #[(.agg #[.int .i64 x.1, .int .i64 x.2])] W fun e w' => e = .returned (.bool false) ∧ Below W.heap.size W w') := fun W => by have h := ki_any x W; rwa [hk] at h
            clear hk
            go_wp2_with fail
            refine wp_region_later (by kernel_rfl) (by kernel_rfl) ?_
            repeat (go_big_quiet_step (first | (go_at_call 39; exact later_call (HKi.out _))))
            refine wpQuiet_nil ?_
            rintro w9 ⟨⟨_, b9⟩, rfl⟩
            have B9 := hid (q_trans HB2.out b9)
            clear b9 c0 c1 c2 f0 f1 f2 hne z0 z1 z2
            go_wp2_with fail
            go_ret
            exact ⟨ret_bool HE.out.symm, B9.out⟩
          | true =>
            have HKi : Hid (∀ W : World, Calls Try.prog 39 #[(.agg #[.int .i64 x.1, .int .i64 x.2])] W fun e w' => e = .returned (.bool true) ∧ Below W.heap.size W w') := fun W => by have h := ki_any x W; rwa [hk] at h
            have HKk := hid hk
            clear hk
            by_cases d1 : v < 0
            · have HE := hid (hbad.out fun o => by have h : 0 ≤ g.is.getD p 0 := o.lo; rw [HVv.out] at h; omega)
              go_wp2_with fail
              have d2 : v < 0 := by omega
              refine wp_region_later (by kernel_rfl) (by kernel_rfl) ?_
              repeat (go_big_quiet_step (first | (go_at_call 39; exact later_call (HKi.out _))))
              refine wpQuiet_nil ?_
              rintro w9 ⟨⟨_, b9⟩, rfl⟩
              have B9 := hid (q_trans HB2.out b9)
              clear b9 c0 c1 c2 f0 f1 f2 hne z0 z1 z2
              go_wp2_with fail
              go_ret
              exact ⟨ret_bool HE.out.symm, B9.out⟩
            · by_cases d2 : (y.f.n : Int) ≤ v
              · have HE := hid (hbad.out fun o => by have h : g.is.getD p 0 < g.fr.length := o.hi; rw [HVv.out] at h; have := HF.out; omega)
                go_wp2_with fail
                have d3 : ¬ v < 0 := by omega
                have d4 : v ≥ (y.f.n : Int) := by omega
                refine wp_region_later (by kernel_rfl) (by kernel_rfl) ?_
                repeat (go_big_quiet_step (first | (go_at_call 39; exact later_call (HKi.out _))))
                refine wpQuiet_nil ?_
                rintro w9 ⟨⟨_, b9⟩, rfl⟩
                have B9 := hid (q_trans HB2.out b9)
                clear b9 c0 c1 c2 f0 f1 f2 hne z0 z1 z2
                go_wp2_with fail
                go_ret
                exact ⟨ret_bool HE.out.symm, B9.out⟩
              · have HR : Hid (0 ≤ v ∧ v < y.f.n) := ⟨by omega, by omega⟩
                go_wp2_with fail
                have d3 : ¬ v < 0 := by omega
                have d4 : ¬ v ≥ (y.f.n : Int) := by omega
                refine wp_region_later (by kernel_rfl) (by kernel_rfl) ?_
                repeat (go_big_quiet_step (first | (go_at_call 39; exact later_call (HKi.out _))))
                refine wpQuiet_nil ?_
                rintro w9 ⟨⟨_, b9⟩, rfl⟩
                have B9 := hid (q_trans HB2.out b9)
                have G9 := hid (HG2.out.below b9)
                clear b9 c0 c1 c2 f0 f1 f2 hne d3 d4 z0 z1 z2
                go_wp2_with fail
                go_loopw [5] (fun i wr => ∃ m : Nat, m ≤ p ∧ i = .int .i64 m ∧ Hid (∀ j, j < m → Kk g.ks j ≠ x ∧ Ii g.is j ≠ v) ∧ Hid (InG wr w.heap.size y) ∧ Hid (Below w.heap.size w wr)) (fun i _ => p - (intOf i).toNat)
                case atStart => exact ⟨0, Nat.zero_le _, rfl, fun j hj => absurd hj (by omega), G9, B9⟩
                case round =>
                  obtain ⟨m, hm, rfl, HM, HG3, HB3⟩ := hrel
                  clear B9 G9
                  by_cases hml : m < p
                  · have l1 : (0 : Int) ≤ (m : Int) := by omega
                    have l2 : (m : Int) < (y.k.n : Int) := by omega
                    have l3 : (m : Int) < (y.i.n : Int) := by omega
                    have l4 : (m : Int) < (p : Int) := by omega
                    obtain ⟨c0, c1, c2⟩ := HG3.out.always
                    obtain ⟨a2, ea2, ca2⟩ := (HH.out.ks.below HB3.out).at m (by omega)
                    obtain ⟨b2, eb2, cb2⟩ := (HH.out.is.below HB3.out).cell m (by omega)
                    obtain ⟨a3, ea3, ca3⟩ := (HH.out.ks.below HB3.out).at p hpl
                    obtain ⟨b3, eb3, cb3⟩ := (HH.out.is.below HB3.out).cell p hpi
                    rw [ea2] at ea3 c0
                    rw [eb2] at eb3 c1
                    cases ea3
                    cases eb3
                    obtain ⟨x2, hx2⟩ : ∃ x, g.ks.getD m (0, 0) = x := ⟨_, rfl⟩
                    obtain ⟨v2, hv2⟩ : ∃ v, g.is.getD m 0 = v := ⟨_, rfl⟩
                    rw [hx2] at ca2
                    rw [hv2] at cb2
                    rw [HX.out] at ca3
                    rw [HVv.out] at cb3
                    have HX2 := hid hx2
                    have HV2 := hid hv2
                    obtain ⟨f0, f1⟩ := ca2.always
                    obtain ⟨f3, f4⟩ := ca3.always
                    have f2 : ∀ g : Later wr, g.now.cell? (b2.add m) = some (.int .i64 v2) := fun g => g.cell cb2
                    have f5 : ∀ g : Later wr, g.now.cell? (b2.add p) = some (.int .i64 v) := fun g => g.cell cb3
                    have hne : Nonempty (Later wr) := ⟨⟨_, Below.refl _ _⟩⟩
                    clear ca2 ca3 cb2 cb3 hx2 hv2 ea2 eb2
                    by_cases e1 : x2 = x
                    · have HE := hid (hbad.out fun o => (o.un m hml).1 (by unfold Kk; rw [HX2.out, HX.out]; exact e1))
                      have ee := eqk_yes e1
                      clear e1
                      go_wp2_with fail
                      refine wp_region_later (by kernel_rfl) (by kernel_rfl) ?_
                      repeat (go_big_quiet_step (fail))
                      refine wpQuiet_nil ?_
                      rintro w9 ⟨⟨_, b9⟩, rfl⟩
                      have B9 := hid (q_trans HB3.out b9)
                      clear b9 c0 c1 c2 f0 f1 f2 f3 f4 f5 hne ee
                      go_wp2_with fail
                      go_ret
                      exact ⟨ret_bool HE.out.symm, B9.out⟩
                    · have ee := eqk_no e1
                      have HE1 := hid e1
                      clear e1
                      by_cases e2 : v2 = v
                      · have HE := hid (hbad.out fun o => (o.un m hml).2 (by unfold Ii; rw [HV2.out, HVv.out]; exact e2))
                        have e3 : (v2 == v) = true := by simp [e2]
                        clear e2
                        go_wp2_with fail
                        refine wp_region_later (by kernel_rfl) (by kernel_rfl) ?_
                        repeat (go_big_quiet_step (fail))
                        refine wpQuiet_nil ?_
                        rintro w9 ⟨⟨_, b9⟩, rfl⟩
                        have B9 := hid (q_trans HB3.out b9)
                        clear b9 c0 c1 c2 f0 f1 f2 f3 f4 f5 hne ee e3
                        go_wp2_with fail
                        go_ret
                        exact ⟨ret_bool HE.out.symm, B9.out⟩
                      · have e3 : (v2 == v) = false := by simp [e2]
                        have HE2 := hid e2
                        clear e2
                        go_wp2_with fail
                        refine wp_region_later (by kernel_rfl) (by kernel_rfl) ?_
                        repeat (go_big_quiet_step (fail))
                        refine wpQuiet_nil ?_
                        rintro w9 ⟨⟨_, b9⟩, rfl⟩
                        have B9 := hid (q_trans HB3.out b9)
                        have G9 := hid (HG3.out.below b9)
                        clear b9 c0 c1 c2 f0 f1 f2 f3 f4 f5 hne ee e3
                        go_wp2_with fail
                        go_roundw
                        case rel =>
                          refine ⟨m + 1, by omega, by go_num, fun j hj => ?_, G9, B9⟩
                          rcases Nat.lt_or_ge j m with r | r
                          · exact HM.out j r
                          · obtain rfl : j = m := by omega
                            exact ⟨by unfold Kk; rw [HX2.out]; exact HE1.out, by unfold Ii; rw [HV2.out]; exact HE2.out⟩
                        case measure => simp [intOf]; omega
                  · obtain rfl : m = p := by omega
                    go_wp2_with fail
                    go_roundw
                    case rel =>
                      refine ⟨m + 1, by omega, by go_num, fun j hj => ?_, HG3, HB3⟩
                      rcases Nat.lt_or_ge j m with r | r
                      · exact HV.out j r
                      · obtain rfl : j = m := by omega
                        have h1 := HR.out
                        have h2 := HF.out
                        refine ⟨by unfold Kk; rw [HX.out]; exact HKk.out, by unfold Ii; rw [HVv.out]; exact h1.1, by unfold Ii; rw [HVv.out]; omega, fun i hi => ?_⟩
                        have h3 := HM.out i hi
                        exact ⟨by unfold Kk at h3 ⊢; rw [HX.out]; exact h3.1, by unfold Ii at h3 ⊢; rw [HVv.out]; exact h3.2⟩
                    case measure => simp [intOf]; omega
        · obtain rfl : p = y.k.n := by omega
          have HE : Hid (okB g = true) := okB_iff.2 (ok_of (by rw [← HK.out, ← HI.out]; exact H1.out) (by rw [← HF.out]; exact h2) (fun i hi => HU.out i (by have := HF.out; omega)) (fun i hi => HV.out i (by have := HK.out; omega)))
          obtain ⟨c0, c1, c2⟩ := HG2.out
          go_wp2_with fail
          go_ret
          exact ⟨ret_bool HE.out.symm, HB2.out⟩
/-- IS, OF WHATEVER GHOST. -/
theorem gis_any (y : Gv) (g : Gt) (w : World) (h : HasG w y g) :
    Calls Try.prog 16 #[(.agg #[.slice y.k.o y.k.n y.k.c, .slice y.i.o y.i.n y.i.c, .slice y.f.o y.f.n y.f.c])] w fun e w' => e = .returned (.bool (okB g)) ∧ Below w.heap.size w w' := by
  by_cases q : y.k.n ≠ y.i.n ∨ 4096 < y.f.n ∨ y.f.n < y.k.n
  · rw [okB_not.2 fun o => ?_]
    · exact gis_no y w q
    · have h1 := h.ks.len
      have h2 := h.is.len
      have h3 := h.fr.len
      have h4 := o.len
      have h5 := o.max
      have h6 := o.few
      omega
  · exact gis_in y g w (by omega) (by omega) (by omega) h
end Go.Proofs.Ytcldnacpddebcaa.Gh
