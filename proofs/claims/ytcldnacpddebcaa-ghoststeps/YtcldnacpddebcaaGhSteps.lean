/- GhostSteps: every ghost there may be, also wrong ones: whether it may be, whatever befalls. -/
import Derived.Test.YtcldnacpddebcaaGhSmall
import Derived.Test.YtcldnacpddebcaaGhLive
import Derived.Test.YtcldnacpddebcaaGhRAddA
namespace Go.Proofs.Ytcldnacpddebcaa.Gh
open Go.RowKit
open Go.Proofs.Ytcldnacpddebcaa.Tr

theorem three_new (w : World) (y z : Gv) (b : Bi) : Gb (((w.alloc (.cells #[.slice y.k.o y.k.n y.k.c, .slice y.i.o y.i.n y.i.c, .slice y.f.o y.f.n y.f.c] 25)).alloc (.cells #[.slice z.k.o z.k.n z.k.c, .slice z.i.o z.i.n z.i.c, .slice z.f.o z.f.n z.f.c] 25)).alloc (.cells #[.int .i64 b.kind, .int .i64 b.key.1, .int .i64 b.key.2, .int .i64 b.fm.1, .int .i64 b.fm.2] 29)) w.heap.size y ∧ Gb (((w.alloc (.cells #[.slice y.k.o y.k.n y.k.c, .slice y.i.o y.i.n y.i.c, .slice y.f.o y.f.n y.f.c] 25)).alloc (.cells #[.slice z.k.o z.k.n z.k.c, .slice z.i.o z.i.n z.i.c, .slice z.f.o z.f.n z.f.c] 25)).alloc (.cells #[.int .i64 b.kind, .int .i64 b.key.1, .int .i64 b.key.2, .int .i64 b.fm.1, .int .i64 b.fm.2] 29)) (w.heap.size + 1) z ∧ AtZ (((w.alloc (.cells #[.slice y.k.o y.k.n y.k.c, .slice y.i.o y.i.n y.i.c, .slice y.f.o y.f.n y.f.c] 25)).alloc (.cells #[.slice z.k.o z.k.n z.k.c, .slice z.i.o z.i.n z.i.c, .slice z.f.o z.f.n z.f.c] 25)).alloc (.cells #[.int .i64 b.kind, .int .i64 b.key.1, .int .i64 b.key.2, .int .i64 b.fm.1, .int .i64 b.fm.2] 29)) ⟨w.heap.size + 2, 0, none⟩ b ∧ Below w.heap.size w (((w.alloc (.cells #[.slice y.k.o y.k.n y.k.c, .slice y.i.o y.i.n y.i.c, .slice y.f.o y.f.n y.f.c] 25)).alloc (.cells #[.slice z.k.o z.k.n z.k.c, .slice z.i.o z.i.n z.i.c, .slice z.f.o z.f.n z.f.c] 25)).alloc (.cells #[.int .i64 b.kind, .int .i64 b.key.1, .int .i64 b.key.2, .int .i64 b.fm.1, .int .i64 b.fm.2] 29)) := by
  refine ⟨((gb_new w y).below (alloc_below _ _)).below (alloc_below _ _), ?_, ?_, q_alloc (q_alloc (alloc_below _ _) _) _⟩
  · have h := (gb_new (w.alloc (.cells #[.slice y.k.o y.k.n y.k.c, .slice y.i.o y.i.n y.i.c, .slice y.f.o y.f.n y.f.c] 25)) z).below (alloc_below _ (.cells #[.int .i64 b.kind, .int .i64 b.key.1, .int .i64 b.key.2, .int .i64 b.fm.1, .int .i64 b.fm.2] 29))
    rwa [show (w.alloc (.cells #[.slice y.k.o y.k.n y.k.c, .slice y.i.o y.i.n y.i.c, .slice y.f.o y.f.n y.f.c] 25)).heap.size = w.heap.size + 1 by simp] at h
  · have h := atZ_new ((w.alloc (.cells #[.slice y.k.o y.k.n y.k.c, .slice y.i.o y.i.n y.i.c, .slice y.f.o y.f.n y.f.c] 25)).alloc (.cells #[.slice z.k.o z.k.n z.k.c, .slice z.i.o z.i.n z.i.c, .slice z.f.o z.f.n z.f.c] 25)) b 29
    rwa [show ((w.alloc (.cells #[.slice y.k.o y.k.n y.k.c, .slice y.i.o y.i.n y.i.c, .slice y.f.o y.f.n y.f.c] 25)).alloc (.cells #[.slice z.k.o z.k.n z.k.c, .slice z.i.o z.i.n z.i.c, .slice z.f.o z.f.n z.f.c] 25)).heap.size = w.heap.size + 2 by simp] at h
theorem ad_lens (g : Gt) (b : Bi) : (adA g b).ks.length ≤ g.ks.length + 1 ∧ (adA g b).is.length ≤ g.is.length + 1 ∧ (adA g b).fr.length ≤ g.fr.length + 1 := by
  unfold adA
  split
  · omega
  · split
    · simp
    · split
      · have h1 := List.length_eraseIdx_le g.ks (pk g b.key)
        have h2 := List.length_eraseIdx_le g.is (pk g b.key)
        refine ⟨by simp; omega, by simp; omega, by simp⟩
      · simp
set_option maxRecDepth 100000 in
set_option maxHeartbeats 8000000 in
/-- GHOSTSTEPS. -/
theorem steps_any (y z : Gv) (g h : Gt) (b : Bi) (w : World) (HY : Hid (HasG w y g)) (HZ : Hid (HasG w z h)) :
    Calls Try.prog 3 #[(.agg #[.slice y.k.o y.k.n y.k.c, .slice y.i.o y.i.n y.i.c, .slice y.f.o y.f.n y.f.c]), (.agg #[.slice z.k.o z.k.n z.k.c, .slice z.i.o z.i.n z.i.c, .slice z.f.o z.f.n z.f.c]), (.agg #[.int .i64 b.kind, .int .i64 b.key.1, .int .i64 b.key.2, .int .i64 b.fm.1, .int .i64 b.fm.2])] w fun e w' => e = .returned (.bool true) ∧ Below w.heap.size w w' := by
  go_enter Try.func3, Try.ntmps3
  go_wp2_with fail
  have HT := hid (three_new w y z b)
  generalize ((w.alloc (.cells #[.slice y.k.o y.k.n y.k.c, .slice y.i.o y.i.n y.i.c, .slice y.f.o y.f.n y.f.c] 25)).alloc (.cells #[.slice z.k.o z.k.n z.k.c, .slice z.i.o z.i.n z.i.c, .slice z.f.o z.f.n z.f.c] 25)).alloc (.cells #[.int .i64 b.kind, .int .i64 b.key.1, .int .i64 b.key.2, .int .i64 b.fm.1, .int .i64 b.fm.2] 29) = W at HT ⊢
  have G1 := hid HT.out.1
  have G2 := hid HT.out.2.1
  have Z1 := hid HT.out.2.2.1
  have B := hid HT.out.2.2.2
  clear HT
  obtain ⟨c0, c1, c2, _, _, _⟩ := G1.out.inW
  refine (small_any y _).mono ?_
  rintro e w1 ⟨rfl, b1⟩
  replace G1 := hid (G1.out.below b1)
  replace G2 := hid (G2.out.below b1)
  replace Z1 := hid (Z1.out.below b1)
  replace B := hid (q_trans B.out b1)
  clear b1 c0 c1 c2
  obtain ⟨d0, d1, d2, _, _, _⟩ := G2.out.inW
  cases s1 : smB y with
  | false =>
    clear s1
    go_wp2_with fail
    refine (live_any _).mono ?_
    rintro e w2 ⟨rfl, b2⟩
    replace B := hid (q_trans B.out b2)
    clear b2
    go_wp2_with fail
    go_ret
    exact ⟨rfl, B.out⟩
  | true =>
    have S1 := hid (sm_len s1)
    clear s1
    go_wp2_with fail
    refine (small_any z _).mono ?_
    rintro e w2 ⟨rfl, b2⟩
    replace G1 := hid (G1.out.below b2)
    replace G2 := hid (G2.out.below b2)
    replace Z1 := hid (Z1.out.below b2)
    replace B := hid (q_trans B.out b2)
    clear b2 d0 d1 d2
    cases s2 : smB z with
    | false =>
      clear s2
      go_wp2_with fail
      refine (live_any _).mono ?_
      rintro e w3 ⟨rfl, b3⟩
      replace B := hid (q_trans B.out b3)
      clear b3
      go_wp2_with fail
      go_ret
      exact ⟨rfl, B.out⟩
    | true =>
      have S2 := hid (sm_len s2)
      clear s2
      obtain ⟨c0, c1, c2, _, _, _⟩ := G1.out.inW
      obtain ⟨z0, z1, z2, z3, z4⟩ := Z1.out
      go_wp2_with fail
      refine (padd_any y g b w2 (by have := S1.out; omega) (by have := S1.out; omega) (by have := S1.out; omega) (HY.out.below B.out)).mono ?_
      rintro e w3 ⟨x, rfl, h3, b3⟩
      replace b3 := q_trans b3 (alloc_below w3 (.cells #[.slice x.k.o x.k.n x.k.c, .slice x.i.o x.i.n x.i.c, .slice x.f.o x.f.n x.f.c] 25))
      have X1 := hid (hg_new h3)
      replace G1 := hid (G1.out.below b3)
      replace G2 := hid (G2.out.below b3)
      replace Z1 := hid (Z1.out.below b3)
      replace B := hid (q_trans B.out b3)
      clear b3 h3 c0 c1 c2 z0 z1 z2 z3 z4
      go_upto_region 4 with fail
      generalize w3.heap.size = p1 at X1 ⊢
      generalize w3.alloc (.cells #[.slice x.k.o x.k.n x.k.c, .slice x.i.o x.i.n x.i.c, .slice x.f.o x.f.n x.f.c] 25) = w4 at X1 G1 G2 Z1 B ⊢
      obtain ⟨c0, c1, c2, _, _, _⟩ := G1.out.inW
      obtain ⟨z0, z1, z2, z3, z4⟩ := Z1.out
      go_wp2_with fail
      refine (radd_any y g b w4 (HY.out.below B.out)).mono ?_
      rintro e w5 ⟨x', rfl, h5, b5⟩
      replace b5 := q_trans b5 (alloc_below w5 (.cells #[.slice x'.k.o x'.k.n x'.k.c, .slice x'.i.o x'.i.n x'.i.c, .slice x'.f.o x'.f.n x'.f.c] 25))
      have X2 := hid (hg_new h5)
      replace X1 := hid (X1.out.below b5)
      replace G1 := hid (G1.out.below b5)
      replace G2 := hid (G2.out.below b5)
      replace B := hid (q_trans B.out b5)
      clear b5 h5 c0 c1 c2 z0 z1 z2 z3 z4 Z1
      go_upto_region 5 with fail
      generalize w5.heap.size = p2 at X2 ⊢
      generalize w5.alloc (.cells #[.slice x'.k.o x'.k.n x'.k.c, .slice x'.i.o x'.i.n x'.i.c, .slice x'.f.o x'.f.n x'.f.c] 25) = V at X1 X2 G1 G2 B ⊢
      have C1 : Hid (∀ X, Below V.heap.size V X → Calls Try.prog 13 #[(.agg #[.slice x.k.o x.k.n x.k.c, .slice x.i.o x.i.n x.i.c, .slice x.f.o x.f.n x.f.c]), (.agg #[.slice x'.k.o x'.k.n x'.k.c, .slice x'.i.o x'.i.n x'.i.c, .slice x'.f.o x'.f.n x'.f.c])] X fun e w' => e = .returned (.bool true) ∧ Below X.heap.size X w') := fun X q => by
        have hk := X1.out.has.ks.len
        have hi := X1.out.has.is.len
        have hf := X1.out.has.fr.len
        have hl : x.k.n ≤ 5000 ∧ x.i.n ≤ 5000 ∧ x.f.n ≤ 5000 := by
          have s := S1.out
          have a1 := HY.out.ks.len
          have a2 := HY.out.is.len
          have a3 := HY.out.fr.len
          have la := ad_lens g b
          omega
        have r := gsame_any x x' (adA g b) (adA g b) X (by omega) (by omega) (by omega) (X1.out.has.below q) (X2.out.has.below q)
        rwa [sgB_refl] at r
      have C2 : Hid (∀ X, Below V.heap.size V X → Calls Try.prog 17 #[(.agg #[.slice y.k.o y.k.n y.k.c, .slice y.i.o y.i.n y.i.c, .slice y.f.o y.f.n y.f.c]), (.agg #[.slice z.k.o z.k.n z.k.c, .slice z.i.o z.i.n z.i.c, .slice z.f.o z.f.n z.f.c])] X fun e w' => e = .returned (.bool (sgB g h)) ∧ Below X.heap.size X w') := fun X q => pgsame_any y z g h X (by have := S1.out; omega) (by have := S1.out; omega) (by have := S1.out; omega) (HY.out.below (q_trans B.out q)) (HZ.out.below (q_trans B.out q))
      have C3 : Hid (∀ X, Below V.heap.size V X → Calls Try.prog 13 #[(.agg #[.slice y.k.o y.k.n y.k.c, .slice y.i.o y.i.n y.i.c, .slice y.f.o y.f.n y.f.c]), (.agg #[.slice z.k.o z.k.n z.k.c, .slice z.i.o z.i.n z.i.c, .slice z.f.o z.f.n z.f.c])] X fun e w' => e = .returned (.bool (sgB g h)) ∧ Below X.heap.size X w') := fun X q => gsame_any y z g h X (by have := S1.out; omega) (by have := S1.out; omega) (by have := S1.out; omega) (HY.out.below (q_trans B.out q)) (HZ.out.below (q_trans B.out q))
      have C4 : Hid (∀ X, Below V.heap.size V X → Calls Try.prog 15 #[(.agg #[.slice y.k.o y.k.n y.k.c, .slice y.i.o y.i.n y.i.c, .slice y.f.o y.f.n y.f.c])] X fun e w' => e = .returned (.int .i64 (cgE g)) ∧ Below X.heap.size X w') := fun X q => pcheck_any y g X (by have := S1.out; omega) (HY.out.below (q_trans B.out q))
      have C5 : Hid (∀ X, Below V.heap.size V X → Calls Try.prog 16 #[(.agg #[.slice y.k.o y.k.n y.k.c, .slice y.i.o y.i.n y.i.c, .slice y.f.o y.f.n y.f.c])] X fun e w' => e = .returned (.bool (okB g)) ∧ Below X.heap.size X w') := fun X q => gis_any y g X (HY.out.below (q_trans B.out q))
      obtain ⟨v, hv⟩ : ∃ v, adE g b = v := ⟨_, rfl⟩
      rw [hv]
      clear hv
      have hvv : (v == v) = true := by simp
      obtain ⟨c0, c1, c2⟩ := G1.out.inW.inG.always
      obtain ⟨d0, d1, d2⟩ := G2.out.inW.inG.always
      obtain ⟨x0, x1, x2⟩ := X1.out.gb.inW.inG.always
      obtain ⟨t0, t1, t2⟩ := X2.out.gb.inW.inG.always
      have hne : Nonempty (Later V) := ⟨⟨_, Below.refl _ _⟩⟩
      have HO : Hid (cgE g = if okB g then 0 else 2) := rfl
      cases ho : okB g with
      | true =>
        rw [ho] at C5 HO
        replace HO : Hid (cgE g = 0) := HO.out
        rw [HO.out] at C4
        cases hs : sgB g h with
        | true =>
          rw [hs] at C2 C3
          clear ho hs
          refine wp_region_later (by kernel_rfl) (by kernel_rfl) ?_
          repeat (go_big_quiet_step (first | (go_at_call 14; with_reducible exact later_call (gnum_low _ _)) | (go_at_call 10; with_reducible exact later_call (live_any _)) | (go_at_call 15; with_reducible exact later_call (C4.out _ (Later.low _))) | (go_at_call 16; with_reducible exact later_call (C5.out _ (Later.low _))) | (go_at_call 17; with_reducible exact later_call (C2.out _ (Later.low _))) | (go_at_call 13; with_reducible exact later_call (C1.out _ (Later.low _))) | (go_at_call 13; with_reducible exact later_call (C3.out _ (Later.low _)))))
          refine wpQuiet_nil ?_
          rintro w9 ⟨⟨_, b9⟩, rfl⟩
          replace B := hid (q_trans B.out b9)
          clear b9
          go_wp2_with fail
          go_ret
          exact ⟨rfl, B.out⟩
        | false =>
          rw [hs] at C2 C3
          clear ho hs
          refine wp_region_later (by kernel_rfl) (by kernel_rfl) ?_
          repeat (go_big_quiet_step (first | (go_at_call 14; with_reducible exact later_call (gnum_low _ _)) | (go_at_call 10; with_reducible exact later_call (live_any _)) | (go_at_call 15; with_reducible exact later_call (C4.out _ (Later.low _))) | (go_at_call 16; with_reducible exact later_call (C5.out _ (Later.low _))) | (go_at_call 17; with_reducible exact later_call (C2.out _ (Later.low _))) | (go_at_call 13; with_reducible exact later_call (C1.out _ (Later.low _))) | (go_at_call 13; with_reducible exact later_call (C3.out _ (Later.low _)))))
          refine wpQuiet_nil ?_
          rintro w9 ⟨⟨_, b9⟩, rfl⟩
          replace B := hid (q_trans B.out b9)
          clear b9
          go_wp2_with fail
          go_ret
          exact ⟨rfl, B.out⟩
      | false =>
        rw [ho] at C5 HO
        replace HO : Hid (cgE g = 2) := HO.out
        rw [HO.out] at C4
        cases hs : sgB g h with
        | true =>
          rw [hs] at C2 C3
          clear ho hs
          refine wp_region_later (by kernel_rfl) (by kernel_rfl) ?_
          repeat (go_big_quiet_step (first | (go_at_call 14; with_reducible exact later_call (gnum_low _ _)) | (go_at_call 10; with_reducible exact later_call (live_any _)) | (go_at_call 15; with_reducible exact later_call (C4.out _ (Later.low _))) | (go_at_call 16; with_reducible exact later_call (C5.out _ (Later.low _))) | (go_at_call 17; with_reducible exact later_call (C2.out _ (Later.low _))) | (go_at_call 13; with_reducible exact later_call (C1.out _ (Later.low _))) | (go_at_call 13; with_reducible exact later_call (C3.out _ (Later.low _)))))
          refine wpQuiet_nil ?_
          rintro w9 ⟨⟨_, b9⟩, rfl⟩
          replace B := hid (q_trans B.out b9)
          clear b9
          go_wp2_with fail
          go_ret
          exact ⟨rfl, B.out⟩
        | false =>
          rw [hs] at C2 C3
          clear ho hs
          refine wp_region_later (by kernel_rfl) (by kernel_rfl) ?_
          repeat (go_big_quiet_step (first | (go_at_call 14; with_reducible exact later_call (gnum_low _ _)) | (go_at_call 10; with_reducible exact later_call (live_any _)) | (go_at_call 15; with_reducible exact later_call (C4.out _ (Later.low _))) | (go_at_call 16; with_reducible exact later_call (C5.out _ (Later.low _))) | (go_at_call 17; with_reducible exact later_call (C2.out _ (Later.low _))) | (go_at_call 13; with_reducible exact later_call (C1.out _ (Later.low _))) | (go_at_call 13; with_reducible exact later_call (C3.out _ (Later.low _)))))
          refine wpQuiet_nil ?_
          rintro w9 ⟨⟨_, b9⟩, rfl⟩
          replace B := hid (q_trans B.out b9)
          clear b9
          go_wp2_with fail
          go_ret
          exact ⟨rfl, B.out⟩
theorem steps_row (y : Gv) (g : Gt) (z : Gv) (h : Gt) (b : Bi) (w : World) (HY : HasG w y g) (HZ : HasG w z h) :
    Calls Try.prog 3 #[(.agg #[.slice y.k.o y.k.n y.k.c, .slice y.i.o y.i.n y.i.c, .slice y.f.o y.f.n y.f.c]), (.agg #[.slice z.k.o z.k.n z.k.c, .slice z.i.o z.i.n z.i.c, .slice z.f.o z.f.n z.f.c]), (.agg #[.int .i64 b.kind, .int .i64 b.key.1, .int .i64 b.key.2, .int .i64 b.fm.1, .int .i64 b.fm.2])] w fun e w' => e = .returned (.bool true) ∧ Below w.heap.size w w' := steps_any y z g h b w HY HZ
end Go.Proofs.Ytcldnacpddebcaa.Gh
