/- What the document's Add (of ghosts) does: what is refused of a ghost that may be. -/
import Derived.Test.YtcldnacpddebcaaGhRAdd1
namespace Go.Proofs.Ytcldnacpddebcaa.Gh
open Go.RowKit
open Go.Proofs.Ytcldnacpddebcaa.Tr

set_option maxRecDepth 100000 in
set_option maxHeartbeats 2000000 in
theorem radd_there1 (y : Gv) (g : Gt) (key fm : P) (w : World) (ho : okB g = true) (hk : okK key = true) (i : Nat) (hi : fk key g.ks = some i)  (HY : Hid (HasG w y g)) :
    Calls Try.prog 12 #[(.agg #[.slice y.k.o y.k.n y.k.c, .slice y.i.o y.i.n y.i.c, .slice y.f.o y.f.n y.f.c]), .agg #[.int .i64 1, .int .i64 key.1, .int .i64 key.2, .int .i64 fm.1, .int .i64 fm.2]] w fun e w' => ∃ z : Gv, e = .returned (.tuple #[(.agg #[.slice z.k.o z.k.n z.k.c, .slice z.i.o z.i.n z.i.c, .slice z.f.o z.f.n z.f.c]), .int .i64 (adE g ⟨1, key, fm⟩)]) ∧ HasG w' z (adA g ⟨1, key, fm⟩) ∧ Below w.heap.size w w' := by
  have HE : Hid (adE g ⟨1, key, fm⟩ = 8) := by unfold Hid; simp [adE, ho, hk, hi, two, hasG]
  have HS : Hid (y.k.n ≤ 9223372036854775806) := by have h1 := (okB_iff.1 ho).few; have h2 := (okB_iff.1 ho).max; have h3 := HY.out.ks.len; unfold Hid; omega
  have i0 : ¬ (i : Int) < 0 := by omega
  have i1 : (i : Int) ≥ 0 := by omega
  go_enter Try.func12, Try.ntmps12
  go_wp2_with fail
  have HA := hid (ab_new w y ⟨1, key, fm⟩)
  unfold nilG at HA
  generalize ((w.alloc (.cells #[.slice y.k.o y.k.n y.k.c, .slice y.i.o y.i.n y.i.c, .slice y.f.o y.f.n y.f.c] 25)).alloc (.cells #[.int .i64 1, .int .i64 key.1, .int .i64 key.2, .int .i64 fm.1, .int .i64 fm.2] 29)).alloc (.cells #[.slice none 0 0, .slice none 0 0, .slice none 0 0] 25) = W at HA ⊢
  refine (gis_any y g W (HY.out.below HA.out.low)).mono ?_
  rintro e w1 ⟨rfl, b1⟩
  replace HA := hid (HA.out.below b1)
  clear b1
  rw [ho]
  obtain ⟨c0, c1, c2, _, _, _⟩ := HA.out.g
  obtain ⟨z0, z1, z2, z3, z4⟩ := HA.out.z
  obtain ⟨r0, r1, r2, f0, f1, f2⟩ := HA.out.r
  have hb1 : w.heap.size + 2 < w1.heap.size := HA.out.r.lt
  go_wp2_with fail
  refine (ki_any key _).mono ?_
  rintro e w2 ⟨rfl, b2⟩
  replace HA := hid (HA.out.below b2)
  clear b2 c0 c1 c2 z0 z1 z2 z3 z4 r0 r1 r2 f0 f1 f2 hb1
  rw [hk]
  obtain ⟨c0, c1, c2, _, _, _⟩ := HA.out.g
  obtain ⟨z0, z1, z2, z3, z4⟩ := HA.out.z
  obtain ⟨r0, r1, r2, f0, f1, f2⟩ := HA.out.r
  have hb1 : w.heap.size + 2 < w2.heap.size := HA.out.r.lt
  go_wp2_with fail
  have C1 : Hid (∀ W, Below w2.heap.size w2 W → Calls Try.prog 40 #[(.agg #[.slice y.k.o y.k.n y.k.c, .slice y.i.o y.i.n y.i.c, .slice y.f.o y.f.n y.f.c]), (.agg #[.int .i64 key.1, .int .i64 key.2])] W fun e w' => e = .returned (.int .i64 (i : Int)) ∧ Below W.heap.size W w') := fun W q => by rw [← fkI_some hi]; exact gfind_any y g.ks key W HS.out (HY.out.ks.below (q_trans HA.out.low q))
  have C2 : Hid (∀ W, Below w2.heap.size w2 W → Calls Try.prog 40 #[(.agg #[.slice y.k.o y.k.n y.k.c, .slice y.i.o y.i.n y.i.c, .slice y.f.o y.f.n y.f.c]), (.agg #[.int .i64 fm.1, .int .i64 fm.2])] W fun e w' => e = .returned (.int .i64 (fkI fm g.ks)) ∧ Below W.heap.size W w') := fun W q => gfind_any y g.ks fm W HS.out (HY.out.ks.below (q_trans HA.out.low q))
  clear c0 c1 c2 z0 z1 z2 z3 z4 r0 r1 r2 f0 f1 f2 hb1
  obtain ⟨c0, c1, c2⟩ := HA.out.g.inG.always
  obtain ⟨z0, z1, z2, z3, z4⟩ := HA.out.z.always
  have hne : Nonempty (Later w2) := ⟨⟨_, Below.refl _ _⟩⟩
  refine wp_region_later (by kernel_rfl) (by kernel_rfl) ?_
  repeat (go_big_quiet_step (first | (go_at_call 40; with_reducible exact later_call (C1.out _ (Later.low _))) | (go_at_call 40; with_reducible exact later_call (C2.out _ (Later.low _)))))
  refine wpQuiet_nil ?_
  rintro w9 ⟨⟨_, b9⟩, rfl⟩
  replace HA := hid (HA.out.below b9)
  clear b9 c0 c1 c2 z0 z1 z2 z3 z4 hne C1 C2
  obtain ⟨c0, c1, c2, _, _, _⟩ := HA.out.g
  obtain ⟨z0, z1, z2, z3, z4⟩ := HA.out.z
  obtain ⟨r0, r1, r2, f0, f1, f2⟩ := HA.out.r
  have hb1 : w.heap.size + 2 < w9.heap.size := HA.out.r.lt
  go_wp2_with fail
  refine bodyPost_ret (v := .tuple #[(.agg #[.slice y.k.o y.k.n y.k.c, .slice y.i.o y.i.n y.i.c, .slice y.f.o y.f.n y.f.c]), .int .i64 8]) (by simp [results, Try.results12, go_sem, *]) rfl ⟨y, ret_gh HE.out.symm, ?_, HA.out.fin _ _ _⟩
  rw [ad_no HE.out (by decide)]
  exact HY.out.below (HA.out.fin _ _ _)
set_option maxRecDepth 100000 in
set_option maxHeartbeats 2000000 in
theorem radd_many1 (y : Gv) (g : Gt) (key fm : P) (w : World) (ho : okB g = true) (hk : okK key = true) (hi : fk key g.ks = none) (hm : 4096 ≤ g.fr.length) (HY : Hid (HasG w y g)) :
    Calls Try.prog 12 #[(.agg #[.slice y.k.o y.k.n y.k.c, .slice y.i.o y.i.n y.i.c, .slice y.f.o y.f.n y.f.c]), .agg #[.int .i64 1, .int .i64 key.1, .int .i64 key.2, .int .i64 fm.1, .int .i64 fm.2]] w fun e w' => ∃ z : Gv, e = .returned (.tuple #[(.agg #[.slice z.k.o z.k.n z.k.c, .slice z.i.o z.i.n z.i.c, .slice z.f.o z.f.n z.f.c]), .int .i64 (adE g ⟨1, key, fm⟩)]) ∧ HasG w' z (adA g ⟨1, key, fm⟩) ∧ Below w.heap.size w w' := by
  have HE : Hid (adE g ⟨1, key, fm⟩ = 6) := by unfold Hid; simp [adE, ho, hk, hi, two, hasG, hm]
  have HS : Hid (y.k.n ≤ 9223372036854775806) := by have h1 := (okB_iff.1 ho).few; have h2 := (okB_iff.1 ho).max; have h3 := HY.out.ks.len; unfold Hid; omega
  have m1 : (y.f.n : Int) ≥ 4096 := by have := HY.out.fr.len; omega
  go_enter Try.func12, Try.ntmps12
  go_wp2_with fail
  have HA := hid (ab_new w y ⟨1, key, fm⟩)
  unfold nilG at HA
  generalize ((w.alloc (.cells #[.slice y.k.o y.k.n y.k.c, .slice y.i.o y.i.n y.i.c, .slice y.f.o y.f.n y.f.c] 25)).alloc (.cells #[.int .i64 1, .int .i64 key.1, .int .i64 key.2, .int .i64 fm.1, .int .i64 fm.2] 29)).alloc (.cells #[.slice none 0 0, .slice none 0 0, .slice none 0 0] 25) = W at HA ⊢
  refine (gis_any y g W (HY.out.below HA.out.low)).mono ?_
  rintro e w1 ⟨rfl, b1⟩
  replace HA := hid (HA.out.below b1)
  clear b1
  rw [ho]
  obtain ⟨c0, c1, c2, _, _, _⟩ := HA.out.g
  obtain ⟨z0, z1, z2, z3, z4⟩ := HA.out.z
  obtain ⟨r0, r1, r2, f0, f1, f2⟩ := HA.out.r
  have hb1 : w.heap.size + 2 < w1.heap.size := HA.out.r.lt
  go_wp2_with fail
  refine (ki_any key _).mono ?_
  rintro e w2 ⟨rfl, b2⟩
  replace HA := hid (HA.out.below b2)
  clear b2 c0 c1 c2 z0 z1 z2 z3 z4 r0 r1 r2 f0 f1 f2 hb1
  rw [hk]
  obtain ⟨c0, c1, c2, _, _, _⟩ := HA.out.g
  obtain ⟨z0, z1, z2, z3, z4⟩ := HA.out.z
  obtain ⟨r0, r1, r2, f0, f1, f2⟩ := HA.out.r
  have hb1 : w.heap.size + 2 < w2.heap.size := HA.out.r.lt
  go_wp2_with fail
  have C1 : Hid (∀ W, Below w2.heap.size w2 W → Calls Try.prog 40 #[(.agg #[.slice y.k.o y.k.n y.k.c, .slice y.i.o y.i.n y.i.c, .slice y.f.o y.f.n y.f.c]), (.agg #[.int .i64 key.1, .int .i64 key.2])] W fun e w' => e = .returned (.int .i64 (-1)) ∧ Below W.heap.size W w') := fun W q => by rw [← fkI_none hi]; exact gfind_any y g.ks key W HS.out (HY.out.ks.below (q_trans HA.out.low q))
  have C2 : Hid (∀ W, Below w2.heap.size w2 W → Calls Try.prog 40 #[(.agg #[.slice y.k.o y.k.n y.k.c, .slice y.i.o y.i.n y.i.c, .slice y.f.o y.f.n y.f.c]), (.agg #[.int .i64 fm.1, .int .i64 fm.2])] W fun e w' => e = .returned (.int .i64 (fkI fm g.ks)) ∧ Below W.heap.size W w') := fun W q => gfind_any y g.ks fm W HS.out (HY.out.ks.below (q_trans HA.out.low q))
  clear c0 c1 c2 z0 z1 z2 z3 z4 r0 r1 r2 f0 f1 f2 hb1
  obtain ⟨c0, c1, c2⟩ := HA.out.g.inG.always
  obtain ⟨z0, z1, z2, z3, z4⟩ := HA.out.z.always
  have hne : Nonempty (Later w2) := ⟨⟨_, Below.refl _ _⟩⟩
  refine wp_region_later (by kernel_rfl) (by kernel_rfl) ?_
  repeat (go_big_quiet_step (first | (go_at_call 40; with_reducible exact later_call (C1.out _ (Later.low _))) | (go_at_call 40; with_reducible exact later_call (C2.out _ (Later.low _)))))
  refine wpQuiet_nil ?_
  rintro w9 ⟨⟨_, b9⟩, rfl⟩
  replace HA := hid (HA.out.below b9)
  clear b9 c0 c1 c2 z0 z1 z2 z3 z4 hne C1 C2
  obtain ⟨c0, c1, c2, _, _, _⟩ := HA.out.g
  obtain ⟨z0, z1, z2, z3, z4⟩ := HA.out.z
  obtain ⟨r0, r1, r2, f0, f1, f2⟩ := HA.out.r
  have hb1 : w.heap.size + 2 < w9.heap.size := HA.out.r.lt
  go_wp2_with fail
  refine bodyPost_ret (v := .tuple #[(.agg #[.slice y.k.o y.k.n y.k.c, .slice y.i.o y.i.n y.i.c, .slice y.f.o y.f.n y.f.c]), .int .i64 6]) (by simp [results, Try.results12, go_sem, *]) rfl ⟨y, ret_gh HE.out.symm, ?_, HA.out.fin _ _ _⟩
  rw [ad_no HE.out (by decide)]
  exact HY.out.below (HA.out.fin _ _ _)
set_option maxRecDepth 100000 in
set_option maxHeartbeats 2000000 in
theorem radd_none2 (y : Gv) (g : Gt) (key fm : P) (w : World) (ho : okB g = true) (hk : okK key = true) (hf : okK fm = true) (hj : fk fm g.ks = none)  (HY : Hid (HasG w y g)) :
    Calls Try.prog 12 #[(.agg #[.slice y.k.o y.k.n y.k.c, .slice y.i.o y.i.n y.i.c, .slice y.f.o y.f.n y.f.c]), .agg #[.int .i64 2, .int .i64 key.1, .int .i64 key.2, .int .i64 fm.1, .int .i64 fm.2]] w fun e w' => ∃ z : Gv, e = .returned (.tuple #[(.agg #[.slice z.k.o z.k.n z.k.c, .slice z.i.o z.i.n z.i.c, .slice z.f.o z.f.n z.f.c]), .int .i64 (adE g ⟨2, key, fm⟩)]) ∧ HasG w' z (adA g ⟨2, key, fm⟩) ∧ Below w.heap.size w w' := by
  have HE : Hid (adE g ⟨2, key, fm⟩ = 7) := by unfold Hid; simp [adE, ho, hk, hf, hj, two, hasG]
  have HS : Hid (y.k.n ≤ 9223372036854775806) := by have h1 := (okB_iff.1 ho).few; have h2 := (okB_iff.1 ho).max; have h3 := HY.out.ks.len; unfold Hid; omega
  go_enter Try.func12, Try.ntmps12
  go_wp2_with fail
  have HA := hid (ab_new w y ⟨2, key, fm⟩)
  unfold nilG at HA
  generalize ((w.alloc (.cells #[.slice y.k.o y.k.n y.k.c, .slice y.i.o y.i.n y.i.c, .slice y.f.o y.f.n y.f.c] 25)).alloc (.cells #[.int .i64 2, .int .i64 key.1, .int .i64 key.2, .int .i64 fm.1, .int .i64 fm.2] 29)).alloc (.cells #[.slice none 0 0, .slice none 0 0, .slice none 0 0] 25) = W at HA ⊢
  refine (gis_any y g W (HY.out.below HA.out.low)).mono ?_
  rintro e w1 ⟨rfl, b1⟩
  replace HA := hid (HA.out.below b1)
  clear b1
  rw [ho]
  obtain ⟨c0, c1, c2, _, _, _⟩ := HA.out.g
  obtain ⟨z0, z1, z2, z3, z4⟩ := HA.out.z
  obtain ⟨r0, r1, r2, f0, f1, f2⟩ := HA.out.r
  have hb1 : w.heap.size + 2 < w1.heap.size := HA.out.r.lt
  go_wp2_with fail
  refine (ki_any key _).mono ?_
  rintro e w2 ⟨rfl, b2⟩
  replace HA := hid (HA.out.below b2)
  clear b2 c0 c1 c2 z0 z1 z2 z3 z4 r0 r1 r2 f0 f1 f2 hb1
  rw [hk]
  obtain ⟨c0, c1, c2, _, _, _⟩ := HA.out.g
  obtain ⟨z0, z1, z2, z3, z4⟩ := HA.out.z
  obtain ⟨r0, r1, r2, f0, f1, f2⟩ := HA.out.r
  have hb1 : w.heap.size + 2 < w2.heap.size := HA.out.r.lt
  go_wp2_with fail
  refine (ki_any fm _).mono ?_
  rintro e w3 ⟨rfl, b3⟩
  replace HA := hid (HA.out.below b3)
  clear b3 c0 c1 c2 z0 z1 z2 z3 z4 r0 r1 r2 f0 f1 f2 hb1
  rw [hf]
  obtain ⟨c0, c1, c2, _, _, _⟩ := HA.out.g
  obtain ⟨z0, z1, z2, z3, z4⟩ := HA.out.z
  obtain ⟨r0, r1, r2, f0, f1, f2⟩ := HA.out.r
  have hb1 : w.heap.size + 2 < w3.heap.size := HA.out.r.lt
  go_wp2_with fail
  have C1 : Hid (∀ W, Below w3.heap.size w3 W → Calls Try.prog 40 #[(.agg #[.slice y.k.o y.k.n y.k.c, .slice y.i.o y.i.n y.i.c, .slice y.f.o y.f.n y.f.c]), (.agg #[.int .i64 key.1, .int .i64 key.2])] W fun e w' => e = .returned (.int .i64 (fkI key g.ks)) ∧ Below W.heap.size W w') := fun W q => gfind_any y g.ks key W HS.out (HY.out.ks.below (q_trans HA.out.low q))
  have C2 : Hid (∀ W, Below w3.heap.size w3 W → Calls Try.prog 40 #[(.agg #[.slice y.k.o y.k.n y.k.c, .slice y.i.o y.i.n y.i.c, .slice y.f.o y.f.n y.f.c]), (.agg #[.int .i64 fm.1, .int .i64 fm.2])] W fun e w' => e = .returned (.int .i64 (-1)) ∧ Below W.heap.size W w') := fun W q => by rw [← fkI_none hj]; exact gfind_any y g.ks fm W HS.out (HY.out.ks.below (q_trans HA.out.low q))
  clear c0 c1 c2 z0 z1 z2 z3 z4 r0 r1 r2 f0 f1 f2 hb1
  obtain ⟨c0, c1, c2⟩ := HA.out.g.inG.always
  obtain ⟨z0, z1, z2, z3, z4⟩ := HA.out.z.always
  have hne : Nonempty (Later w3) := ⟨⟨_, Below.refl _ _⟩⟩
  refine wp_region_later (by kernel_rfl) (by kernel_rfl) ?_
  repeat (go_big_quiet_step (first | (go_at_call 40; with_reducible exact later_call (C1.out _ (Later.low _))) | (go_at_call 40; with_reducible exact later_call (C2.out _ (Later.low _)))))
  refine wpQuiet_nil ?_
  rintro w9 ⟨⟨_, b9⟩, rfl⟩
  replace HA := hid (HA.out.below b9)
  clear b9 c0 c1 c2 z0 z1 z2 z3 z4 hne C1 C2
  obtain ⟨c0, c1, c2, _, _, _⟩ := HA.out.g
  obtain ⟨z0, z1, z2, z3, z4⟩ := HA.out.z
  obtain ⟨r0, r1, r2, f0, f1, f2⟩ := HA.out.r
  have hb1 : w.heap.size + 2 < w9.heap.size := HA.out.r.lt
  go_wp2_with fail
  refine bodyPost_ret (v := .tuple #[(.agg #[.slice y.k.o y.k.n y.k.c, .slice y.i.o y.i.n y.i.c, .slice y.f.o y.f.n y.f.c]), .int .i64 7]) (by simp [results, Try.results12, go_sem, *]) rfl ⟨y, ret_gh HE.out.symm, ?_, HA.out.fin _ _ _⟩
  rw [ad_no HE.out (by decide)]
  exact HY.out.below (HA.out.fin _ _ _)
set_option maxRecDepth 100000 in
set_option maxHeartbeats 2000000 in
theorem radd_there2 (y : Gv) (g : Gt) (key fm : P) (w : World) (ho : okB g = true) (hk : okK key = true) (hf : okK fm = true) (i : Nat) (hi : fk key g.ks = some i) (j : Nat) (hj : fk fm g.ks = some j)  (HY : Hid (HasG w y g)) :
    Calls Try.prog 12 #[(.agg #[.slice y.k.o y.k.n y.k.c, .slice y.i.o y.i.n y.i.c, .slice y.f.o y.f.n y.f.c]), .agg #[.int .i64 2, .int .i64 key.1, .int .i64 key.2, .int .i64 fm.1, .int .i64 fm.2]] w fun e w' => ∃ z : Gv, e = .returned (.tuple #[(.agg #[.slice z.k.o z.k.n z.k.c, .slice z.i.o z.i.n z.i.c, .slice z.f.o z.f.n z.f.c]), .int .i64 (adE g ⟨2, key, fm⟩)]) ∧ HasG w' z (adA g ⟨2, key, fm⟩) ∧ Below w.heap.size w w' := by
  have HE : Hid (adE g ⟨2, key, fm⟩ = 8) := by unfold Hid; simp [adE, ho, hk, hf, hi, hj, two, hasG]
  have HS : Hid (y.k.n ≤ 9223372036854775806) := by have h1 := (okB_iff.1 ho).few; have h2 := (okB_iff.1 ho).max; have h3 := HY.out.ks.len; unfold Hid; omega
  have i0 : ¬ (i : Int) < 0 := by omega
  have i1 : (i : Int) ≥ 0 := by omega
  have j0 : ¬ (j : Int) < 0 := by omega
  go_enter Try.func12, Try.ntmps12
  go_wp2_with fail
  have HA := hid (ab_new w y ⟨2, key, fm⟩)
  unfold nilG at HA
  generalize ((w.alloc (.cells #[.slice y.k.o y.k.n y.k.c, .slice y.i.o y.i.n y.i.c, .slice y.f.o y.f.n y.f.c] 25)).alloc (.cells #[.int .i64 2, .int .i64 key.1, .int .i64 key.2, .int .i64 fm.1, .int .i64 fm.2] 29)).alloc (.cells #[.slice none 0 0, .slice none 0 0, .slice none 0 0] 25) = W at HA ⊢
  refine (gis_any y g W (HY.out.below HA.out.low)).mono ?_
  rintro e w1 ⟨rfl, b1⟩
  replace HA := hid (HA.out.below b1)
  clear b1
  rw [ho]
  obtain ⟨c0, c1, c2, _, _, _⟩ := HA.out.g
  obtain ⟨z0, z1, z2, z3, z4⟩ := HA.out.z
  obtain ⟨r0, r1, r2, f0, f1, f2⟩ := HA.out.r
  have hb1 : w.heap.size + 2 < w1.heap.size := HA.out.r.lt
  go_wp2_with fail
  refine (ki_any key _).mono ?_
  rintro e w2 ⟨rfl, b2⟩
  replace HA := hid (HA.out.below b2)
  clear b2 c0 c1 c2 z0 z1 z2 z3 z4 r0 r1 r2 f0 f1 f2 hb1
  rw [hk]
  obtain ⟨c0, c1, c2, _, _, _⟩ := HA.out.g
  obtain ⟨z0, z1, z2, z3, z4⟩ := HA.out.z
  obtain ⟨r0, r1, r2, f0, f1, f2⟩ := HA.out.r
  have hb1 : w.heap.size + 2 < w2.heap.size := HA.out.r.lt
  go_wp2_with fail
  refine (ki_any fm _).mono ?_
  rintro e w3 ⟨rfl, b3⟩
  replace HA := hid (HA.out.below b3)
  clear b3 c0 c1 c2 z0 z1 z2 z3 z4 r0 r1 r2 f0 f1 f2 hb1
  rw [hf]
  obtain ⟨c0, c1, c2, _, _, _⟩ := HA.out.g
  obtain ⟨z0, z1, z2, z3, z4⟩ := HA.out.z
  obtain ⟨r0, r1, r2, f0, f1, f2⟩ := HA.out.r
  have hb1 : w.heap.size + 2 < w3.heap.size := HA.out.r.lt
  go_wp2_with fail
  have C1 : Hid (∀ W, Below w3.heap.size w3 W → Calls Try.prog 40 #[(.agg #[.slice y.k.o y.k.n y.k.c, .slice y.i.o y.i.n y.i.c, .slice y.f.o y.f.n y.f.c]), (.agg #[.int .i64 key.1, .int .i64 key.2])] W fun e w' => e = .returned (.int .i64 (i : Int)) ∧ Below W.heap.size W w') := fun W q => by rw [← fkI_some hi]; exact gfind_any y g.ks key W HS.out (HY.out.ks.below (q_trans HA.out.low q))
  have C2 : Hid (∀ W, Below w3.heap.size w3 W → Calls Try.prog 40 #[(.agg #[.slice y.k.o y.k.n y.k.c, .slice y.i.o y.i.n y.i.c, .slice y.f.o y.f.n y.f.c]), (.agg #[.int .i64 fm.1, .int .i64 fm.2])] W fun e w' => e = .returned (.int .i64 (j : Int)) ∧ Below W.heap.size W w') := fun W q => by rw [← fkI_some hj]; exact gfind_any y g.ks fm W HS.out (HY.out.ks.below (q_trans HA.out.low q))
  clear c0 c1 c2 z0 z1 z2 z3 z4 r0 r1 r2 f0 f1 f2 hb1
  obtain ⟨c0, c1, c2⟩ := HA.out.g.inG.always
  obtain ⟨z0, z1, z2, z3, z4⟩ := HA.out.z.always
  have hne : Nonempty (Later w3) := ⟨⟨_, Below.refl _ _⟩⟩
  refine wp_region_later (by kernel_rfl) (by kernel_rfl) ?_
  repeat (go_big_quiet_step (first | (go_at_call 40; with_reducible exact later_call (C1.out _ (Later.low _))) | (go_at_call 40; with_reducible exact later_call (C2.out _ (Later.low _)))))
  refine wpQuiet_nil ?_
  rintro w9 ⟨⟨_, b9⟩, rfl⟩
  replace HA := hid (HA.out.below b9)
  clear b9 c0 c1 c2 z0 z1 z2 z3 z4 hne C1 C2
  obtain ⟨c0, c1, c2, _, _, _⟩ := HA.out.g
  obtain ⟨z0, z1, z2, z3, z4⟩ := HA.out.z
  obtain ⟨r0, r1, r2, f0, f1, f2⟩ := HA.out.r
  have hb1 : w.heap.size + 2 < w9.heap.size := HA.out.r.lt
  go_wp2_with fail
  refine bodyPost_ret (v := .tuple #[(.agg #[.slice y.k.o y.k.n y.k.c, .slice y.i.o y.i.n y.i.c, .slice y.f.o y.f.n y.f.c]), .int .i64 8]) (by simp [results, Try.results12, go_sem, *]) rfl ⟨y, ret_gh HE.out.symm, ?_, HA.out.fin _ _ _⟩
  rw [ad_no HE.out (by decide)]
  exact HY.out.below (HA.out.fin _ _ _)
set_option maxRecDepth 100000 in
set_option maxHeartbeats 2000000 in
theorem radd_many2 (y : Gv) (g : Gt) (key fm : P) (w : World) (ho : okB g = true) (hk : okK key = true) (hf : okK fm = true) (hi : fk key g.ks = none) (j : Nat) (hj : fk fm g.ks = some j) (hm : 4096 ≤ g.fr.length) (HY : Hid (HasG w y g)) :
    Calls Try.prog 12 #[(.agg #[.slice y.k.o y.k.n y.k.c, .slice y.i.o y.i.n y.i.c, .slice y.f.o y.f.n y.f.c]), .agg #[.int .i64 2, .int .i64 key.1, .int .i64 key.2, .int .i64 fm.1, .int .i64 fm.2]] w fun e w' => ∃ z : Gv, e = .returned (.tuple #[(.agg #[.slice z.k.o z.k.n z.k.c, .slice z.i.o z.i.n z.i.c, .slice z.f.o z.f.n z.f.c]), .int .i64 (adE g ⟨2, key, fm⟩)]) ∧ HasG w' z (adA g ⟨2, key, fm⟩) ∧ Below w.heap.size w w' := by
  have HE : Hid (adE g ⟨2, key, fm⟩ = 6) := by unfold Hid; simp [adE, ho, hk, hf, hi, hj, two, hasG, hm]
  have HS : Hid (y.k.n ≤ 9223372036854775806) := by have h1 := (okB_iff.1 ho).few; have h2 := (okB_iff.1 ho).max; have h3 := HY.out.ks.len; unfold Hid; omega
  have j0 : ¬ (j : Int) < 0 := by omega
  have m1 : (y.f.n : Int) ≥ 4096 := by have := HY.out.fr.len; omega
  go_enter Try.func12, Try.ntmps12
  go_wp2_with fail
  have HA := hid (ab_new w y ⟨2, key, fm⟩)
  unfold nilG at HA
  generalize ((w.alloc (.cells #[.slice y.k.o y.k.n y.k.c, .slice y.i.o y.i.n y.i.c, .slice y.f.o y.f.n y.f.c] 25)).alloc (.cells #[.int .i64 2, .int .i64 key.1, .int .i64 key.2, .int .i64 fm.1, .int .i64 fm.2] 29)).alloc (.cells #[.slice none 0 0, .slice none 0 0, .slice none 0 0] 25) = W at HA ⊢
  refine (gis_any y g W (HY.out.below HA.out.low)).mono ?_
  rintro e w1 ⟨rfl, b1⟩
  replace HA := hid (HA.out.below b1)
  clear b1
  rw [ho]
  obtain ⟨c0, c1, c2, _, _, _⟩ := HA.out.g
  obtain ⟨z0, z1, z2, z3, z4⟩ := HA.out.z
  obtain ⟨r0, r1, r2, f0, f1, f2⟩ := HA.out.r
  have hb1 : w.heap.size + 2 < w1.heap.size := HA.out.r.lt
  go_wp2_with fail
  refine (ki_any key _).mono ?_
  rintro e w2 ⟨rfl, b2⟩
  replace HA := hid (HA.out.below b2)
  clear b2 c0 c1 c2 z0 z1 z2 z3 z4 r0 r1 r2 f0 f1 f2 hb1
  rw [hk]
  obtain ⟨c0, c1, c2, _, _, _⟩ := HA.out.g
  obtain ⟨z0, z1, z2, z3, z4⟩ := HA.out.z
  obtain ⟨r0, r1, r2, f0, f1, f2⟩ := HA.out.r
  have hb1 : w.heap.size + 2 < w2.heap.size := HA.out.r.lt
  go_wp2_with fail
  refine (ki_any fm _).mono ?_
  rintro e w3 ⟨rfl, b3⟩
  replace HA := hid (HA.out.below b3)
  clear b3 c0 c1 c2 z0 z1 z2 z3 z4 r0 r1 r2 f0 f1 f2 hb1
  rw [hf]
  obtain ⟨c0, c1, c2, _, _, _⟩ := HA.out.g
  obtain ⟨z0, z1, z2, z3, z4⟩ := HA.out.z
  obtain ⟨r0, r1, r2, f0, f1, f2⟩ := HA.out.r
  have hb1 : w.heap.size + 2 < w3.heap.size := HA.out.r.lt
  go_wp2_with fail
  have C1 : Hid (∀ W, Below w3.heap.size w3 W → Calls Try.prog 40 #[(.agg #[.slice y.k.o y.k.n y.k.c, .slice y.i.o y.i.n y.i.c, .slice y.f.o y.f.n y.f.c]), (.agg #[.int .i64 key.1, .int .i64 key.2])] W fun e w' => e = .returned (.int .i64 (-1)) ∧ Below W.heap.size W w') := fun W q => by rw [← fkI_none hi]; exact gfind_any y g.ks key W HS.out (HY.out.ks.below (q_trans HA.out.low q))
  have C2 : Hid (∀ W, Below w3.heap.size w3 W → Calls Try.prog 40 #[(.agg #[.slice y.k.o y.k.n y.k.c, .slice y.i.o y.i.n y.i.c, .slice y.f.o y.f.n y.f.c]), (.agg #[.int .i64 fm.1, .int .i64 fm.2])] W fun e w' => e = .returned (.int .i64 (j : Int)) ∧ Below W.heap.size W w') := fun W q => by rw [← fkI_some hj]; exact gfind_any y g.ks fm W HS.out (HY.out.ks.below (q_trans HA.out.low q))
  clear c0 c1 c2 z0 z1 z2 z3 z4 r0 r1 r2 f0 f1 f2 hb1
  obtain ⟨c0, c1, c2⟩ := HA.out.g.inG.always
  obtain ⟨z0, z1, z2, z3, z4⟩ := HA.out.z.always
  have hne : Nonempty (Later w3) := ⟨⟨_, Below.refl _ _⟩⟩
  refine wp_region_later (by kernel_rfl) (by kernel_rfl) ?_
  repeat (go_big_quiet_step (first | (go_at_call 40; with_reducible exact later_call (C1.out _ (Later.low _))) | (go_at_call 40; with_reducible exact later_call (C2.out _ (Later.low _)))))
  refine wpQuiet_nil ?_
  rintro w9 ⟨⟨_, b9⟩, rfl⟩
  replace HA := hid (HA.out.below b9)
  clear b9 c0 c1 c2 z0 z1 z2 z3 z4 hne C1 C2
  obtain ⟨c0, c1, c2, _, _, _⟩ := HA.out.g
  obtain ⟨z0, z1, z2, z3, z4⟩ := HA.out.z
  obtain ⟨r0, r1, r2, f0, f1, f2⟩ := HA.out.r
  have hb1 : w.heap.size + 2 < w9.heap.size := HA.out.r.lt
  go_wp2_with fail
  refine bodyPost_ret (v := .tuple #[(.agg #[.slice y.k.o y.k.n y.k.c, .slice y.i.o y.i.n y.i.c, .slice y.f.o y.f.n y.f.c]), .int .i64 6]) (by simp [results, Try.results12, go_sem, *]) rfl ⟨y, ret_gh HE.out.symm, ?_, HA.out.fin _ _ _⟩
  rw [ad_no HE.out (by decide)]
  exact HY.out.below (HA.out.fin _ _ _)
set_option maxRecDepth 100000 in
set_option maxHeartbeats 2000000 in
theorem radd_none3 (y : Gv) (g : Gt) (key fm : P) (w : World) (ho : okB g = true) (hk : okK key = true) (hf : okK fm = true) (hj : fk fm g.ks = none)  (HY : Hid (HasG w y g)) :
    Calls Try.prog 12 #[(.agg #[.slice y.k.o y.k.n y.k.c, .slice y.i.o y.i.n y.i.c, .slice y.f.o y.f.n y.f.c]), .agg #[.int .i64 3, .int .i64 key.1, .int .i64 key.2, .int .i64 fm.1, .int .i64 fm.2]] w fun e w' => ∃ z : Gv, e = .returned (.tuple #[(.agg #[.slice z.k.o z.k.n z.k.c, .slice z.i.o z.i.n z.i.c, .slice z.f.o z.f.n z.f.c]), .int .i64 (adE g ⟨3, key, fm⟩)]) ∧ HasG w' z (adA g ⟨3, key, fm⟩) ∧ Below w.heap.size w w' := by
  have HE : Hid (adE g ⟨3, key, fm⟩ = 7) := by unfold Hid; simp [adE, ho, hk, hf, hj, two, hasG]
  have HS : Hid (y.k.n ≤ 9223372036854775806) := by have h1 := (okB_iff.1 ho).few; have h2 := (okB_iff.1 ho).max; have h3 := HY.out.ks.len; unfold Hid; omega
  go_enter Try.func12, Try.ntmps12
  go_wp2_with fail
  have HA := hid (ab_new w y ⟨3, key, fm⟩)
  unfold nilG at HA
  generalize ((w.alloc (.cells #[.slice y.k.o y.k.n y.k.c, .slice y.i.o y.i.n y.i.c, .slice y.f.o y.f.n y.f.c] 25)).alloc (.cells #[.int .i64 3, .int .i64 key.1, .int .i64 key.2, .int .i64 fm.1, .int .i64 fm.2] 29)).alloc (.cells #[.slice none 0 0, .slice none 0 0, .slice none 0 0] 25) = W at HA ⊢
  refine (gis_any y g W (HY.out.below HA.out.low)).mono ?_
  rintro e w1 ⟨rfl, b1⟩
  replace HA := hid (HA.out.below b1)
  clear b1
  rw [ho]
  obtain ⟨c0, c1, c2, _, _, _⟩ := HA.out.g
  obtain ⟨z0, z1, z2, z3, z4⟩ := HA.out.z
  obtain ⟨r0, r1, r2, f0, f1, f2⟩ := HA.out.r
  have hb1 : w.heap.size + 2 < w1.heap.size := HA.out.r.lt
  go_wp2_with fail
  refine (ki_any key _).mono ?_
  rintro e w2 ⟨rfl, b2⟩
  replace HA := hid (HA.out.below b2)
  clear b2 c0 c1 c2 z0 z1 z2 z3 z4 r0 r1 r2 f0 f1 f2 hb1
  rw [hk]
  obtain ⟨c0, c1, c2, _, _, _⟩ := HA.out.g
  obtain ⟨z0, z1, z2, z3, z4⟩ := HA.out.z
  obtain ⟨r0, r1, r2, f0, f1, f2⟩ := HA.out.r
  have hb1 : w.heap.size + 2 < w2.heap.size := HA.out.r.lt
  go_wp2_with fail
  refine (ki_any fm _).mono ?_
  rintro e w3 ⟨rfl, b3⟩
  replace HA := hid (HA.out.below b3)
  clear b3 c0 c1 c2 z0 z1 z2 z3 z4 r0 r1 r2 f0 f1 f2 hb1
  rw [hf]
  obtain ⟨c0, c1, c2, _, _, _⟩ := HA.out.g
  obtain ⟨z0, z1, z2, z3, z4⟩ := HA.out.z
  obtain ⟨r0, r1, r2, f0, f1, f2⟩ := HA.out.r
  have hb1 : w.heap.size + 2 < w3.heap.size := HA.out.r.lt
  go_wp2_with fail
  have C1 : Hid (∀ W, Below w3.heap.size w3 W → Calls Try.prog 40 #[(.agg #[.slice y.k.o y.k.n y.k.c, .slice y.i.o y.i.n y.i.c, .slice y.f.o y.f.n y.f.c]), (.agg #[.int .i64 key.1, .int .i64 key.2])] W fun e w' => e = .returned (.int .i64 (fkI key g.ks)) ∧ Below W.heap.size W w') := fun W q => gfind_any y g.ks key W HS.out (HY.out.ks.below (q_trans HA.out.low q))
  have C2 : Hid (∀ W, Below w3.heap.size w3 W → Calls Try.prog 40 #[(.agg #[.slice y.k.o y.k.n y.k.c, .slice y.i.o y.i.n y.i.c, .slice y.f.o y.f.n y.f.c]), (.agg #[.int .i64 fm.1, .int .i64 fm.2])] W fun e w' => e = .returned (.int .i64 (-1)) ∧ Below W.heap.size W w') := fun W q => by rw [← fkI_none hj]; exact gfind_any y g.ks fm W HS.out (HY.out.ks.below (q_trans HA.out.low q))
  clear c0 c1 c2 z0 z1 z2 z3 z4 r0 r1 r2 f0 f1 f2 hb1
  obtain ⟨c0, c1, c2⟩ := HA.out.g.inG.always
  obtain ⟨z0, z1, z2, z3, z4⟩ := HA.out.z.always
  have hne : Nonempty (Later w3) := ⟨⟨_, Below.refl _ _⟩⟩
  refine wp_region_later (by kernel_rfl) (by kernel_rfl) ?_
  repeat (go_big_quiet_step (first | (go_at_call 40; with_reducible exact later_call (C1.out _ (Later.low _))) | (go_at_call 40; with_reducible exact later_call (C2.out _ (Later.low _)))))
  refine wpQuiet_nil ?_
  rintro w9 ⟨⟨_, b9⟩, rfl⟩
  replace HA := hid (HA.out.below b9)
  clear b9 c0 c1 c2 z0 z1 z2 z3 z4 hne C1 C2
  obtain ⟨c0, c1, c2, _, _, _⟩ := HA.out.g
  obtain ⟨z0, z1, z2, z3, z4⟩ := HA.out.z
  obtain ⟨r0, r1, r2, f0, f1, f2⟩ := HA.out.r
  have hb1 : w.heap.size + 2 < w9.heap.size := HA.out.r.lt
  go_wp2_with fail
  refine bodyPost_ret (v := .tuple #[(.agg #[.slice y.k.o y.k.n y.k.c, .slice y.i.o y.i.n y.i.c, .slice y.f.o y.f.n y.f.c]), .int .i64 7]) (by simp [results, Try.results12, go_sem, *]) rfl ⟨y, ret_gh HE.out.symm, ?_, HA.out.fin _ _ _⟩
  rw [ad_no HE.out (by decide)]
  exact HY.out.below (HA.out.fin _ _ _)
set_option maxRecDepth 100000 in
set_option maxHeartbeats 2000000 in
theorem radd_there3 (y : Gv) (g : Gt) (key fm : P) (w : World) (ho : okB g = true) (hk : okK key = true) (hf : okK fm = true) (i : Nat) (hi : fk key g.ks = some i) (j : Nat) (hj : fk fm g.ks = some j)  (HY : Hid (HasG w y g)) :
    Calls Try.prog 12 #[(.agg #[.slice y.k.o y.k.n y.k.c, .slice y.i.o y.i.n y.i.c, .slice y.f.o y.f.n y.f.c]), .agg #[.int .i64 3, .int .i64 key.1, .int .i64 key.2, .int .i64 fm.1, .int .i64 fm.2]] w fun e w' => ∃ z : Gv, e = .returned (.tuple #[(.agg #[.slice z.k.o z.k.n z.k.c, .slice z.i.o z.i.n z.i.c, .slice z.f.o z.f.n z.f.c]), .int .i64 (adE g ⟨3, key, fm⟩)]) ∧ HasG w' z (adA g ⟨3, key, fm⟩) ∧ Below w.heap.size w w' := by
  have HE : Hid (adE g ⟨3, key, fm⟩ = 8) := by unfold Hid; simp [adE, ho, hk, hf, hi, hj, two, hasG]
  have HS : Hid (y.k.n ≤ 9223372036854775806) := by have h1 := (okB_iff.1 ho).few; have h2 := (okB_iff.1 ho).max; have h3 := HY.out.ks.len; unfold Hid; omega
  have i0 : ¬ (i : Int) < 0 := by omega
  have i1 : (i : Int) ≥ 0 := by omega
  have j0 : ¬ (j : Int) < 0 := by omega
  go_enter Try.func12, Try.ntmps12
  go_wp2_with fail
  have HA := hid (ab_new w y ⟨3, key, fm⟩)
  unfold nilG at HA
  generalize ((w.alloc (.cells #[.slice y.k.o y.k.n y.k.c, .slice y.i.o y.i.n y.i.c, .slice y.f.o y.f.n y.f.c] 25)).alloc (.cells #[.int .i64 3, .int .i64 key.1, .int .i64 key.2, .int .i64 fm.1, .int .i64 fm.2] 29)).alloc (.cells #[.slice none 0 0, .slice none 0 0, .slice none 0 0] 25) = W at HA ⊢
  refine (gis_any y g W (HY.out.below HA.out.low)).mono ?_
  rintro e w1 ⟨rfl, b1⟩
  replace HA := hid (HA.out.below b1)
  clear b1
  rw [ho]
  obtain ⟨c0, c1, c2, _, _, _⟩ := HA.out.g
  obtain ⟨z0, z1, z2, z3, z4⟩ := HA.out.z
  obtain ⟨r0, r1, r2, f0, f1, f2⟩ := HA.out.r
  have hb1 : w.heap.size + 2 < w1.heap.size := HA.out.r.lt
  go_wp2_with fail
  refine (ki_any key _).mono ?_
  rintro e w2 ⟨rfl, b2⟩
  replace HA := hid (HA.out.below b2)
  clear b2 c0 c1 c2 z0 z1 z2 z3 z4 r0 r1 r2 f0 f1 f2 hb1
  rw [hk]
  obtain ⟨c0, c1, c2, _, _, _⟩ := HA.out.g
  obtain ⟨z0, z1, z2, z3, z4⟩ := HA.out.z
  obtain ⟨r0, r1, r2, f0, f1, f2⟩ := HA.out.r
  have hb1 : w.heap.size + 2 < w2.heap.size := HA.out.r.lt
  go_wp2_with fail
  refine (ki_any fm _).mono ?_
  rintro e w3 ⟨rfl, b3⟩
  replace HA := hid (HA.out.below b3)
  clear b3 c0 c1 c2 z0 z1 z2 z3 z4 r0 r1 r2 f0 f1 f2 hb1
  rw [hf]
  obtain ⟨c0, c1, c2, _, _, _⟩ := HA.out.g
  obtain ⟨z0, z1, z2, z3, z4⟩ := HA.out.z
  obtain ⟨r0, r1, r2, f0, f1, f2⟩ := HA.out.r
  have hb1 : w.heap.size + 2 < w3.heap.size := HA.out.r.lt
  go_wp2_with fail
  have C1 : Hid (∀ W, Below w3.heap.size w3 W → Calls Try.prog 40 #[(.agg #[.slice y.k.o y.k.n y.k.c, .slice y.i.o y.i.n y.i.c, .slice y.f.o y.f.n y.f.c]), (.agg #[.int .i64 key.1, .int .i64 key.2])] W fun e w' => e = .returned (.int .i64 (i : Int)) ∧ Below W.heap.size W w') := fun W q => by rw [← fkI_some hi]; exact gfind_any y g.ks key W HS.out (HY.out.ks.below (q_trans HA.out.low q))
  have C2 : Hid (∀ W, Below w3.heap.size w3 W → Calls Try.prog 40 #[(.agg #[.slice y.k.o y.k.n y.k.c, .slice y.i.o y.i.n y.i.c, .slice y.f.o y.f.n y.f.c]), (.agg #[.int .i64 fm.1, .int .i64 fm.2])] W fun e w' => e = .returned (.int .i64 (j : Int)) ∧ Below W.heap.size W w') := fun W q => by rw [← fkI_some hj]; exact gfind_any y g.ks fm W HS.out (HY.out.ks.below (q_trans HA.out.low q))
  clear c0 c1 c2 z0 z1 z2 z3 z4 r0 r1 r2 f0 f1 f2 hb1
  obtain ⟨c0, c1, c2⟩ := HA.out.g.inG.always
  obtain ⟨z0, z1, z2, z3, z4⟩ := HA.out.z.always
  have hne : Nonempty (Later w3) := ⟨⟨_, Below.refl _ _⟩⟩
  refine wp_region_later (by kernel_rfl) (by kernel_rfl) ?_
  repeat (go_big_quiet_step (first | (go_at_call 40; with_reducible exact later_call (C1.out _ (Later.low _))) | (go_at_call 40; with_reducible exact later_call (C2.out _ (Later.low _)))))
  refine wpQuiet_nil ?_
  rintro w9 ⟨⟨_, b9⟩, rfl⟩
  replace HA := hid (HA.out.below b9)
  clear b9 c0 c1 c2 z0 z1 z2 z3 z4 hne C1 C2
  obtain ⟨c0, c1, c2, _, _, _⟩ := HA.out.g
  obtain ⟨z0, z1, z2, z3, z4⟩ := HA.out.z
  obtain ⟨r0, r1, r2, f0, f1, f2⟩ := HA.out.r
  have hb1 : w.heap.size + 2 < w9.heap.size := HA.out.r.lt
  go_wp2_with fail
  refine bodyPost_ret (v := .tuple #[(.agg #[.slice y.k.o y.k.n y.k.c, .slice y.i.o y.i.n y.i.c, .slice y.f.o y.f.n y.f.c]), .int .i64 8]) (by simp [results, Try.results12, go_sem, *]) rfl ⟨y, ret_gh HE.out.symm, ?_, HA.out.fin _ _ _⟩
  rw [ad_no HE.out (by decide)]
  exact HY.out.below (HA.out.fin _ _ _)
set_option maxRecDepth 100000 in
set_option maxHeartbeats 2000000 in
theorem radd_none4 (y : Gv) (g : Gt) (key fm : P) (w : World) (ho : okB g = true) (hk : okK key = true) (hi : fk key g.ks = none)  (HY : Hid (HasG w y g)) :
    Calls Try.prog 12 #[(.agg #[.slice y.k.o y.k.n y.k.c, .slice y.i.o y.i.n y.i.c, .slice y.f.o y.f.n y.f.c]), .agg #[.int .i64 4, .int .i64 key.1, .int .i64 key.2, .int .i64 fm.1, .int .i64 fm.2]] w fun e w' => ∃ z : Gv, e = .returned (.tuple #[(.agg #[.slice z.k.o z.k.n z.k.c, .slice z.i.o z.i.n z.i.c, .slice z.f.o z.f.n z.f.c]), .int .i64 (adE g ⟨4, key, fm⟩)]) ∧ HasG w' z (adA g ⟨4, key, fm⟩) ∧ Below w.heap.size w w' := by
  have HE : Hid (adE g ⟨4, key, fm⟩ = 7) := by unfold Hid; simp [adE, ho, hk, hi, two, hasG]
  have HS : Hid (y.k.n ≤ 9223372036854775806) := by have h1 := (okB_iff.1 ho).few; have h2 := (okB_iff.1 ho).max; have h3 := HY.out.ks.len; unfold Hid; omega
  go_enter Try.func12, Try.ntmps12
  go_wp2_with fail
  have HA := hid (ab_new w y ⟨4, key, fm⟩)
  unfold nilG at HA
  generalize ((w.alloc (.cells #[.slice y.k.o y.k.n y.k.c, .slice y.i.o y.i.n y.i.c, .slice y.f.o y.f.n y.f.c] 25)).alloc (.cells #[.int .i64 4, .int .i64 key.1, .int .i64 key.2, .int .i64 fm.1, .int .i64 fm.2] 29)).alloc (.cells #[.slice none 0 0, .slice none 0 0, .slice none 0 0] 25) = W at HA ⊢
  refine (gis_any y g W (HY.out.below HA.out.low)).mono ?_
  rintro e w1 ⟨rfl, b1⟩
  replace HA := hid (HA.out.below b1)
  clear b1
  rw [ho]
  obtain ⟨c0, c1, c2, _, _, _⟩ := HA.out.g
  obtain ⟨z0, z1, z2, z3, z4⟩ := HA.out.z
  obtain ⟨r0, r1, r2, f0, f1, f2⟩ := HA.out.r
  have hb1 : w.heap.size + 2 < w1.heap.size := HA.out.r.lt
  go_wp2_with fail
  refine (ki_any key _).mono ?_
  rintro e w2 ⟨rfl, b2⟩
  replace HA := hid (HA.out.below b2)
  clear b2 c0 c1 c2 z0 z1 z2 z3 z4 r0 r1 r2 f0 f1 f2 hb1
  rw [hk]
  obtain ⟨c0, c1, c2, _, _, _⟩ := HA.out.g
  obtain ⟨z0, z1, z2, z3, z4⟩ := HA.out.z
  obtain ⟨r0, r1, r2, f0, f1, f2⟩ := HA.out.r
  have hb1 : w.heap.size + 2 < w2.heap.size := HA.out.r.lt
  go_wp2_with fail
  have C1 : Hid (∀ W, Below w2.heap.size w2 W → Calls Try.prog 40 #[(.agg #[.slice y.k.o y.k.n y.k.c, .slice y.i.o y.i.n y.i.c, .slice y.f.o y.f.n y.f.c]), (.agg #[.int .i64 key.1, .int .i64 key.2])] W fun e w' => e = .returned (.int .i64 (-1)) ∧ Below W.heap.size W w') := fun W q => by rw [← fkI_none hi]; exact gfind_any y g.ks key W HS.out (HY.out.ks.below (q_trans HA.out.low q))
  have C2 : Hid (∀ W, Below w2.heap.size w2 W → Calls Try.prog 40 #[(.agg #[.slice y.k.o y.k.n y.k.c, .slice y.i.o y.i.n y.i.c, .slice y.f.o y.f.n y.f.c]), (.agg #[.int .i64 fm.1, .int .i64 fm.2])] W fun e w' => e = .returned (.int .i64 (fkI fm g.ks)) ∧ Below W.heap.size W w') := fun W q => gfind_any y g.ks fm W HS.out (HY.out.ks.below (q_trans HA.out.low q))
  clear c0 c1 c2 z0 z1 z2 z3 z4 r0 r1 r2 f0 f1 f2 hb1
  obtain ⟨c0, c1, c2⟩ := HA.out.g.inG.always
  obtain ⟨z0, z1, z2, z3, z4⟩ := HA.out.z.always
  have hne : Nonempty (Later w2) := ⟨⟨_, Below.refl _ _⟩⟩
  refine wp_region_later (by kernel_rfl) (by kernel_rfl) ?_
  repeat (go_big_quiet_step (first | (go_at_call 40; with_reducible exact later_call (C1.out _ (Later.low _))) | (go_at_call 40; with_reducible exact later_call (C2.out _ (Later.low _)))))
  refine wpQuiet_nil ?_
  rintro w9 ⟨⟨_, b9⟩, rfl⟩
  replace HA := hid (HA.out.below b9)
  clear b9 c0 c1 c2 z0 z1 z2 z3 z4 hne C1 C2
  obtain ⟨c0, c1, c2, _, _, _⟩ := HA.out.g
  obtain ⟨z0, z1, z2, z3, z4⟩ := HA.out.z
  obtain ⟨r0, r1, r2, f0, f1, f2⟩ := HA.out.r
  have hb1 : w.heap.size + 2 < w9.heap.size := HA.out.r.lt
  go_wp2_with fail
  refine bodyPost_ret (v := .tuple #[(.agg #[.slice y.k.o y.k.n y.k.c, .slice y.i.o y.i.n y.i.c, .slice y.f.o y.f.n y.f.c]), .int .i64 7]) (by simp [results, Try.results12, go_sem, *]) rfl ⟨y, ret_gh HE.out.symm, ?_, HA.out.fin _ _ _⟩
  rw [ad_no HE.out (by decide)]
  exact HY.out.below (HA.out.fin _ _ _)
end Go.Proofs.Ytcldnacpddebcaa.Gh
