/- What the document's Add (of ghosts) does: what is refused. -/
import Derived.Test.YtcldnacpddebcaaGhBox
namespace Go.Proofs.Ytcldnacpddebcaa.Gh
open Go.RowKit
open Go.Proofs.Ytcldnacpddebcaa.Tr

set_option maxRecDepth 100000 in
set_option maxHeartbeats 2000000 in
theorem radd_bad (y : Gv) (g : Gt) (kd : Int) (key fm : P) (w : World) (ho : okB g = false) (e2 : (kd == 2) = true ∨ (kd == 2) = false) (e3 : (kd == 3) = true ∨ (kd == 3) = false) (HY : Hid (HasG w y g)) :
    Calls Try.prog 12 #[(.agg #[.slice y.k.o y.k.n y.k.c, .slice y.i.o y.i.n y.i.c, .slice y.f.o y.f.n y.f.c]), .agg #[.int .i64 kd, .int .i64 key.1, .int .i64 key.2, .int .i64 fm.1, .int .i64 fm.2]] w fun e w' => ∃ z : Gv, e = .returned (.tuple #[(.agg #[.slice z.k.o z.k.n z.k.c, .slice z.i.o z.i.n z.i.c, .slice z.f.o z.f.n z.f.c]), .int .i64 (adE g ⟨kd, key, fm⟩)]) ∧ HasG w' z (adA g ⟨kd, key, fm⟩) ∧ Below w.heap.size w w' := by
  have HE : Hid (adE g ⟨kd, key, fm⟩ = 2) := by unfold Hid adE; rw [ho]; rfl
  rcases e2 with e2 | e2
  · go_enter Try.func12, Try.ntmps12
    go_wp2_with fail
    have HA := hid (ab_new w y ⟨kd, key, fm⟩)
    unfold nilG at HA
    generalize ((w.alloc (.cells #[.slice y.k.o y.k.n y.k.c, .slice y.i.o y.i.n y.i.c, .slice y.f.o y.f.n y.f.c] 25)).alloc (.cells #[.int .i64 kd, .int .i64 key.1, .int .i64 key.2, .int .i64 fm.1, .int .i64 fm.2] 29)).alloc (.cells #[.slice none 0 0, .slice none 0 0, .slice none 0 0] 25) = W at HA ⊢
    refine (gis_any y g W (HY.out.below HA.out.low)).mono ?_
    rintro e w1 ⟨rfl, b1⟩
    replace HA := hid (HA.out.below b1)
    clear b1
    rw [ho]
    obtain ⟨c0, c1, c2, _, _, _⟩ := HA.out.g
    obtain ⟨z0, z1, z2, z3, z4⟩ := HA.out.z
    obtain ⟨r0, r1, r2, f0, f1, f2⟩ := HA.out.r
    have hb1 : w.heap.size + 2 < w1.heap.size := HA.out.r.lt
    go_wp2_with fail
    refine bodyPost_ret (v := .tuple #[(.agg #[.slice y.k.o y.k.n y.k.c, .slice y.i.o y.i.n y.i.c, .slice y.f.o y.f.n y.f.c]), .int .i64 2]) (by simp [results, Try.results12, go_sem, *]) rfl ⟨y, ret_gh HE.out.symm, ?_, HA.out.fin _ _ _⟩
    rw [ad_no HE.out (by decide)]
    exact HY.out.below (HA.out.fin _ _ _)
  · rcases e3 with e3 | e3
    · go_enter Try.func12, Try.ntmps12
      go_wp2_with fail
      have HA := hid (ab_new w y ⟨kd, key, fm⟩)
      unfold nilG at HA
      generalize ((w.alloc (.cells #[.slice y.k.o y.k.n y.k.c, .slice y.i.o y.i.n y.i.c, .slice y.f.o y.f.n y.f.c] 25)).alloc (.cells #[.int .i64 kd, .int .i64 key.1, .int .i64 key.2, .int .i64 fm.1, .int .i64 fm.2] 29)).alloc (.cells #[.slice none 0 0, .slice none 0 0, .slice none 0 0] 25) = W at HA ⊢
      refine (gis_any y g W (HY.out.below HA.out.low)).mono ?_
      rintro e w1 ⟨rfl, b1⟩
      replace HA := hid (HA.out.below b1)
      clear b1
      rw [ho]
      obtain ⟨c0, c1, c2, _, _, _⟩ := HA.out.g
      obtain ⟨z0, z1, z2, z3, z4⟩ := HA.out.z
      obtain ⟨r0, r1, r2, f0, f1, f2⟩ := HA.out.r
      have hb1 : w.heap.size + 2 < w1.heap.size := HA.out.r.lt
      go_wp2_with fail
      refine bodyPost_ret (v := .tuple #[(.agg #[.slice y.k.o y.k.n y.k.c, .slice y.i.o y.i.n y.i.c, .slice y.f.o y.f.n y.f.c]), .int .i64 2]) (by simp [results, Try.results12, go_sem, *]) rfl ⟨y, ret_gh HE.out.symm, ?_, HA.out.fin _ _ _⟩
      rw [ad_no HE.out (by decide)]
      exact HY.out.below (HA.out.fin _ _ _)
    · go_enter Try.func12, Try.ntmps12
      go_wp2_with fail
      have HA := hid (ab_new w y ⟨kd, key, fm⟩)
      unfold nilG at HA
      generalize ((w.alloc (.cells #[.slice y.k.o y.k.n y.k.c, .slice y.i.o y.i.n y.i.c, .slice y.f.o y.f.n y.f.c] 25)).alloc (.cells #[.int .i64 kd, .int .i64 key.1, .int .i64 key.2, .int .i64 fm.1, .int .i64 fm.2] 29)).alloc (.cells #[.slice none 0 0, .slice none 0 0, .slice none 0 0] 25) = W at HA ⊢
      refine (gis_any y g W (HY.out.below HA.out.low)).mono ?_
      rintro e w1 ⟨rfl, b1⟩
      replace HA := hid (HA.out.below b1)
      clear b1
      rw [ho]
      obtain ⟨c0, c1, c2, _, _, _⟩ := HA.out.g
      obtain ⟨z0, z1, z2, z3, z4⟩ := HA.out.z
      obtain ⟨r0, r1, r2, f0, f1, f2⟩ := HA.out.r
      have hb1 : w.heap.size + 2 < w1.heap.size := HA.out.r.lt
      go_wp2_with fail
      refine bodyPost_ret (v := .tuple #[(.agg #[.slice y.k.o y.k.n y.k.c, .slice y.i.o y.i.n y.i.c, .slice y.f.o y.f.n y.f.c]), .int .i64 2]) (by simp [results, Try.results12, go_sem, *]) rfl ⟨y, ret_gh HE.out.symm, ?_, HA.out.fin _ _ _⟩
      rw [ad_no HE.out (by decide)]
      exact HY.out.below (HA.out.fin _ _ _)
set_option maxRecDepth 100000 in
set_option maxHeartbeats 2000000 in
theorem radd_low (y : Gv) (g : Gt) (kd : Int) (key fm : P) (w : World) (ho : okB g = true) (hk : kd < 1) (HY : Hid (HasG w y g)) :
    Calls Try.prog 12 #[(.agg #[.slice y.k.o y.k.n y.k.c, .slice y.i.o y.i.n y.i.c, .slice y.f.o y.f.n y.f.c]), .agg #[.int .i64 kd, .int .i64 key.1, .int .i64 key.2, .int .i64 fm.1, .int .i64 fm.2]] w fun e w' => ∃ z : Gv, e = .returned (.tuple #[(.agg #[.slice z.k.o z.k.n z.k.c, .slice z.i.o z.i.n z.i.c, .slice z.f.o z.f.n z.f.c]), .int .i64 (adE g ⟨kd, key, fm⟩)]) ∧ HasG w' z (adA g ⟨kd, key, fm⟩) ∧ Below w.heap.size w w' := by
  have HE : Hid (adE g ⟨kd, key, fm⟩ = 2) := by unfold Hid adE; rw [if_pos (by simp; omega)]
  have e2 : (kd == 2) = false := by simp; omega
  have e3 : (kd == 3) = false := by simp; omega
  have d1 :  kd < 1 := by omega
  have d4 : ¬ kd > 4 := by omega
  go_enter Try.func12, Try.ntmps12
  go_wp2_with fail
  have HA := hid (ab_new w y ⟨kd, key, fm⟩)
  unfold nilG at HA
  generalize ((w.alloc (.cells #[.slice y.k.o y.k.n y.k.c, .slice y.i.o y.i.n y.i.c, .slice y.f.o y.f.n y.f.c] 25)).alloc (.cells #[.int .i64 kd, .int .i64 key.1, .int .i64 key.2, .int .i64 fm.1, .int .i64 fm.2] 29)).alloc (.cells #[.slice none 0 0, .slice none 0 0, .slice none 0 0] 25) = W at HA ⊢
  refine (gis_any y g W (HY.out.below HA.out.low)).mono ?_
  rintro e w1 ⟨rfl, b1⟩
  replace HA := hid (HA.out.below b1)
  clear b1
  rw [ho]
  obtain ⟨c0, c1, c2, _, _, _⟩ := HA.out.g
  obtain ⟨z0, z1, z2, z3, z4⟩ := HA.out.z
  obtain ⟨r0, r1, r2, f0, f1, f2⟩ := HA.out.r
  have hb1 : w.heap.size + 2 < w1.heap.size := HA.out.r.lt
  go_wp2_with fail
  refine bodyPost_ret (v := .tuple #[(.agg #[.slice y.k.o y.k.n y.k.c, .slice y.i.o y.i.n y.i.c, .slice y.f.o y.f.n y.f.c]), .int .i64 2]) (by simp [results, Try.results12, go_sem, *]) rfl ⟨y, ret_gh HE.out.symm, ?_, HA.out.fin _ _ _⟩
  rw [ad_no HE.out (by decide)]
  exact HY.out.below (HA.out.fin _ _ _)
set_option maxRecDepth 100000 in
set_option maxHeartbeats 2000000 in
theorem radd_high (y : Gv) (g : Gt) (kd : Int) (key fm : P) (w : World) (ho : okB g = true) (hk : 4 < kd) (HY : Hid (HasG w y g)) :
    Calls Try.prog 12 #[(.agg #[.slice y.k.o y.k.n y.k.c, .slice y.i.o y.i.n y.i.c, .slice y.f.o y.f.n y.f.c]), .agg #[.int .i64 kd, .int .i64 key.1, .int .i64 key.2, .int .i64 fm.1, .int .i64 fm.2]] w fun e w' => ∃ z : Gv, e = .returned (.tuple #[(.agg #[.slice z.k.o z.k.n z.k.c, .slice z.i.o z.i.n z.i.c, .slice z.f.o z.f.n z.f.c]), .int .i64 (adE g ⟨kd, key, fm⟩)]) ∧ HasG w' z (adA g ⟨kd, key, fm⟩) ∧ Below w.heap.size w w' := by
  have HE : Hid (adE g ⟨kd, key, fm⟩ = 2) := by unfold Hid adE; rw [if_pos (by simp; omega)]
  have e2 : (kd == 2) = false := by simp; omega
  have e3 : (kd == 3) = false := by simp; omega
  have d1 : ¬ kd < 1 := by omega
  have d4 :  kd > 4 := by omega
  go_enter Try.func12, Try.ntmps12
  go_wp2_with fail
  have HA := hid (ab_new w y ⟨kd, key, fm⟩)
  unfold nilG at HA
  generalize ((w.alloc (.cells #[.slice y.k.o y.k.n y.k.c, .slice y.i.o y.i.n y.i.c, .slice y.f.o y.f.n y.f.c] 25)).alloc (.cells #[.int .i64 kd, .int .i64 key.1, .int .i64 key.2, .int .i64 fm.1, .int .i64 fm.2] 29)).alloc (.cells #[.slice none 0 0, .slice none 0 0, .slice none 0 0] 25) = W at HA ⊢
  refine (gis_any y g W (HY.out.below HA.out.low)).mono ?_
  rintro e w1 ⟨rfl, b1⟩
  replace HA := hid (HA.out.below b1)
  clear b1
  rw [ho]
  obtain ⟨c0, c1, c2, _, _, _⟩ := HA.out.g
  obtain ⟨z0, z1, z2, z3, z4⟩ := HA.out.z
  obtain ⟨r0, r1, r2, f0, f1, f2⟩ := HA.out.r
  have hb1 : w.heap.size + 2 < w1.heap.size := HA.out.r.lt
  go_wp2_with fail
  refine bodyPost_ret (v := .tuple #[(.agg #[.slice y.k.o y.k.n y.k.c, .slice y.i.o y.i.n y.i.c, .slice y.f.o y.f.n y.f.c]), .int .i64 2]) (by simp [results, Try.results12, go_sem, *]) rfl ⟨y, ret_gh HE.out.symm, ?_, HA.out.fin _ _ _⟩
  rw [ad_no HE.out (by decide)]
  exact HY.out.below (HA.out.fin _ _ _)
set_option maxRecDepth 100000 in
set_option maxHeartbeats 2000000 in
theorem radd_key1 (y : Gv) (g : Gt) (key fm : P) (w : World) (ho : okB g = true) (hk : okK key = false) (HY : Hid (HasG w y g)) :
    Calls Try.prog 12 #[(.agg #[.slice y.k.o y.k.n y.k.c, .slice y.i.o y.i.n y.i.c, .slice y.f.o y.f.n y.f.c]), .agg #[.int .i64 1, .int .i64 key.1, .int .i64 key.2, .int .i64 fm.1, .int .i64 fm.2]] w fun e w' => ∃ z : Gv, e = .returned (.tuple #[(.agg #[.slice z.k.o z.k.n z.k.c, .slice z.i.o z.i.n z.i.c, .slice z.f.o z.f.n z.f.c]), .int .i64 (adE g ⟨1, key, fm⟩)]) ∧ HasG w' z (adA g ⟨1, key, fm⟩) ∧ Below w.heap.size w w' := by
  have HE : Hid (adE g ⟨1, key, fm⟩ = 2) := by unfold Hid adE; rw [if_pos (by simp [hk])]
  go_enter Try.func12, Try.ntmps12
  go_wp2_with fail
  have HA := hid (ab_new w y ⟨1, key, fm⟩)
  unfold nilG at HA
  generalize ((w.alloc (.cells #[.slice y.k.o y.k.n y.k.c, .slice y.i.o y.i.n y.i.c, .slice y.f.o y.f.n y.f.c] 25)).alloc (.cells #[.int .i64 1, .int .i64 key.1, .int .i64 key.2, .int .i64 fm.1, .int .i64 fm.2] 29)).alloc (.cells #[.slice none 0 0, .slice none 0 0, .slice none 0 0] 25) = W at HA ⊢
  refine (gis_any y g W (HY.out.below HA.out.low)).mono ?_
  rintro e w1 ⟨rfl, b1⟩
  replace HA := hid (HA.out.below b1)
  clear b1
  rw [ho]
  obtain ⟨c0, c1, c2, _, _, _⟩ := HA.out.g
  obtain ⟨z0, z1, z2, z3, z4⟩ := HA.out.z
  obtain ⟨r0, r1, r2, f0, f1, f2⟩ := HA.out.r
  have hb1 : w.heap.size + 2 < w1.heap.size := HA.out.r.lt
  go_wp2_with fail
  refine (ki_any key _).mono ?_
  rintro e w2 ⟨rfl, b2⟩
  replace HA := hid (HA.out.below b2)
  clear b2 c0 c1 c2 z0 z1 z2 z3 z4 r0 r1 r2 f0 f1 f2 hb1
  rw [hk]
  obtain ⟨c0, c1, c2, _, _, _⟩ := HA.out.g
  obtain ⟨z0, z1, z2, z3, z4⟩ := HA.out.z
  obtain ⟨r0, r1, r2, f0, f1, f2⟩ := HA.out.r
  have hb1 : w.heap.size + 2 < w2.heap.size := HA.out.r.lt
  go_wp2_with fail
  refine bodyPost_ret (v := .tuple #[(.agg #[.slice y.k.o y.k.n y.k.c, .slice y.i.o y.i.n y.i.c, .slice y.f.o y.f.n y.f.c]), .int .i64 2]) (by simp [results, Try.results12, go_sem, *]) rfl ⟨y, ret_gh HE.out.symm, ?_, HA.out.fin _ _ _⟩
  rw [ad_no HE.out (by decide)]
  exact HY.out.below (HA.out.fin _ _ _)
set_option maxRecDepth 100000 in
set_option maxHeartbeats 2000000 in
theorem radd_key2 (y : Gv) (g : Gt) (key fm : P) (w : World) (ho : okB g = true) (hk : okK key = false) (HY : Hid (HasG w y g)) :
    Calls Try.prog 12 #[(.agg #[.slice y.k.o y.k.n y.k.c, .slice y.i.o y.i.n y.i.c, .slice y.f.o y.f.n y.f.c]), .agg #[.int .i64 2, .int .i64 key.1, .int .i64 key.2, .int .i64 fm.1, .int .i64 fm.2]] w fun e w' => ∃ z : Gv, e = .returned (.tuple #[(.agg #[.slice z.k.o z.k.n z.k.c, .slice z.i.o z.i.n z.i.c, .slice z.f.o z.f.n z.f.c]), .int .i64 (adE g ⟨2, key, fm⟩)]) ∧ HasG w' z (adA g ⟨2, key, fm⟩) ∧ Below w.heap.size w w' := by
  have HE : Hid (adE g ⟨2, key, fm⟩ = 2) := by unfold Hid adE; rw [if_pos (by simp [hk])]
  go_enter Try.func12, Try.ntmps12
  go_wp2_with fail
  have HA := hid (ab_new w y ⟨2, key, fm⟩)
  unfold nilG at HA
  generalize ((w.alloc (.cells #[.slice y.k.o y.k.n y.k.c, .slice y.i.o y.i.n y.i.c, .slice y.f.o y.f.n y.f.c] 25)).alloc (.cells #[.int .i64 2, .int .i64 key.1, .int .i64 key.2, .int .i64 fm.1, .int .i64 fm.2] 29)).alloc (.cells #[.slice none 0 0, .slice none 0 0, .slice none 0 0] 25) = W at HA ⊢
  refine (gis_any y g W (HY.out.below HA.out.low)).mono ?_
  rintro e w1 ⟨rfl, b1⟩
  replace HA := hid (HA.out.below b1)
  clear b1
  rw [ho]
  obtain ⟨c0, c1, c2, _, _, _⟩ := HA.out.g
  obtain ⟨z0, z1, z2, z3, z4⟩ := HA.out.z
  obtain ⟨r0, r1, r2, f0, f1, f2⟩ := HA.out.r
  have hb1 : w.heap.size + 2 < w1.heap.size := HA.out.r.lt
  go_wp2_with fail
  refine (ki_any key _).mono ?_
  rintro e w2 ⟨rfl, b2⟩
  replace HA := hid (HA.out.below b2)
  clear b2 c0 c1 c2 z0 z1 z2 z3 z4 r0 r1 r2 f0 f1 f2 hb1
  rw [hk]
  obtain ⟨c0, c1, c2, _, _, _⟩ := HA.out.g
  obtain ⟨z0, z1, z2, z3, z4⟩ := HA.out.z
  obtain ⟨r0, r1, r2, f0, f1, f2⟩ := HA.out.r
  have hb1 : w.heap.size + 2 < w2.heap.size := HA.out.r.lt
  go_wp2_with fail
  refine bodyPost_ret (v := .tuple #[(.agg #[.slice y.k.o y.k.n y.k.c, .slice y.i.o y.i.n y.i.c, .slice y.f.o y.f.n y.f.c]), .int .i64 2]) (by simp [results, Try.results12, go_sem, *]) rfl ⟨y, ret_gh HE.out.symm, ?_, HA.out.fin _ _ _⟩
  rw [ad_no HE.out (by decide)]
  exact HY.out.below (HA.out.fin _ _ _)
set_option maxRecDepth 100000 in
set_option maxHeartbeats 2000000 in
theorem radd_key3 (y : Gv) (g : Gt) (key fm : P) (w : World) (ho : okB g = true) (hk : okK key = false) (HY : Hid (HasG w y g)) :
    Calls Try.prog 12 #[(.agg #[.slice y.k.o y.k.n y.k.c, .slice y.i.o y.i.n y.i.c, .slice y.f.o y.f.n y.f.c]), .agg #[.int .i64 3, .int .i64 key.1, .int .i64 key.2, .int .i64 fm.1, .int .i64 fm.2]] w fun e w' => ∃ z : Gv, e = .returned (.tuple #[(.agg #[.slice z.k.o z.k.n z.k.c, .slice z.i.o z.i.n z.i.c, .slice z.f.o z.f.n z.f.c]), .int .i64 (adE g ⟨3, key, fm⟩)]) ∧ HasG w' z (adA g ⟨3, key, fm⟩) ∧ Below w.heap.size w w' := by
  have HE : Hid (adE g ⟨3, key, fm⟩ = 2) := by unfold Hid adE; rw [if_pos (by simp [hk])]
  go_enter Try.func12, Try.ntmps12
  go_wp2_with fail
  have HA := hid (ab_new w y ⟨3, key, fm⟩)
  unfold nilG at HA
  generalize ((w.alloc (.cells #[.slice y.k.o y.k.n y.k.c, .slice y.i.o y.i.n y.i.c, .slice y.f.o y.f.n y.f.c] 25)).alloc (.cells #[.int .i64 3, .int .i64 key.1, .int .i64 key.2, .int .i64 fm.1, .int .i64 fm.2] 29)).alloc (.cells #[.slice none 0 0, .slice none 0 0, .slice none 0 0] 25) = W at HA ⊢
  refine (gis_any y g W (HY.out.below HA.out.low)).mono ?_
  rintro e w1 ⟨rfl, b1⟩
  replace HA := hid (HA.out.below b1)
  clear b1
  rw [ho]
  obtain ⟨c0, c1, c2, _, _, _⟩ := HA.out.g
  obtain ⟨z0, z1, z2, z3, z4⟩ := HA.out.z
  obtain ⟨r0, r1, r2, f0, f1, f2⟩ := HA.out.r
  have hb1 : w.heap.size + 2 < w1.heap.size := HA.out.r.lt
  go_wp2_with fail
  refine (ki_any key _).mono ?_
  rintro e w2 ⟨rfl, b2⟩
  replace HA := hid (HA.out.below b2)
  clear b2 c0 c1 c2 z0 z1 z2 z3 z4 r0 r1 r2 f0 f1 f2 hb1
  rw [hk]
  obtain ⟨c0, c1, c2, _, _, _⟩ := HA.out.g
  obtain ⟨z0, z1, z2, z3, z4⟩ := HA.out.z
  obtain ⟨r0, r1, r2, f0, f1, f2⟩ := HA.out.r
  have hb1 : w.heap.size + 2 < w2.heap.size := HA.out.r.lt
  go_wp2_with fail
  refine bodyPost_ret (v := .tuple #[(.agg #[.slice y.k.o y.k.n y.k.c, .slice y.i.o y.i.n y.i.c, .slice y.f.o y.f.n y.f.c]), .int .i64 2]) (by simp [results, Try.results12, go_sem, *]) rfl ⟨y, ret_gh HE.out.symm, ?_, HA.out.fin _ _ _⟩
  rw [ad_no HE.out (by decide)]
  exact HY.out.below (HA.out.fin _ _ _)
set_option maxRecDepth 100000 in
set_option maxHeartbeats 2000000 in
theorem radd_key4 (y : Gv) (g : Gt) (key fm : P) (w : World) (ho : okB g = true) (hk : okK key = false) (HY : Hid (HasG w y g)) :
    Calls Try.prog 12 #[(.agg #[.slice y.k.o y.k.n y.k.c, .slice y.i.o y.i.n y.i.c, .slice y.f.o y.f.n y.f.c]), .agg #[.int .i64 4, .int .i64 key.1, .int .i64 key.2, .int .i64 fm.1, .int .i64 fm.2]] w fun e w' => ∃ z : Gv, e = .returned (.tuple #[(.agg #[.slice z.k.o z.k.n z.k.c, .slice z.i.o z.i.n z.i.c, .slice z.f.o z.f.n z.f.c]), .int .i64 (adE g ⟨4, key, fm⟩)]) ∧ HasG w' z (adA g ⟨4, key, fm⟩) ∧ Below w.heap.size w w' := by
  have HE : Hid (adE g ⟨4, key, fm⟩ = 2) := by unfold Hid adE; rw [if_pos (by simp [hk])]
  go_enter Try.func12, Try.ntmps12
  go_wp2_with fail
  have HA := hid (ab_new w y ⟨4, key, fm⟩)
  unfold nilG at HA
  generalize ((w.alloc (.cells #[.slice y.k.o y.k.n y.k.c, .slice y.i.o y.i.n y.i.c, .slice y.f.o y.f.n y.f.c] 25)).alloc (.cells #[.int .i64 4, .int .i64 key.1, .int .i64 key.2, .int .i64 fm.1, .int .i64 fm.2] 29)).alloc (.cells #[.slice none 0 0, .slice none 0 0, .slice none 0 0] 25) = W at HA ⊢
  refine (gis_any y g W (HY.out.below HA.out.low)).mono ?_
  rintro e w1 ⟨rfl, b1⟩
  replace HA := hid (HA.out.below b1)
  clear b1
  rw [ho]
  obtain ⟨c0, c1, c2, _, _, _⟩ := HA.out.g
  obtain ⟨z0, z1, z2, z3, z4⟩ := HA.out.z
  obtain ⟨r0, r1, r2, f0, f1, f2⟩ := HA.out.r
  have hb1 : w.heap.size + 2 < w1.heap.size := HA.out.r.lt
  go_wp2_with fail
  refine (ki_any key _).mono ?_
  rintro e w2 ⟨rfl, b2⟩
  replace HA := hid (HA.out.below b2)
  clear b2 c0 c1 c2 z0 z1 z2 z3 z4 r0 r1 r2 f0 f1 f2 hb1
  rw [hk]
  obtain ⟨c0, c1, c2, _, _, _⟩ := HA.out.g
  obtain ⟨z0, z1, z2, z3, z4⟩ := HA.out.z
  obtain ⟨r0, r1, r2, f0, f1, f2⟩ := HA.out.r
  have hb1 : w.heap.size + 2 < w2.heap.size := HA.out.r.lt
  go_wp2_with fail
  refine bodyPost_ret (v := .tuple #[(.agg #[.slice y.k.o y.k.n y.k.c, .slice y.i.o y.i.n y.i.c, .slice y.f.o y.f.n y.f.c]), .int .i64 2]) (by simp [results, Try.results12, go_sem, *]) rfl ⟨y, ret_gh HE.out.symm, ?_, HA.out.fin _ _ _⟩
  rw [ad_no HE.out (by decide)]
  exact HY.out.below (HA.out.fin _ _ _)
set_option maxRecDepth 100000 in
set_option maxHeartbeats 2000000 in
theorem radd_fm2 (y : Gv) (g : Gt) (key fm : P) (w : World) (ho : okB g = true) (hk : okK key = true) (hf : okK fm = false) (HY : Hid (HasG w y g)) :
    Calls Try.prog 12 #[(.agg #[.slice y.k.o y.k.n y.k.c, .slice y.i.o y.i.n y.i.c, .slice y.f.o y.f.n y.f.c]), .agg #[.int .i64 2, .int .i64 key.1, .int .i64 key.2, .int .i64 fm.1, .int .i64 fm.2]] w fun e w' => ∃ z : Gv, e = .returned (.tuple #[(.agg #[.slice z.k.o z.k.n z.k.c, .slice z.i.o z.i.n z.i.c, .slice z.f.o z.f.n z.f.c]), .int .i64 (adE g ⟨2, key, fm⟩)]) ∧ HasG w' z (adA g ⟨2, key, fm⟩) ∧ Below w.heap.size w w' := by
  have HE : Hid (adE g ⟨2, key, fm⟩ = 2) := by unfold Hid adE; rw [if_pos (by simp [hf, two])]
  go_enter Try.func12, Try.ntmps12
  go_wp2_with fail
  have HA := hid (ab_new w y ⟨2, key, fm⟩)
  unfold nilG at HA
  generalize ((w.alloc (.cells #[.slice y.k.o y.k.n y.k.c, .slice y.i.o y.i.n y.i.c, .slice y.f.o y.f.n y.f.c] 25)).alloc (.cells #[.int .i64 2, .int .i64 key.1, .int .i64 key.2, .int .i64 fm.1, .int .i64 fm.2] 29)).alloc (.cells #[.slice none 0 0, .slice none 0 0, .slice none 0 0] 25) = W at HA ⊢
  refine (gis_any y g W (HY.out.below HA.out.low)).mono ?_
  rintro e w1 ⟨rfl, b1⟩
  replace HA := hid (HA.out.below b1)
  clear b1
  rw [ho]
  obtain ⟨c0, c1, c2, _, _, _⟩ := HA.out.g
  obtain ⟨z0, z1, z2, z3, z4⟩ := HA.out.z
  obtain ⟨r0, r1, r2, f0, f1, f2⟩ := HA.out.r
  have hb1 : w.heap.size + 2 < w1.heap.size := HA.out.r.lt
  go_wp2_with fail
  refine (ki_any key _).mono ?_
  rintro e w2 ⟨rfl, b2⟩
  replace HA := hid (HA.out.below b2)
  clear b2 c0 c1 c2 z0 z1 z2 z3 z4 r0 r1 r2 f0 f1 f2 hb1
  rw [hk]
  obtain ⟨c0, c1, c2, _, _, _⟩ := HA.out.g
  obtain ⟨z0, z1, z2, z3, z4⟩ := HA.out.z
  obtain ⟨r0, r1, r2, f0, f1, f2⟩ := HA.out.r
  have hb1 : w.heap.size + 2 < w2.heap.size := HA.out.r.lt
  go_wp2_with fail
  refine (ki_any fm _).mono ?_
  rintro e w3 ⟨rfl, b3⟩
  replace HA := hid (HA.out.below b3)
  clear b3 c0 c1 c2 z0 z1 z2 z3 z4 r0 r1 r2 f0 f1 f2 hb1
  rw [hf]
  obtain ⟨c0, c1, c2, _, _, _⟩ := HA.out.g
  obtain ⟨z0, z1, z2, z3, z4⟩ := HA.out.z
  obtain ⟨r0, r1, r2, f0, f1, f2⟩ := HA.out.r
  have hb1 : w.heap.size + 2 < w3.heap.size := HA.out.r.lt
  go_wp2_with fail
  refine bodyPost_ret (v := .tuple #[(.agg #[.slice y.k.o y.k.n y.k.c, .slice y.i.o y.i.n y.i.c, .slice y.f.o y.f.n y.f.c]), .int .i64 2]) (by simp [results, Try.results12, go_sem, *]) rfl ⟨y, ret_gh HE.out.symm, ?_, HA.out.fin _ _ _⟩
  rw [ad_no HE.out (by decide)]
  exact HY.out.below (HA.out.fin _ _ _)
set_option maxRecDepth 100000 in
set_option maxHeartbeats 2000000 in
theorem radd_fm3 (y : Gv) (g : Gt) (key fm : P) (w : World) (ho : okB g = true) (hk : okK key = true) (hf : okK fm = false) (HY : Hid (HasG w y g)) :
    Calls Try.prog 12 #[(.agg #[.slice y.k.o y.k.n y.k.c, .slice y.i.o y.i.n y.i.c, .slice y.f.o y.f.n y.f.c]), .agg #[.int .i64 3, .int .i64 key.1, .int .i64 key.2, .int .i64 fm.1, .int .i64 fm.2]] w fun e w' => ∃ z : Gv, e = .returned (.tuple #[(.agg #[.slice z.k.o z.k.n z.k.c, .slice z.i.o z.i.n z.i.c, .slice z.f.o z.f.n z.f.c]), .int .i64 (adE g ⟨3, key, fm⟩)]) ∧ HasG w' z (adA g ⟨3, key, fm⟩) ∧ Below w.heap.size w w' := by
  have HE : Hid (adE g ⟨3, key, fm⟩ = 2) := by unfold Hid adE; rw [if_pos (by simp [hf, two])]
  go_enter Try.func12, Try.ntmps12
  go_wp2_with fail
  have HA := hid (ab_new w y ⟨3, key, fm⟩)
  unfold nilG at HA
  generalize ((w.alloc (.cells #[.slice y.k.o y.k.n y.k.c, .slice y.i.o y.i.n y.i.c, .slice y.f.o y.f.n y.f.c] 25)).alloc (.cells #[.int .i64 3, .int .i64 key.1, .int .i64 key.2, .int .i64 fm.1, .int .i64 fm.2] 29)).alloc (.cells #[.slice none 0 0, .slice none 0 0, .slice none 0 0] 25) = W at HA ⊢
  refine (gis_any y g W (HY.out.below HA.out.low)).mono ?_
  rintro e w1 ⟨rfl, b1⟩
  replace HA := hid (HA.out.below b1)
  clear b1
  rw [ho]
  obtain ⟨c0, c1, c2, _, _, _⟩ := HA.out.g
  obtain ⟨z0, z1, z2, z3, z4⟩ := HA.out.z
  obtain ⟨r0, r1, r2, f0, f1, f2⟩ := HA.out.r
  have hb1 : w.heap.size + 2 < w1.heap.size := HA.out.r.lt
  go_wp2_with fail
  refine (ki_any key _).mono ?_
  rintro e w2 ⟨rfl, b2⟩
  replace HA := hid (HA.out.below b2)
  clear b2 c0 c1 c2 z0 z1 z2 z3 z4 r0 r1 r2 f0 f1 f2 hb1
  rw [hk]
  obtain ⟨c0, c1, c2, _, _, _⟩ := HA.out.g
  obtain ⟨z0, z1, z2, z3, z4⟩ := HA.out.z
  obtain ⟨r0, r1, r2, f0, f1, f2⟩ := HA.out.r
  have hb1 : w.heap.size + 2 < w2.heap.size := HA.out.r.lt
  go_wp2_with fail
  refine (ki_any fm _).mono ?_
  rintro e w3 ⟨rfl, b3⟩
  replace HA := hid (HA.out.below b3)
  clear b3 c0 c1 c2 z0 z1 z2 z3 z4 r0 r1 r2 f0 f1 f2 hb1
  rw [hf]
  obtain ⟨c0, c1, c2, _, _, _⟩ := HA.out.g
  obtain ⟨z0, z1, z2, z3, z4⟩ := HA.out.z
  obtain ⟨r0, r1, r2, f0, f1, f2⟩ := HA.out.r
  have hb1 : w.heap.size + 2 < w3.heap.size := HA.out.r.lt
  go_wp2_with fail
  refine bodyPost_ret (v := .tuple #[(.agg #[.slice y.k.o y.k.n y.k.c, .slice y.i.o y.i.n y.i.c, .slice y.f.o y.f.n y.f.c]), .int .i64 2]) (by simp [results, Try.results12, go_sem, *]) rfl ⟨y, ret_gh HE.out.symm, ?_, HA.out.fin _ _ _⟩
  rw [ad_no HE.out (by decide)]
  exact HY.out.below (HA.out.fin _ _ _)
end Go.Proofs.Ytcldnacpddebcaa.Gh
