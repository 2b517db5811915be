/- What the document's Add (of ghosts) does: a move. -/
import Derived.Test.YtcldnacpddebcaaGhOwn
import Derived.Test.YtcldnacpddebcaaGhRAdd2
namespace Go.Proofs.Ytcldnacpddebcaa.Gh
open Go.RowKit
open Go.Proofs.Ytcldnacpddebcaa.Tr

set_option maxRecDepth 100000 in
set_option maxHeartbeats 2000000 in
theorem radd_move (y : Gv) (g : Gt) (key fm : P) (w : World) (ho : okB g = true) (hk : okK key = true) (hf : okK fm = true) (hi : fk key g.ks = none) (j : Nat) (hj : fk fm g.ks = some j)  (HY : Hid (HasG w y g)) :
    Calls Try.prog 12 #[(.agg #[.slice y.k.o y.k.n y.k.c, .slice y.i.o y.i.n y.i.c, .slice y.f.o y.f.n y.f.c]), .agg #[.int .i64 3, .int .i64 key.1, .int .i64 key.2, .int .i64 fm.1, .int .i64 fm.2]] w fun e w' => ∃ z : Gv, e = .returned (.tuple #[(.agg #[.slice z.k.o z.k.n z.k.c, .slice z.i.o z.i.n z.i.c, .slice z.f.o z.f.n z.f.c]), .int .i64 (adE g ⟨3, key, fm⟩)]) ∧ HasG w' z (adA g ⟨3, key, fm⟩) ∧ Below w.heap.size w w' := by
  have HE : Hid (adE g ⟨3, key, fm⟩ = 0 ∧ adA g ⟨3, key, fm⟩ = ⟨g.ks.set j key, g.is, g.fr⟩) := by
    have h : adE g ⟨3, key, fm⟩ = 0 := by simp [adE, ho, hk, hf, hi, hj, two, hasG]
    refine ⟨h, ?_⟩
    simp [adA, h, pk, hj]
  have HJ : Hid (j < g.ks.length) := (fk_some.1 hj).1
  have HN := hid HY.out.ks.len
  have hn4 : y.k.n ≤ 4096 := by have h1 := (okB_iff.1 ho).few; have h2 := (okB_iff.1 ho).max; have := HN.out; omega
  have hjn : j < y.k.n := by have := HN.out; have := HJ.out; omega
  have HS : Hid (y.k.n ≤ 9223372036854775806) := by have h1 := (okB_iff.1 ho).few; have h2 := (okB_iff.1 ho).max; have h3 := HY.out.ks.len; unfold Hid; omega
  have j0 : ¬ (j : Int) < 0 := by omega
  have j1 : (0 : Int) ≤ (j : Int) := by omega
  have j2 : (j : Int) < (y.k.n : Int) := by omega
  go_enter Try.func12, Try.ntmps12
  go_wp2_with fail
  have HA := hid (ab_new w y ⟨3, key, fm⟩)
  unfold nilG at HA
  generalize ((w.alloc (.cells #[.slice y.k.o y.k.n y.k.c, .slice y.i.o y.i.n y.i.c, .slice y.f.o y.f.n y.f.c] 25)).alloc (.cells #[.int .i64 3, .int .i64 key.1, .int .i64 key.2, .int .i64 fm.1, .int .i64 fm.2] 29)).alloc (.cells #[.slice none 0 0, .slice none 0 0, .slice none 0 0] 25) = W at HA ⊢
  refine (gis_any y g W (HY.out.below HA.out.low)).mono ?_
  rintro e w1 ⟨rfl, b1⟩
  replace HA := hid (HA.out.below b1)
  clear b1
  rw [ho]
  obtain ⟨c0, c1, c2, _, _, _⟩ := HA.out.g
  obtain ⟨z0, z1, z2, z3, z4⟩ := HA.out.z
  obtain ⟨r0, r1, r2, f0, f1, f2⟩ := HA.out.r
  have hb1 : w.heap.size + 2 < w1.heap.size := HA.out.r.lt
  go_wp2_with fail
  refine (ki_any key _).mono ?_
  rintro e w2 ⟨rfl, b2⟩
  replace HA := hid (HA.out.below b2)
  clear b2 c0 c1 c2 z0 z1 z2 z3 z4 r0 r1 r2 f0 f1 f2 hb1
  rw [hk]
  obtain ⟨c0, c1, c2, _, _, _⟩ := HA.out.g
  obtain ⟨z0, z1, z2, z3, z4⟩ := HA.out.z
  obtain ⟨r0, r1, r2, f0, f1, f2⟩ := HA.out.r
  have hb1 : w.heap.size + 2 < w2.heap.size := HA.out.r.lt
  go_wp2_with fail
  refine (ki_any fm _).mono ?_
  rintro e w3 ⟨rfl, b3⟩
  replace HA := hid (HA.out.below b3)
  clear b3 c0 c1 c2 z0 z1 z2 z3 z4 r0 r1 r2 f0 f1 f2 hb1
  rw [hf]
  obtain ⟨c0, c1, c2, _, _, _⟩ := HA.out.g
  obtain ⟨z0, z1, z2, z3, z4⟩ := HA.out.z
  obtain ⟨r0, r1, r2, f0, f1, f2⟩ := HA.out.r
  have hb1 : w.heap.size + 2 < w3.heap.size := HA.out.r.lt
  go_wp2_with fail
  have C1 : Hid (∀ W, Below w3.heap.size w3 W → Calls Try.prog 40 #[(.agg #[.slice y.k.o y.k.n y.k.c, .slice y.i.o y.i.n y.i.c, .slice y.f.o y.f.n y.f.c]), (.agg #[.int .i64 key.1, .int .i64 key.2])] W fun e w' => e = .returned (.int .i64 (-1)) ∧ Below W.heap.size W w') := fun W q => by rw [← fkI_none hi]; exact gfind_any y g.ks key W HS.out (HY.out.ks.below (q_trans HA.out.low q))
  have C2 : Hid (∀ W, Below w3.heap.size w3 W → Calls Try.prog 40 #[(.agg #[.slice y.k.o y.k.n y.k.c, .slice y.i.o y.i.n y.i.c, .slice y.f.o y.f.n y.f.c]), (.agg #[.int .i64 fm.1, .int .i64 fm.2])] W fun e w' => e = .returned (.int .i64 (j : Int)) ∧ Below W.heap.size W w') := fun W q => by rw [← fkI_some hj]; exact gfind_any y g.ks fm W HS.out (HY.out.ks.below (q_trans HA.out.low q))
  clear c0 c1 c2 z0 z1 z2 z3 z4 r0 r1 r2 f0 f1 f2 hb1
  obtain ⟨c0, c1, c2⟩ := HA.out.g.inG.always
  obtain ⟨z0, z1, z2, z3, z4⟩ := HA.out.z.always
  have hne : Nonempty (Later w3) := ⟨⟨_, Below.refl _ _⟩⟩
  refine wp_region_later (by kernel_rfl) (by kernel_rfl) ?_
  repeat (go_big_quiet_step (first | (go_at_call 40; with_reducible exact later_call (C1.out _ (Later.low _))) | (go_at_call 40; with_reducible exact later_call (C2.out _ (Later.low _)))))
  refine wpQuiet_nil ?_
  rintro w9 ⟨⟨_, b9⟩, rfl⟩
  replace HA := hid (HA.out.below b9)
  clear b9 c0 c1 c2 z0 z1 z2 z3 z4 hne C1 C2
  obtain ⟨c0, c1, c2, _, _, _⟩ := HA.out.g
  obtain ⟨z0, z1, z2, z3, z4⟩ := HA.out.z
  obtain ⟨r0, r1, r2, f0, f1, f2⟩ := HA.out.r
  have hb1 : w.heap.size + 2 < w9.heap.size := HA.out.r.lt
  have hb2 : w.heap.size < w9.heap.size := by omega
  have hb3 : w.heap.size + 1 < w9.heap.size := by omega
  have HRw := hid ((HY.out.ks.below HA.out.low).row.below (alloc_below w9 (.cells #[] 27)))
  go_wp2_with (at_builtin; go_loud (refine wpList_append_row _ rfl (.tmp 123) (.tmp 125) 22 27 _ 2 16 rfl Try.underlying22 infoK rfl (by decide) (by decide) w9.heap.size _ 0 [] rfl (own0 w9 27 2) _ y.k.n y.k.c (prs g.ks) rfl (by rw [len_prs, ← HN.out]) HY.out.ks.nil HRw.out (prs_one _) (by omega) (alloc_below w9 _).size ?_; intro ao3 cap3 w3 own3 grow3; rw [Nat.zero_add, List.nil_append] at own3; simp only [Nat.zero_add]; apply Hid.out))
  have HM3 : Hid (MineP 27 w3 w9.heap.size ao3 y.k.n cap3 g.ks) := ⟨HN.out, own3⟩
  have HA3 := hid (HA.out.below (app_below grow3))
  have HL9 : Hid (w.heap.size + 2 < w9.heap.size) := HA.out.r.lt
  unfold Hid
  clear own3 grow3 HRw HA c0 c1 c2 z0 z1 z2 z3 z4 r0 r1 r2 f0 f1 f2 hb1 hb2 hb3
  obtain ⟨gb, rfl⟩ : ∃ gb, ao3 = some ⟨gb, 0, none⟩ := ownK_some HM3.out (by omega)
  have HGb : Hid (w9.heap.size ≤ gb) := ownK_low HM3.out
  have n0 : gb ≠ w.heap.size := by have := HGb.out; have := HL9.out; omega
  have n1 : gb ≠ w.heap.size + 1 := by have := HGb.out; have := HL9.out; omega
  have n2 : gb ≠ w.heap.size + 2 := by have := HGb.out; have := HL9.out; omega
  obtain ⟨x0, x1⟩ := ownK_cell HM3.out HJ.out
  have x2 := own_frozen (j := j * 2) HM3.out.2
  have x3 := own_frozen (j := j * 2 + 1) HM3.out.2
  obtain ⟨c0, c1, c2, g0, g1, g2⟩ := HA3.out.g
  obtain ⟨z0, z1, z2, z3, z4⟩ := HA3.out.z
  obtain ⟨r0, r1, r2, f0, f1, f2⟩ := HA3.out.r
  have hb1 : w.heap.size + 2 < w3.heap.size := HA3.out.r.lt
  go_wp2_with fail
  refine bodyPost_ret (v := .tuple #[.agg #[.slice (some ⟨gb, 0, none⟩) y.k.n cap3, .slice y.i.o y.i.n y.i.c, .slice y.f.o y.f.n y.f.c], .int .i64 0]) (by simp [results, Try.results12, go_sem, *]) rfl ⟨⟨⟨some ⟨gb, 0, none⟩, y.k.n, cap3⟩, y.i, y.f⟩, ret_gh HE.out.1.symm, ?_, (fin_move HA3.out.low HL9.out HM3.out _ _ _ _).2⟩
  rw [HE.out.2]
  have hfin := fin_move (j := j) (key := key) HA3.out.low HL9.out HM3.out (.slice (some ⟨gb, 0, none⟩) y.k.n cap3) (.slice (some ⟨gb, 0, none⟩) y.k.n cap3) (.slice y.i.o y.i.n y.i.c) (.slice y.f.o y.f.n y.f.c)
  exact ⟨hfin.1, HY.out.is.below hfin.2, HY.out.fr.below hfin.2⟩
end Go.Proofs.Ytcldnacpddebcaa.Gh
