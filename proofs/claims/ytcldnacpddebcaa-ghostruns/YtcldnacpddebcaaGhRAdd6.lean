/- What the document's Add (of ghosts) does: a birth out of another one. -/
import Derived.Test.YtcldnacpddebcaaGhRAdd5
namespace Go.Proofs.Ytcldnacpddebcaa.Gh
open Go.RowKit
open Go.Proofs.Ytcldnacpddebcaa.Tr

set_option maxRecDepth 100000 in
set_option maxHeartbeats 2000000 in
theorem radd_born2 (y : Gv) (g : Gt) (key fm : P) (w : World) (ho : okB g = true) (hk : okK key = true) (hf : okK fm = true) (hi : fk key g.ks = none) (j : Nat) (hj : fk fm g.ks = some j) (hm : g.fr.length < 4096) (HY : Hid (HasG w y g)) :
    Calls Try.prog 12 #[(.agg #[.slice y.k.o y.k.n y.k.c, .slice y.i.o y.i.n y.i.c, .slice y.f.o y.f.n y.f.c]), .agg #[.int .i64 2, .int .i64 key.1, .int .i64 key.2, .int .i64 fm.1, .int .i64 fm.2]] w fun e w' => ∃ z : Gv, e = .returned (.tuple #[(.agg #[.slice z.k.o z.k.n z.k.c, .slice z.i.o z.i.n z.i.c, .slice z.f.o z.f.n z.f.c]), .int .i64 (adE g ⟨2, key, fm⟩)]) ∧ HasG w' z (adA g ⟨2, key, fm⟩) ∧ Below w.heap.size w w' := by
  have HE : Hid (adE g ⟨2, key, fm⟩ = 0 ∧ adA g ⟨2, key, fm⟩ = ⟨g.ks ++ [key], g.is ++ [(g.fr.length : Int)], g.fr ++ [(Ii g.is j)]⟩) := by
    have h : adE g ⟨2, key, fm⟩ = 0 := by simp [adE, ho, hk, hf, hi, two, hasG, hm, hj]
    refine ⟨h, ?_⟩
    simp [adA, h, pk, hj]
  have HN := hid HY.out.ks.len
  have HNI := hid HY.out.is.len
  have HNF := hid HY.out.fr.len
  have hn4 : y.k.n ≤ 4096 := by have h1 := (okB_iff.1 ho).few; have h2 := (okB_iff.1 ho).max; have := HN.out; omega
  have hi4 : y.i.n ≤ 4096 := by have h1 := (okB_iff.1 ho).len; have := HNI.out; have := HN.out; omega
  have hf4 : y.f.n ≤ 4096 := by have := HNF.out; omega
  have m1 : ¬ (y.f.n : Int) ≥ 4096 := by have := HNF.out; omega
  have hjl : j < g.ks.length := (fk_some.1 hj).1
  have hjn : j < y.i.n := by have h1 := (okB_iff.1 ho).len; have := HNI.out; omega
  have jj1 : (0 : Int) ≤ (j : Int) := by omega
  have jj2 : (j : Int) < (y.i.n : Int) := by omega
  have HS : Hid (y.k.n ≤ 9223372036854775806) := by have h1 := (okB_iff.1 ho).few; have h2 := (okB_iff.1 ho).max; have h3 := HY.out.ks.len; unfold Hid; omega
  have j0 : ¬ (j : Int) < 0 := by omega
  go_enter Try.func12, Try.ntmps12
  go_wp2_with fail
  have HA := hid (ab_new w y ⟨2, key, fm⟩)
  unfold nilG at HA
  generalize ((w.alloc (.cells #[.slice y.k.o y.k.n y.k.c, .slice y.i.o y.i.n y.i.c, .slice y.f.o y.f.n y.f.c] 25)).alloc (.cells #[.int .i64 2, .int .i64 key.1, .int .i64 key.2, .int .i64 fm.1, .int .i64 fm.2] 29)).alloc (.cells #[.slice none 0 0, .slice none 0 0, .slice none 0 0] 25) = W at HA ⊢
  refine (gis_any y g W (HY.out.below HA.out.low)).mono ?_
  rintro e w1 ⟨rfl, b1⟩
  replace HA := hid (HA.out.below b1)
  clear b1
  rw [ho]
  obtain ⟨c0, c1, c2, _, _, _⟩ := HA.out.g
  obtain ⟨z0, z1, z2, z3, z4⟩ := HA.out.z
  obtain ⟨r0, r1, r2, f0, f1, f2⟩ := HA.out.r
  have hb1 : w.heap.size + 2 < w1.heap.size := HA.out.r.lt
  go_wp2_with fail
  refine (ki_any key _).mono ?_
  rintro e w2 ⟨rfl, b2⟩
  replace HA := hid (HA.out.below b2)
  clear b2 c0 c1 c2 z0 z1 z2 z3 z4 r0 r1 r2 f0 f1 f2 hb1
  rw [hk]
  obtain ⟨c0, c1, c2, _, _, _⟩ := HA.out.g
  obtain ⟨z0, z1, z2, z3, z4⟩ := HA.out.z
  obtain ⟨r0, r1, r2, f0, f1, f2⟩ := HA.out.r
  have hb1 : w.heap.size + 2 < w2.heap.size := HA.out.r.lt
  go_wp2_with fail
  refine (ki_any fm _).mono ?_
  rintro e w3 ⟨rfl, b3⟩
  replace HA := hid (HA.out.below b3)
  clear b3 c0 c1 c2 z0 z1 z2 z3 z4 r0 r1 r2 f0 f1 f2 hb1
  rw [hf]
  obtain ⟨c0, c1, c2, _, _, _⟩ := HA.out.g
  obtain ⟨z0, z1, z2, z3, z4⟩ := HA.out.z
  obtain ⟨r0, r1, r2, f0, f1, f2⟩ := HA.out.r
  have hb1 : w.heap.size + 2 < w3.heap.size := HA.out.r.lt
  go_wp2_with fail
  have C1 : Hid (∀ W, Below w3.heap.size w3 W → Calls Try.prog 40 #[(.agg #[.slice y.k.o y.k.n y.k.c, .slice y.i.o y.i.n y.i.c, .slice y.f.o y.f.n y.f.c]), (.agg #[.int .i64 key.1, .int .i64 key.2])] W fun e w' => e = .returned (.int .i64 (-1)) ∧ Below W.heap.size W w') := fun W q => by rw [← fkI_none hi]; exact gfind_any y g.ks key W HS.out (HY.out.ks.below (q_trans HA.out.low q))
  have C2 : Hid (∀ W, Below w3.heap.size w3 W → Calls Try.prog 40 #[(.agg #[.slice y.k.o y.k.n y.k.c, .slice y.i.o y.i.n y.i.c, .slice y.f.o y.f.n y.f.c]), (.agg #[.int .i64 fm.1, .int .i64 fm.2])] W fun e w' => e = .returned (.int .i64 (j : Int)) ∧ Below W.heap.size W w') := fun W q => by rw [← fkI_some hj]; exact gfind_any y g.ks fm W HS.out (HY.out.ks.below (q_trans HA.out.low q))
  clear c0 c1 c2 z0 z1 z2 z3 z4 r0 r1 r2 f0 f1 f2 hb1
  obtain ⟨c0, c1, c2⟩ := HA.out.g.inG.always
  obtain ⟨z0, z1, z2, z3, z4⟩ := HA.out.z.always
  have hne : Nonempty (Later w3) := ⟨⟨_, Below.refl _ _⟩⟩
  refine wp_region_later (by kernel_rfl) (by kernel_rfl) ?_
  repeat (go_big_quiet_step (first | (go_at_call 40; with_reducible exact later_call (C1.out _ (Later.low _))) | (go_at_call 40; with_reducible exact later_call (C2.out _ (Later.low _)))))
  refine wpQuiet_nil ?_
  rintro w9 ⟨⟨_, b9⟩, rfl⟩
  replace HA := hid (HA.out.below b9)
  clear b9 c0 c1 c2 z0 z1 z2 z3 z4 hne C1 C2
  obtain ⟨c0, c1, c2, _, _, _⟩ := HA.out.g
  obtain ⟨z0, z1, z2, z3, z4⟩ := HA.out.z
  obtain ⟨r0, r1, r2, f0, f1, f2⟩ := HA.out.r
  have hb1 : w.heap.size + 2 < w9.heap.size := HA.out.r.lt
  obtain ⟨a9, ea9, ca9⟩ := (HY.out.is.below HA.out.low).cell j hjn
  obtain ⟨v, hv⟩ : ∃ v, g.is.getD j 0 = v := ⟨_, rfl⟩
  rw [hv] at ca9
  have HV : Hid (Ii g.is j = v) := hv
  rw [ea9] at c1
  clear hv
  go_upto_region 15 with fail
  rw [← ea9] at c1
  clear ca9 ea9
  have HLz := hid (lz_start (wr := w9) HY.out HA.out.low)
  have HQ : Hid (∀ W', Below w9.heap.size w9 W' → W'.cell? ⟨w.heap.size, 0, none⟩ = some (.slice y.k.o y.k.n y.k.c) ∧ W'.frozen? ⟨w.heap.size, 0, none⟩ = false ∧ W'.cell? ⟨w.heap.size + 1, 1, none⟩ = some (.int .i64 key.1) ∧ W'.cell? ⟨w.heap.size + 1, 2, none⟩ = some (.int .i64 key.2)) := fun W' b => ⟨(HA.out.g.below b).c0, (HA.out.g.below b).f0, (HA.out.z.below b).c1, (HA.out.z.below b).c2⟩
  have hlg : w.heap.size < w9.heap.size := HA.out.g.lt
  have hlz : w.heap.size + 1 < w9.heap.size := by omega
  have HRw := hid (HY.out.ks.below (q_trans HA.out.low (Below.refl _ w9).drew)).row
  go_cut [101] from 94 to 102 (fun s101 wx => ∃ (gb kc : Nat), s101 = .slice (some ⟨gb, 0, none⟩) (y.k.n + 1) kc ∧ Hid (Ab w wx ⟨⟨some ⟨gb, 0, none⟩, y.k.n + 1, kc⟩, y.i, y.f⟩ ⟨2, key, fm⟩) ∧ Hid (Lz w wx ⟨⟨some ⟨gb, 0, none⟩, y.k.n + 1, kc⟩, y.i, y.f⟩ ⟨g.ks ++ [key], g.is, g.fr⟩))
  case first =>
    go_region_law
      (first
        | (refine step_ks _ (by rfl) (.tmp 94) (.tmp 96) (by rfl) w9.heap.size _ 0 [] (by rfl) (by first | exact own0 w9.drew 27 2 | exact (own0 w9.drew 27 2).alloc _ | exact own1K key w9.drew) y.k.o y.k.n y.k.c g.ks (by rfl) HN.out HY.out.ks.nil (by first | exact (HRw.out.below (alloc_below w9.drew _)) | exact (HRw.out.below (q_alloc (alloc_below w9.drew _) _))) y.k.n (Nat.zero_add _) g.ks (List.nil_append _) (by omega) (by first | exact (alloc_below w9.drew _).size | exact (q_alloc (alloc_below w9.drew _) _).size) ?_; intro ao5 cap5 w5 own5 grow5; have b5 : Hid (Below w9.heap.size w9 w5) := (by first | exact q_trans (Below.refl _ w9).drew (app_below (w := w9.drew) grow5) | exact q_trans (Below.refl _ w9).drew (app_below2 (w := w9.drew) grow5) | exact q_trans (Below.refl _ w9).drew (app_below3 (w := w9.drew) grow5)); (try (have HK5 : Hid (Row w5 (some ⟨w9.heap.size + 1, 0, none⟩) (prs [key])) := (row_off (ks_at1 key w9.drew) grow5 (by simp)))); (try (have HK5 : Hid (Row w5 (some ⟨w9.heap.size, 0, none⟩) (prs [key])) := (row_off ((one_pair w9.drew key 27).below (alloc_below _ _)) grow5 (by simp)))); have q1 := (HQ.out _ b5.out))
        | (refine step_key _ (by rfl) (.tmp 97) (.tmp 100) (by rfl) w9.heap.size _ y.k.n g.ks (by rfl) (by first | exact own5 | exact own5.alloc _) _ key (by rfl) (by first | exact HK5.out | exact one_pair w5 key 27) (by omega) (by first | exact b5.out.size | exact (q_alloc b5.out _).size) ?_; intro gb6 cap6 w6 own6 grow6 at6; have b6 : Hid (Below w9.heap.size w9 w6) := (by first | exact b5.out.trans (own_grown own5 grow6 b5.out.size) | exact (b5.out.alloc b5.out.size _).trans (own_grown (own5.alloc _) grow6 (q_alloc b5.out _).size)); have q3 := (HQ.out _ b6.out))
        | fail)
    all_goals (try go_wp2_with fail)
    all_goals go_meet
    all_goals
      have hf := md_K HA.out HLz.out b6.out own6 (by rw [HN.out]; simp)
      exact ⟨gb6, cap6, rfl, hf.1, hf.2⟩
  case rest =>
    obtain ⟨gb, kc, rfl, HA2, HLz2⟩ := hcut
    clear HQ HA HLz c0 c1 c2 z0 z1 z2 z3 z4 r0 r1 r2 f0 f1 f2 hb1 hlg hlz HRw
    obtain ⟨wb, hwb⟩ : ∃ wb, wb = wc := ⟨_, rfl⟩
    subst hwb
    have HQ : Hid (∀ W', Below wb.heap.size wb W' → W'.cell? ⟨w.heap.size, 1, none⟩ = some (.slice y.i.o y.i.n y.i.c) ∧ W'.frozen? ⟨w.heap.size, 1, none⟩ = false ∧ W'.cell? ⟨w.heap.size, 2, none⟩ = some (.slice y.f.o y.f.n y.f.c)) := fun W' b => ⟨(HA2.out.g.below b).c1, (HA2.out.g.below b).f1, (HA2.out.g.below b).c2⟩
    obtain ⟨c0, c1, c2, _, _, _⟩ := HA2.out.g
    have hlg : w.heap.size < wb.heap.size := HA2.out.g.lt
    have HRw := hid (HY.out.is.below (q_trans HA2.out.low (Below.refl _ wb).drew)).row
    go_upto_region 16 with fail
    go_cut [111] from 103 to 112 (fun s111 wx => ∃ (gi ic : Nat), s111 = .slice (some ⟨gi, 0, none⟩) (y.i.n + 1) ic ∧ Hid (Ab w wx ⟨⟨some ⟨gb, 0, none⟩, y.k.n + 1, kc⟩, ⟨some ⟨gi, 0, none⟩, y.i.n + 1, ic⟩, y.f⟩ ⟨2, key, fm⟩) ∧ Hid (Lz w wx ⟨⟨some ⟨gb, 0, none⟩, y.k.n + 1, kc⟩, ⟨some ⟨gi, 0, none⟩, y.i.n + 1, ic⟩, y.f⟩ ⟨g.ks ++ [key], g.is ++ [(y.f.n : Int)], g.fr⟩))
    case first =>
      go_region_law
        (first
          | (refine step_is _ (by rfl) (.tmp 103) (.tmp 105) (by rfl) wb.heap.size _ 0 [] (by rfl) (by first | exact own0 wb.drew 3 1 | exact (own0 wb.drew 3 1).alloc _ | exact own1I (y.f.n : Int) wb.drew) y.i.o y.i.n y.i.c g.is (by rfl) HNI.out HY.out.is.nil (by first | exact (HRw.out.below (alloc_below wb.drew _)) | exact (HRw.out.below (q_alloc (alloc_below wb.drew _) _))) y.i.n (Nat.zero_add _) g.is (List.nil_append _) (by omega) (by first | exact (alloc_below wb.drew _).size | exact (q_alloc (alloc_below wb.drew _) _).size) ?_; intro ao5 cap5 w5 own5 grow5; have b5 : Hid (Below wb.heap.size wb w5) := (by first | exact q_trans (Below.refl _ wb).drew (app_below (w := wb.drew) grow5) | exact q_trans (Below.refl _ wb).drew (app_below2 (w := wb.drew) grow5) | exact q_trans (Below.refl _ wb).drew (app_below3 (w := wb.drew) grow5)); (try (have HK5 : Hid (Row w5 (some ⟨wb.heap.size + 1, 0, none⟩) (vals [(y.f.n : Int)])) := (row_off (is_at1 (y.f.n : Int) wb.drew) grow5 (by simp)))); (try (have HK5 : Hid (Row w5 (some ⟨wb.heap.size, 0, none⟩) (vals [(y.f.n : Int)])) := (row_off ((one_int wb.drew (y.f.n : Int) 3).below (alloc_below _ _)) grow5 (by simp)))); have q1 := (HQ.out _ b5.out))
          | (refine step_int _ (by rfl) (.tmp 106) (.tmp 110) (by rfl) wb.heap.size _ y.i.n g.is (by rfl) (by first | exact own5 | exact own5.alloc _) _ (y.f.n : Int) (by rfl) (by first | exact HK5.out | exact one_int w5 (y.f.n : Int) 3) (by omega) (by first | exact b5.out.size | exact (q_alloc b5.out _).size) ?_; intro gb6 cap6 w6 own6 grow6 at6; have b6 : Hid (Below wb.heap.size wb w6) := (by first | exact b5.out.trans (own_grown own5 grow6 b5.out.size) | exact (b5.out.alloc b5.out.size _).trans (own_grown (own5.alloc _) grow6 (q_alloc b5.out _).size)); have q3 := (HQ.out _ b6.out))
          | fail)
      all_goals (try go_wp2_with fail)
      all_goals go_meet
      all_goals
        have hf := md_I HA2.out HLz2.out b6.out own6 (by rw [HNI.out]; simp)
        exact ⟨gb6, cap6, rfl, hf.1, hf.2⟩
    case rest =>
      obtain ⟨gi, ic, rfl, HA3, HLz3⟩ := hcut
      clear HQ HA2 HLz2 c0 c1 c2 hlg HRw
      obtain ⟨c0, c1, c2, g0, g1, g2⟩ := HA3.out.g
      obtain ⟨r0, r1, r2, f0, f1, f2⟩ := HA3.out.r
      have hlg : w.heap.size < wc.heap.size := HA3.out.g.lt
      have HRw := hid ((HY.out.fr.below HA3.out.low).below (alloc_below wc (.cells #[] 3))).row
      go_wp2_with (at_builtin; go_loud (refine wpList_append_row _ rfl (.tmp 113) (.tmp 115) 23 3 _ 1 8 rfl Try.underlying23 infoN rfl (by decide) (by decide) wc.heap.size _ 0 [] rfl (own0 wc 3 1) _ y.f.n y.f.c (vals g.fr) rfl (by rw [len_vals, ← HNF.out]; omega) HY.out.fr.nil HRw.out (vals_one _) (by omega) (alloc_below wc _).size ?_; intro ao5 cap5 w5 own5 grow5; rw [Nat.zero_add, List.nil_append] at own5; simp only [Nat.zero_add]; apply Hid.out))
      have B5 := hid (app_below grow5)
      have HO5 := hid own5
      clear own5 grow5 HRw c0 c1 c2 g0 g1 g2 r0 r1 r2 f0 f1 f2 hlg
      unfold Hid
      obtain ⟨c0, c1, c2, g0, g1, g2⟩ := (HA3.out.below B5.out).g
      obtain ⟨r0, r1, r2, f0, f1, f2⟩ := (HA3.out.below B5.out).r
      have hlg : w.heap.size < w5.heap.size := (HA3.out.below B5.out).g.lt
      go_wp2_with (at_builtin; go_loud (refine list_int _ rfl (.tmp 116) (.tmp 118) rfl wc.heap.size _ y.f.n g.fr rfl (HO5.out.alloc _) ⟨w5.heap.size, 0, none⟩ v rfl (one_int w5 v 3) (by omega) (q_alloc B5.out _).size ?_; intro gf6 cap6 w6 own6 grow6 at6; apply Hid.out))
      have B6 : Hid (Below wc.heap.size wc w6) := (B5.out.alloc B5.out.size _).trans (own_grown (HO5.out.alloc _) grow6 (q_alloc B5.out _).size)
      have HF := hid (md_F HA3.out HLz3.out B6.out own6 (by rw [HNF.out]; simp))
      clear own6 grow6 at6 c0 c1 c2 g0 g1 g2 r0 r1 r2 f0 f1 f2 hlg
      unfold Hid
      obtain ⟨c0, c1, c2, g0, g1, g2⟩ := (HA3.out.below B6.out).g
      have hlg : w.heap.size < w6.heap.size := (HA3.out.below B6.out).g.lt
      go_upto_region 25 with fail
      generalize w6.setCell ⟨w.heap.size, 2, none⟩ (.slice (some ⟨gf6, 0, none⟩) (y.f.n + 1) cap6) = w7 at HF ⊢
      clear c0 c1 c2 g0 g1 g2 hlg
      obtain ⟨c0, c1, c2, _, _, _⟩ := HF.out.1.g
      obtain ⟨r0, r1, r2, f0, f1, f2⟩ := HF.out.1.r
      have hlg : w.heap.size + 2 < w7.heap.size := HF.out.1.r.lt
      go_wp2_with fail
      refine bodyPost_ret (v := .tuple #[.agg #[.slice (some ⟨gb, 0, none⟩) (y.k.n + 1) kc, .slice (some ⟨gi, 0, none⟩) (y.i.n + 1) ic, .slice (some ⟨gf6, 0, none⟩) (y.f.n + 1) cap6], .int .i64 0]) (by simp [results, Try.results12, go_sem, *]) rfl ⟨⟨⟨some ⟨gb, 0, none⟩, y.k.n + 1, kc⟩, ⟨some ⟨gi, 0, none⟩, y.i.n + 1, ic⟩, ⟨some ⟨gf6, 0, none⟩, y.f.n + 1, cap6⟩⟩, ret_gh HE.out.1.symm, ?_, HF.out.1.fin _ _ _⟩
      rw [HE.out.2, HV.out, ← HNF.out]
      exact HF.out.2.fin _ _ _
end Go.Proofs.Ytcldnacpddebcaa.Gh
