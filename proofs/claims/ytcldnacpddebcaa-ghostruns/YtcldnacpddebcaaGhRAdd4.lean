/- What the document's Add (of ghosts) does: a death. -/
import Derived.Test.YtcldnacpddebcaaGhMd
import Derived.Test.YtcldnacpddebcaaGhRAdd2
import Derived.Deep.Cut
import Derived.Deep.CutRange
import Derived.Deep.RegionLaw
namespace Go.Proofs.Ytcldnacpddebcaa.Gh
open Go.RowKit
open Go.Proofs.Ytcldnacpddebcaa.Tr

set_option maxRecDepth 100000 in
set_option maxHeartbeats 2000000 in
theorem radd_die (y : Gv) (g : Gt) (key fm : P) (w : World) (ho : okB g = true) (hk : okK key = true) (i : Nat) (hi : fk key g.ks = some i)  (HY : Hid (HasG w y g)) :
    Calls Try.prog 12 #[(.agg #[.slice y.k.o y.k.n y.k.c, .slice y.i.o y.i.n y.i.c, .slice y.f.o y.f.n y.f.c]), .agg #[.int .i64 4, .int .i64 key.1, .int .i64 key.2, .int .i64 fm.1, .int .i64 fm.2]] w fun e w' => ∃ z : Gv, e = .returned (.tuple #[(.agg #[.slice z.k.o z.k.n z.k.c, .slice z.i.o z.i.n z.i.c, .slice z.f.o z.f.n z.f.c]), .int .i64 (adE g ⟨4, key, fm⟩)]) ∧ HasG w' z (adA g ⟨4, key, fm⟩) ∧ Below w.heap.size w w' := by
  have HE : Hid (adE g ⟨4, key, fm⟩ = 0 ∧ adA g ⟨4, key, fm⟩ = ⟨g.ks.eraseIdx i, g.is.eraseIdx i, g.fr⟩) := by
    have h : adE g ⟨4, key, fm⟩ = 0 := by simp [adE, ho, hk, hi, two, hasG]
    refine ⟨h, ?_⟩
    simp [adA, h, pk, hi]
  have hil : i < g.ks.length := (fk_some.1 hi).1
  have HN := hid HY.out.ks.len
  have HNI := hid HY.out.is.len
  have hlen := (okB_iff.1 ho).len
  have hn4 : y.k.n ≤ 4096 := by have h1 := (okB_iff.1 ho).few; have h2 := (okB_iff.1 ho).max; have := HN.out; omega
  have hin : i < y.k.n := by have := HN.out; omega
  have hin2 : i < y.i.n := by have := HNI.out; omega
  have hi4 : y.i.n ≤ 4096 := by have := HNI.out; have := HN.out; omega
  obtain ⟨j, hj⟩ : ∃ j : Nat, j = i + 1 := ⟨_, rfl⟩
  have hj1 : (i : Int) + 1 = (j : Int) := by omega
  have hj2 : IntKind.i64.wrap (j : Int) = (j : Int) := by rw [IntKind.wrap_i64] <;> omega
  obtain ⟨m, hm⟩ : ∃ m : Nat, m + 1 = y.k.n := ⟨y.k.n - 1, by omega⟩
  obtain ⟨m2, hm2⟩ : ∃ m2 : Nat, m2 + 1 = y.i.n := ⟨y.i.n - 1, by omega⟩
  have HKs : Hid (g.ks.take i ++ g.ks.drop j = g.ks.eraseIdx i) := by unfold Hid; rw [hj, List.eraseIdx_eq_take_drop_succ]
  have HIs : Hid (g.is.take i ++ g.is.drop j = g.is.eraseIdx i) := by unfold Hid; rw [hj, List.eraseIdx_eq_take_drop_succ]
  have HL1 : Hid (i + (y.k.n - j) = m ∧ m = (g.ks.eraseIdx i).length) := by
    refine ⟨by omega, ?_⟩
    have h9 := len_er (l := g.ks) (i := i) hil
    have := HN.out
    omega
  have HL2 : Hid (i + (y.i.n - j) = m2 ∧ m2 = (g.is.eraseIdx i).length) := by
    refine ⟨by omega, ?_⟩
    have h9 := len_er (l := g.is) (i := i) (by omega)
    have := HNI.out
    omega
  have ckc : y.k.n ≤ y.k.c := HY.out.ks.cap
  have cic : y.i.n ≤ y.i.c := HY.out.is.le
  have e1 : ∀ W, (Instr.slice 22 (.slice y.k.o y.k.n y.k.c) none (some (.int .i64 (i : Int))) none).run Try.prog W = .ok (.slice y.k.o i y.k.c) W := fun W => run_toK _ i y.k.n y.k.c (by omega) W
  obtain ⟨ao2, hao2⟩ : ∃ ao2 : Option Addr, (if y.k.c = j then y.k.o else y.k.o.map (·.add (j * 2))) = ao2 := ⟨_, rfl⟩
  have e2 : ∀ W, (Instr.slice 22 (.slice y.k.o y.k.n y.k.c) (some (.int .i64 (j : Int))) none none).run Try.prog W = .ok (.slice ao2 (y.k.n - j) (y.k.c - j)) W := fun W => by
    have h := run_fromK y.k.o j y.k.n y.k.c (by omega) W
    rwa [hao2] at h
  have HT1 : Hid (HasP w y.k.o i y.k.c (g.ks.take i)) := hasP_take HY.out.ks i (by omega)
  have HD1 : Hid (HasP w ao2 (y.k.n - j) (y.k.c - j) (g.ks.drop j)) := by
    have h := hasP_drop HY.out.ks j (by omega)
    rwa [hao2] at h
  have e3 : ∀ W, (Instr.slice 23 (.slice y.i.o y.i.n y.i.c) none (some (.int .i64 (i : Int))) none).run Try.prog W = .ok (.slice y.i.o i y.i.c) W := fun W => run_toI _ i y.i.n y.i.c (by omega) W
  obtain ⟨ao4, hao4⟩ : ∃ ao4 : Option Addr, (if y.i.c = j then y.i.o else y.i.o.map (·.add (j * 1))) = ao4 := ⟨_, rfl⟩
  have e4 : ∀ W, (Instr.slice 23 (.slice y.i.o y.i.n y.i.c) (some (.int .i64 (j : Int))) none none).run Try.prog W = .ok (.slice ao4 (y.i.n - j) (y.i.c - j)) W := fun W => by
    have h := run_fromI y.i.o j y.i.n y.i.c (by omega) W
    rwa [hao4] at h
  have HT2 : Hid (Has w y.i.o i y.i.c (g.is.take i)) := has_take HY.out.is i (by omega)
  have HD2 : Hid (Has w ao4 (y.i.n - j) (y.i.c - j) (g.is.drop j)) := by
    have h := has_drop HY.out.is j (by omega)
    rwa [hao4] at h
  have hm4 : m ≤ 4096 := by omega
  have hm24 : m2 ≤ 4096 := by omega
  clear hao2 hao4 hj hm hm2 ckc cic hlen hil
  have HS : Hid (y.k.n ≤ 9223372036854775806) := by have h1 := (okB_iff.1 ho).few; have h2 := (okB_iff.1 ho).max; have h3 := HY.out.ks.len; unfold Hid; omega
  have i0 : ¬ (i : Int) < 0 := by omega
  have i1 : (i : Int) ≥ 0 := by omega
  go_enter Try.func12, Try.ntmps12
  go_wp2_with fail
  have HA := hid (ab_new w y ⟨4, key, fm⟩)
  unfold nilG at HA
  generalize ((w.alloc (.cells #[.slice y.k.o y.k.n y.k.c, .slice y.i.o y.i.n y.i.c, .slice y.f.o y.f.n y.f.c] 25)).alloc (.cells #[.int .i64 4, .int .i64 key.1, .int .i64 key.2, .int .i64 fm.1, .int .i64 fm.2] 29)).alloc (.cells #[.slice none 0 0, .slice none 0 0, .slice none 0 0] 25) = W at HA ⊢
  refine (gis_any y g W (HY.out.below HA.out.low)).mono ?_
  rintro e w1 ⟨rfl, b1⟩
  replace HA := hid (HA.out.below b1)
  clear b1
  rw [ho]
  obtain ⟨c0, c1, c2, _, _, _⟩ := HA.out.g
  obtain ⟨z0, z1, z2, z3, z4⟩ := HA.out.z
  obtain ⟨r0, r1, r2, f0, f1, f2⟩ := HA.out.r
  have hb1 : w.heap.size + 2 < w1.heap.size := HA.out.r.lt
  go_wp2_with fail
  refine (ki_any key _).mono ?_
  rintro e w2 ⟨rfl, b2⟩
  replace HA := hid (HA.out.below b2)
  clear b2 c0 c1 c2 z0 z1 z2 z3 z4 r0 r1 r2 f0 f1 f2 hb1
  rw [hk]
  obtain ⟨c0, c1, c2, _, _, _⟩ := HA.out.g
  obtain ⟨z0, z1, z2, z3, z4⟩ := HA.out.z
  obtain ⟨r0, r1, r2, f0, f1, f2⟩ := HA.out.r
  have hb1 : w.heap.size + 2 < w2.heap.size := HA.out.r.lt
  go_wp2_with fail
  have C1 : Hid (∀ W, Below w2.heap.size w2 W → Calls Try.prog 40 #[(.agg #[.slice y.k.o y.k.n y.k.c, .slice y.i.o y.i.n y.i.c, .slice y.f.o y.f.n y.f.c]), (.agg #[.int .i64 key.1, .int .i64 key.2])] W fun e w' => e = .returned (.int .i64 (i : Int)) ∧ Below W.heap.size W w') := fun W q => by rw [← fkI_some hi]; exact gfind_any y g.ks key W HS.out (HY.out.ks.below (q_trans HA.out.low q))
  have C2 : Hid (∀ W, Below w2.heap.size w2 W → Calls Try.prog 40 #[(.agg #[.slice y.k.o y.k.n y.k.c, .slice y.i.o y.i.n y.i.c, .slice y.f.o y.f.n y.f.c]), (.agg #[.int .i64 fm.1, .int .i64 fm.2])] W fun e w' => e = .returned (.int .i64 (fkI fm g.ks)) ∧ Below W.heap.size W w') := fun W q => gfind_any y g.ks fm W HS.out (HY.out.ks.below (q_trans HA.out.low q))
  clear c0 c1 c2 z0 z1 z2 z3 z4 r0 r1 r2 f0 f1 f2 hb1
  obtain ⟨c0, c1, c2⟩ := HA.out.g.inG.always
  obtain ⟨z0, z1, z2, z3, z4⟩ := HA.out.z.always
  have hne : Nonempty (Later w2) := ⟨⟨_, Below.refl _ _⟩⟩
  refine wp_region_later (by kernel_rfl) (by kernel_rfl) ?_
  repeat (go_big_quiet_step (first | (go_at_call 40; with_reducible exact later_call (C1.out _ (Later.low _))) | (go_at_call 40; with_reducible exact later_call (C2.out _ (Later.low _)))))
  refine wpQuiet_nil ?_
  rintro w9 ⟨⟨_, b9⟩, rfl⟩
  replace HA := hid (HA.out.below b9)
  clear b9 c0 c1 c2 z0 z1 z2 z3 z4 hne C1 C2
  obtain ⟨c0, c1, c2, _, _, _⟩ := HA.out.g
  obtain ⟨z0, z1, z2, z3, z4⟩ := HA.out.z
  obtain ⟨r0, r1, r2, f0, f1, f2⟩ := HA.out.r
  have hb1 : w.heap.size + 2 < w9.heap.size := HA.out.r.lt
  go_upto_region 23 with fail
  have HLz := hid (lz_start (wr := w9) HY.out HA.out.low)
  have HQ : Hid (∀ W', Below w9.heap.size w9 W' → W'.cell? ⟨w.heap.size, 0, none⟩ = some (.slice y.k.o y.k.n y.k.c) ∧ W'.frozen? ⟨w.heap.size, 0, none⟩ = false) := fun W' b => ⟨(HA.out.g.below b).c0, (HA.out.g.below b).f0⟩
  have hlg : w.heap.size < w9.heap.size := HA.out.g.lt
  go_cut [147] from 136 to 148 (fun s147 wx => ∃ (ko : Option Addr) (kc : Nat), s147 = .slice ko m kc ∧ Hid (Ab w wx ⟨⟨ko, m, kc⟩, y.i, y.f⟩ ⟨4, key, fm⟩) ∧ Hid (Lz w wx ⟨⟨ko, m, kc⟩, y.i, y.f⟩ ⟨g.ks.eraseIdx i, g.is, g.fr⟩))
  case first =>
    go_region_law
      (first
        | (refine step_ks _ (by rfl) (.tmp 136) (.tmp 140) (by rfl) w9.heap.size _ 0 [] (by rfl) (by first | exact own0 w9 27 2 | exact (own0 w9 27 2).drew) y.k.o i y.k.c (g.ks.take i) (by rfl) HT1.out.len HT1.out.nil (by first | exact ((HT1.out.below HA.out.low).below (alloc_below w9 _)).row | exact ((HT1.out.below HA.out.low).below (alloc_below w9 _).drew).row) i (Nat.zero_add _) (g.ks.take i) (List.nil_append _) (by omega) (alloc_below w9 (.cells #[] 27)).size ?_; intro ao5 cap5 w5 own5 grow5; have b5 : Hid (Below w9.heap.size w9 w5) := (q_trans (Below.refl _ w9).drew (app_below (w := w9.drew) grow5)); have q1 := (HQ.out _ b5.out).1; have q2 := (HQ.out _ b5.out).2)
        | (refine step_ks _ (by rfl) (.tmp 141) (.tmp 146) (by rfl) w9.heap.size _ i (g.ks.take i) (by rfl) own5 ao2 (y.k.n - j) (y.k.c - j) (g.ks.drop j) (by rfl) HD1.out.len HD1.out.nil ((HD1.out.below HA.out.low).below b5.out).row m HL1.out.1 (g.ks.eraseIdx i) HKs.out (by omega) b5.out.size ?_; intro ao6 cap6 w6 own6 grow6; have b6 : Hid (Below w9.heap.size w9 w6) := (b5.out.trans (own_grown own5 grow6 b5.out.size)); have q3 := (HQ.out _ b6.out).1; have q4 := (HQ.out _ b6.out).2)
        | fail)
    all_goals (try go_wp2_with fail)
    all_goals go_meet
    all_goals
      have hf := md_K HA.out HLz.out b6.out own6 HL1.out.2
      exact ⟨ao6, cap6, rfl, hf.1, hf.2⟩
  case rest =>
    obtain ⟨ko, kc, rfl, HA2, HLz2⟩ := hcut
    clear HQ HA HLz c0 c1 c2 z0 z1 z2 z3 z4 r0 r1 r2 f0 f1 f2 hb1 hlg e1 e2 HT1 HD1
    obtain ⟨wb, hwb⟩ : ∃ wb, wb = wc := ⟨_, rfl⟩
    subst hwb
    have HQ : Hid (∀ W', Below wb.heap.size wb W' → W'.cell? ⟨w.heap.size, 1, none⟩ = some (.slice y.i.o y.i.n y.i.c) ∧ W'.frozen? ⟨w.heap.size, 1, none⟩ = false) := fun W' b => ⟨(HA2.out.g.below b).c1, (HA2.out.g.below b).f1⟩
    obtain ⟨c0, c1, c2, _, _, _⟩ := HA2.out.g
    obtain ⟨z0, z1, z2, z3, z4⟩ := HA2.out.z
    obtain ⟨r0, r1, r2, f0, f1, f2⟩ := HA2.out.r
    have hlg : w.heap.size < wb.heap.size := HA2.out.g.lt
    go_upto_region 24 with fail
    go_region_law
      (first
        | (refine step_is _ (by rfl) (.tmp 149) (.tmp 153) (by rfl) wb.heap.size _ 0 [] (by rfl) (by first | exact own0 wb 3 1 | exact (own0 wb 3 1).drew) y.i.o i y.i.c (g.is.take i) (by rfl) HT2.out.len HT2.out.nil (by first | exact ((HT2.out.below HA2.out.low).below (alloc_below wb _)).row | exact ((HT2.out.below HA2.out.low).below (alloc_below wb _).drew).row) i (Nat.zero_add _) (g.is.take i) (List.nil_append _) (by omega) (alloc_below wb (.cells #[] 3)).size ?_; intro ao5 cap5 w5 own5 grow5; have b5 : Hid (Below wb.heap.size wb w5) := (q_trans (Below.refl _ wb).drew (app_below (w := wb.drew) grow5)); have q1 := (HQ.out _ b5.out).1; have q2 := (HQ.out _ b5.out).2)
        | (refine step_is _ (by rfl) (.tmp 154) (.tmp 159) (by rfl) wb.heap.size _ i (g.is.take i) (by rfl) own5 ao4 (y.i.n - j) (y.i.c - j) (g.is.drop j) (by rfl) HD2.out.len HD2.out.nil ((HD2.out.below HA2.out.low).below b5.out).row m2 HL2.out.1 (g.is.eraseIdx i) HIs.out (by omega) b5.out.size ?_; intro ao6 cap6 w6 own6 grow6; have b6 : Hid (Below wb.heap.size wb w6) := (b5.out.trans (own_grown own5 grow6 b5.out.size)); have q3 := (HQ.out _ b6.out).1; have q4 := (HQ.out _ b6.out).2; have HF := hid (md_I HA2.out HLz2.out b6.out own6 HL2.out.2); clear q1 q2 own5 grow5 grow6 own6)
        | fail)
    all_goals
      clear HQ c0 c1 c2 z0 z1 z2 z3 z4 r0 r1 r2 f0 f1 f2 hlg
      generalize w6.setCell ⟨w.heap.size, 1, none⟩ (.slice ao6 m2 cap6) = w7 at HF ⊢
      obtain ⟨c0, c1, c2, _, _, _⟩ := HF.out.1.g
      obtain ⟨r0, r1, r2, f0, f1, f2⟩ := HF.out.1.r
      have hlg : w.heap.size + 2 < w7.heap.size := HF.out.1.r.lt
      go_wp2_with fail
      refine bodyPost_ret (v := .tuple #[.agg #[.slice ko m kc, .slice ao6 m2 cap6, .slice y.f.o y.f.n y.f.c], .int .i64 0]) (by simp [results, Try.results12, go_sem, *]) rfl ⟨⟨⟨ko, m, kc⟩, ⟨ao6, m2, cap6⟩, y.f⟩, ret_gh HE.out.1.symm, ?_, HF.out.1.fin _ _ _⟩
      rw [HE.out.2]
      exact HF.out.2.fin _ _ _
end Go.Proofs.Ytcldnacpddebcaa.Gh
