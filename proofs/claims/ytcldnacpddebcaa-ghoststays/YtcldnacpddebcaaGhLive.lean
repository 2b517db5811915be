/- What live does. -/
import Derived.Test.YtcldnacpddebcaaGhLiveM
import Derived.Test.YtcldnacpddebcaaGhWA
import Derived.Test.YtcldnacpddebcaaGhGb
namespace Go.Proofs.Ytcldnacpddebcaa.Gh
open Go.RowKit
open Go.Proofs.Ytcldnacpddebcaa.Tr

set_option maxHeartbeats 400000 in
theorem gnum_any (x : Int) (w : World) :
    Calls Try.prog 14 #[.int .i64 x] w fun e w' => e = .returned (.int .i64 x) ∧ w' = w := by
  go_enter Try.func14, Try.ntmps14
  go_wp2
  go_ret
  exact ⟨rfl, rfl⟩
theorem gnum_low (x : Int) (w : World) :
    Calls Try.prog 14 #[.int .i64 x] w fun e w' => e = .returned (.int .i64 x) ∧ Below w.heap.size w w' := by
  refine (gnum_any x w).mono ?_
  rintro e w' ⟨rfl, rfl⟩
  exact ⟨rfl, Below.refl _ _⟩
set_option maxHeartbeats 400000 in
theorem gkey_any (x : Int) (w : World) :
    Calls Try.prog 33 #[.int .i64 x] w fun e w' => e = .returned (.agg #[.int .i64 x, .int .i64 0]) ∧ Below w.heap.size w w' := by
  go_enter Try.func33, Try.ntmps33
  go_wp2
  refine bodyPost_ret (v := .agg #[.int .i64 x, .int .i64 0]) (by simp [results, Try.results33, go_sem]) rfl ⟨rfl, ?_⟩
  repeat (first | exact q_alloc (Below.refl _ _) _ | refine q_set ?_ (by simp) _)
/-- Contracts with the answers named. -/
theorem run_at {ao : Option Addr} {n cap : Nat} {l : List Bi} {w : World} (g : Gt) (c : Nat) (hs : n ≤ 1000) (H : HasZ w ao n cap l) (hA : rnA l = g) (hN : rnN l = c) :
    Calls Try.prog 25 #[.slice ao n cap] w fun e w' => ∃ x : Gv, e = .returned (.tuple #[(.agg #[.slice x.k.o x.k.n x.k.c, .slice x.i.o x.i.n x.i.c, .slice x.f.o x.f.n x.f.c]), .int .i64 (c : Nat)]) ∧ HasG w' x g ∧ Below w.heap.size w w' := by
  have h := prun_any ao n cap l w hs H
  rwa [hA, hN] at h
theorem add_at {y : Gv} {g : Gt} {z : Bi} {w : World} (g' : Gt) (X : Int) (H : HasG w y g) (o : Ok g) (hE : adE g z = X) (hA : adA g z = g') :
    Calls Try.prog 11 #[(.agg #[.slice y.k.o y.k.n y.k.c, .slice y.i.o y.i.n y.i.c, .slice y.f.o y.f.n y.f.c]), (.agg #[.int .i64 z.kind, .int .i64 z.key.1, .int .i64 z.key.2, .int .i64 z.fm.1, .int .i64 z.fm.2])] w fun e w' => ∃ x : Gv, e = .returned (.tuple #[(.agg #[.slice x.k.o x.k.n x.k.c, .slice x.i.o x.i.n x.i.c, .slice x.f.o x.f.n x.f.c]), .int .i64 X]) ∧ HasG w' x g' ∧ Below w.heap.size w w' := by
  have hs := H.small o
  have h := padd_any y g z w (by omega) (by omega) (by omega) H
  rwa [hE, hA] at h
theorem who_at2 {y : Gv} {g : Gt} {k : P} {w : World} (i : Int) (b : Bool) (H : HasG w y g) (o : Ok g) (hI : whI g k = i) (hB : whB g k = b) :
    Calls Try.prog 18 #[(.agg #[.slice y.k.o y.k.n y.k.c, .slice y.i.o y.i.n y.i.c, .slice y.f.o y.f.n y.f.c]), (.agg #[.int .i64 k.1, .int .i64 k.2])] w fun e w' => e = .returned (.tuple #[.int .i64 i, .bool b]) ∧ Below w.heap.size w w' := by
  have hs := H.small o
  have h := pwho_any y g k w (by omega) H
  rwa [hI, hB] at h
theorem ds_at {y : Gv} {g : Gt} {a b : P} {w : World} (x : Bool) (H : HasG w y g) (o : Ok g) (hx : dsG g a b = x) :
    Calls Try.prog 23 #[(.agg #[.slice y.k.o y.k.n y.k.c, .slice y.i.o y.i.n y.i.c, .slice y.f.o y.f.n y.f.c]), (.agg #[.int .i64 a.1, .int .i64 a.2]), (.agg #[.int .i64 b.1, .int .i64 b.2])] w fun e w' => e = .returned (.bool x) ∧ Below w.heap.size w w' := by
  have hs := H.small o
  have h := pdsg_any y g a b w (by omega) (by omega) H
  rwa [hx] at h
theorem ck_at {y : Gv} {g : Gt} {w : World} (x : Int) (H : HasG w y g) (o : Ok g) (hx : cgE g = x) :
    Calls Try.prog 15 #[(.agg #[.slice y.k.o y.k.n y.k.c, .slice y.i.o y.i.n y.i.c, .slice y.f.o y.f.n y.f.c])] w fun e w' => e = .returned (.int .i64 x) ∧ Below w.heap.size w w' := by
  have hs := H.small o
  have h := pcheck_any y g w (by omega) H
  rwa [hx] at h
theorem sm_at {y z : Gv} {g h : Gt} {w : World} (x : Bool) (H : HasG w y g) (o : Ok g) (H2 : HasG w z h) (hx : sgB g h = x) :
    Calls Try.prog 17 #[(.agg #[.slice y.k.o y.k.n y.k.c, .slice y.i.o y.i.n y.i.c, .slice y.f.o y.f.n y.f.c]), (.agg #[.slice z.k.o z.k.n z.k.c, .slice z.i.o z.i.n z.i.c, .slice z.f.o z.f.n z.f.c])] w fun e w' => e = .returned (.bool x) ∧ Below w.heap.size w w' := by
  have hs := H.small o
  have h := pgsame_any y z g h w (by omega) (by omega) (by omega) H H2
  rwa [hx] at h
theorem abv_at {y : Gv} {g : Gt} {id : Int} {w : World} (l : List Int) (L : Nat) (H : HasG w y g) (o : Ok g) (hA : abv g.fr id = l) (hL : l.length = L) :
    Calls Try.prog 21 #[(.agg #[.slice y.k.o y.k.n y.k.c, .slice y.i.o y.i.n y.i.c, .slice y.f.o y.f.n y.f.c]), .int .i64 id] w fun e w' => ∃ xo xc, e = .returned (.slice xo L xc) ∧ Has w' xo L xc l ∧ Below w.heap.size w w' := by
  have hs := H.small o
  refine (pabv_any y g.fr id w (by omega) H.fr).mono ?_
  rintro e w' ⟨xo, xn, xc, rfl, h, b⟩
  rw [hA] at h
  have e : xn = L := by rw [h.len, hL]
  subst e
  exact ⟨xo, xc, rfl, h, b⟩
/-- Two boxes of ghosts. -/
abbrev SD (c : Nat) (y : Gv) (d : Nat) (z : Gv) (w : World) : Prop := w.cell? ⟨c, 0, none⟩ = some (.slice y.k.o y.k.n y.k.c) ∧ w.cell? ⟨c, 1, none⟩ = some (.slice y.i.o y.i.n y.i.c) ∧ w.cell? ⟨c, 2, none⟩ = some (.slice y.f.o y.f.n y.f.c) ∧ w.cell? ⟨d, 0, none⟩ = some (.slice z.k.o z.k.n z.k.c) ∧ w.cell? ⟨d, 1, none⟩ = some (.slice z.i.o z.i.n z.i.c) ∧ w.cell? ⟨d, 2, none⟩ = some (.slice z.f.o z.f.n z.f.c)
theorem sd_of {w : World} {c d : Nat} {y z : Gv} (h1 : InW w c y) (h2 : InW w d z) : SD c y d z w := ⟨h1.c0, h1.c1, h1.c2, h2.c0, h2.c1, h2.c2⟩
theorem sd_keep {c d : Nat} {y z : Gv} {w w' : World} (h : SD c y d z w) (q : Below w.heap.size w w') : SD c y d z w' := by
  obtain ⟨a0, a1, a2, a3, a4, a5⟩ := h
  exact ⟨(q.cell (World.block_lt_of_cell? w _ a0)).trans a0, (q.cell (World.block_lt_of_cell? w _ a1)).trans a1, (q.cell (World.block_lt_of_cell? w _ a2)).trans a2, (q.cell (World.block_lt_of_cell? w _ a3)).trans a3, (q.cell (World.block_lt_of_cell? w _ a4)).trans a4, (q.cell (World.block_lt_of_cell? w _ a5)).trans a5⟩
theorem sd_drew {c d : Nat} {y z : Gv} {w : World} (h : SD c y d z w) : SD c y d z w.drew := h
theorem sd_alloc {c d : Nat} {y z : Gv} {w : World} (h : SD c y d z w) (o : Obj) : SD c y d z (w.alloc o) := sd_keep h (alloc_below w o)
set_option maxRecDepth 100000 in
set_option maxHeartbeats 8000000 in
theorem live_any (w : World) : Calls Try.prog 10 #[] w fun e w' => e = .returned (.bool true) ∧ Below w.heap.size w w' := by
  go_enter Try.func10, Try.ntmps10
  go_wp2_with fail
  refine (gkey_any 1 _).mono ?_
  rintro e w1 ⟨rfl, b1⟩
  have B := hid b1
  clear b1
  go_wp2_with fail
  refine (gkey_any 2 _).mono ?_
  rintro e w2 ⟨rfl, b2⟩
  replace B := hid (q_trans B.out b2)
  clear b2
  go_wp2_with fail
  refine (gkey_any 1 _).mono ?_
  rintro e w3 ⟨rfl, b3⟩
  replace B := hid (q_trans B.out b3)
  clear b3
  go_wp2_with fail
  refine (gkey_any 3 _).mono ?_
  rintro e w4 ⟨rfl, b4⟩
  replace B := hid (q_trans B.out b4)
  clear b4
  go_wp2_with fail
  refine (gkey_any 2 _).mono ?_
  rintro e w5 ⟨rfl, b5⟩
  replace B := hid (q_trans B.out b5)
  clear b5
  go_wp2_with fail
  refine (run_at (l := L4) G1 1 (by decide) (hasZ_new w5 L4 29) l_A l_N).mono ?_
  rintro e w6 ⟨x, rfl, h6, b6⟩
  replace B := hid (q_trans (q_alloc B.out _) b6)
  have H1 := hid (hg_new h6)
  replace B := hid (q_alloc B.out (.cells #[.slice x.k.o x.k.n x.k.c, .slice x.i.o x.i.n x.i.c, .slice x.f.o x.f.n x.f.c] 25))
  clear h6 b6
  go_upto_region 2 with fail
  generalize w6.heap.size = p at H1 ⊢
  generalize w6.alloc (.cells #[.slice x.k.o x.k.n x.k.c, .slice x.i.o x.i.n x.i.c, .slice x.f.o x.f.n x.f.c] 25) = W at H1 B ⊢
  have hS : SB p x W := ⟨H1.out.gb.inW.c0, H1.out.gb.inW.c1, H1.out.gb.inW.c2⟩
  have HLt : Hid (p < W.heap.size) := H1.out.gb.lt
  go_cut [3, 4] from 23 to 29 (fun s3 s4 wx => ∃ (p2 : Nat) (x2 : Gv), s3 = .pointer (some ⟨p2, 0, none⟩) ∧ s4 = .int .i64 0 ∧ Hid (Hg wx p2 x2 G2) ∧ Hid (Below W.heap.size W wx))
  case first =>
    go_region_held3 (SB p x) (first | with_reducible assumption | with_reducible exact sb_drew hS | with_reducible exact sb_alloc hS _ | with_reducible exact sb_drew (sb_alloc hS _) | with_reducible exact HS1.out | with_reducible exact sb_drew HS1.out | with_reducible exact sb_alloc HS1.out _ | with_reducible exact sb_drew (sb_alloc HS1.out _) | with_reducible exact HS2.out | with_reducible exact sb_drew HS2.out | with_reducible exact sb_alloc HS2.out _ | with_reducible exact sb_drew (sb_alloc HS2.out _) | with_reducible exact sb_three HS2.out (by have := HLt.out; have := B1.out.size; omega) _ _ _ | with_reducible exact sb_drew (sb_three HS2.out (by have := HLt.out; have := B1.out.size; omega) _ _ _) | fail)
      (first
        | (go_at_call 33; refine (gkey_any _ _).mono ?_; rintro e w1 ⟨rfl, b1⟩; have B1 : Hid (Below W.heap.size W w1) := (by first | exact q_trans (Below.refl _ W) b1 | exact q_trans (Below.refl _ W).drew b1 | exact q_trans (q_alloc (Below.refl _ W) _) b1 | exact q_trans (q_alloc (Below.refl _ W) _).drew b1); have HS1 : Hid (SB p x w1) := sb_keep hS B1.out; (try (have HZ : Hid (Gb w1 W.heap.size nilG) := (by first | exact (gb_new W nilG).below b1 | exact (gb_new W.drew nilG).below b1))); clear b1)
        | (go_at_call 11; refine (add_at (z := ⟨4, (1, 0), (0, 0)⟩) G2 0 (by first | exact H1.out.has.below B1.out | exact H1.out.has.below B1.out.drew | exact H1.out.has.below (q_alloc B1.out _) | exact H1.out.has.below (q_alloc B1.out _).drew) l_3.2.2 l_die.1 l_die.2.1).mono ?_; rintro e w2 ⟨x2, rfl, h2, b2⟩; have bb2 : Hid (Below w1.heap.size w1 w2) := (by first | exact q_trans (Below.refl _ w1) b2 | exact q_trans (Below.refl _ w1).drew b2 | exact q_trans (q_alloc (Below.refl _ w1) _) b2 | exact q_trans (q_alloc (Below.refl _ w1) _).drew b2); have B2 : Hid (Below W.heap.size W w2) := q_trans B1.out bb2.out; have HS2 : Hid (SB p x w2) := sb_keep hS B2.out; have H2 := hid h2; (first | (replace HZ := hid (HZ.out.below bb2.out)) | (have HZ : Hid (Gb w2 w1.heap.size nilG) := (by first | exact (gb_new w1 nilG).below b2 | exact (gb_new w1.drew nilG).below b2)) | skip); clear b2 h2; (try (obtain ⟨y0, y1, y2, y3, y4, y5⟩ := HZ.out.inW; have hlz := HZ.out.lt)))
        | fail)
    all_goals (try go_wp2_with fail)
    all_goals go_meet
    all_goals first
      | exact ⟨w2.heap.size, x2, rfl, rfl, hg_new H2.out, q_alloc B2.out _⟩
      | exact ⟨w1.heap.size, x2, rfl, rfl, hg_put HZ.out H2.out, put3_low B2.out B1.out.size⟩
      | exact ⟨W.heap.size, x2, rfl, rfl, hg_put HZ.out H2.out, put3_low B2.out (Nat.le_refl _)⟩
  case rest =>
  obtain ⟨p2, x2, rfl, rfl, H2, HBc⟩ := hcut
  replace H1 := hid (H1.out.below HBc.out)
  replace B := hid (q_trans B.out HBc.out)
  clear hS HLt HBc
  have C1 : Hid (∀ X, Below wc.heap.size wc X → Calls Try.prog 18 #[(.agg #[.slice x2.k.o x2.k.n x2.k.c, .slice x2.i.o x2.i.n x2.i.c, .slice x2.f.o x2.f.n x2.f.c]), .agg #[.int .i64 3, .int .i64 0]] X fun e w' => e = .returned (.tuple #[.int .i64 1, .bool true]) ∧ Below X.heap.size X w') := fun X q => who_at2 (k := (3, 0)) 1 true (H2.out.has.below q) l_die.2.2 l_I l_B
  go_upto_region 3 with fail
  obtain ⟨d0, d1, d2⟩ := H2.out.gb.inW.inG.always
  have hne : Nonempty (Later wc) := ⟨⟨_, Below.refl _ _⟩⟩
  refine wp_region_later (by kernel_rfl) (by kernel_rfl) ?_
  repeat (go_big_quiet_step (first | (go_at_call 33; with_reducible exact later_call (gkey_any _ _)) | (go_at_call 18; with_reducible exact later_call (C1.out _ (Later.low _)))))
  refine wpQuiet_nil ?_
  rintro W ⟨⟨_, b9⟩, rfl⟩
  replace H1 := hid (H1.out.below b9)
  replace H2 := hid (H2.out.below b9)
  replace B := hid (q_trans B.out b9)
  clear b9 d0 d1 d2 hne C1
  have hS : SB p x W := ⟨H1.out.gb.inW.c0, H1.out.gb.inW.c1, H1.out.gb.inW.c2⟩
  have HLt : Hid (p < W.heap.size) := H1.out.gb.lt
  go_upto_region 4 with fail
  go_cut [8] from 36 to 42 (fun s8 wx => s8 = .int .i64 8 ∧ Hid (Below W.heap.size W wx))
  case first =>
    go_region_held3 (SB p x) (first | with_reducible assumption | with_reducible exact sb_drew hS | with_reducible exact sb_alloc hS _ | with_reducible exact sb_drew (sb_alloc hS _) | with_reducible exact HS1.out | with_reducible exact sb_drew HS1.out | with_reducible exact sb_alloc HS1.out _ | with_reducible exact sb_drew (sb_alloc HS1.out _) | with_reducible exact HS2.out | with_reducible exact sb_drew HS2.out | with_reducible exact sb_alloc HS2.out _ | with_reducible exact sb_drew (sb_alloc HS2.out _) | with_reducible exact sb_three HS2.out (by have := HLt.out; have := B1.out.size; omega) _ _ _ | with_reducible exact sb_drew (sb_three HS2.out (by have := HLt.out; have := B1.out.size; omega) _ _ _) | fail)
      (first
        | (go_at_call 33; refine (gkey_any _ _).mono ?_; rintro e w1 ⟨rfl, b1⟩; have B1 : Hid (Below W.heap.size W w1) := (by first | exact q_trans (Below.refl _ W) b1 | exact q_trans (Below.refl _ W).drew b1 | exact q_trans (q_alloc (Below.refl _ W) _) b1 | exact q_trans (q_alloc (Below.refl _ W) _).drew b1); have HS1 : Hid (SB p x w1) := sb_keep hS B1.out; (try (have HZ : Hid (Gb w1 W.heap.size nilG) := (by first | exact (gb_new W nilG).below b1 | exact (gb_new W.drew nilG).below b1))); clear b1)
        | (go_at_call 11; refine (add_at (z := ⟨1, (1, 0), (0, 0)⟩) _ 8 (by first | exact H1.out.has.below B1.out | exact H1.out.has.below B1.out.drew | exact H1.out.has.below (q_alloc B1.out _) | exact H1.out.has.below (q_alloc B1.out _).drew) l_3.2.2 l_there rfl).mono ?_; rintro e w2 ⟨x3, rfl, h2, b2⟩; have bb2 : Hid (Below w1.heap.size w1 w2) := (by first | exact q_trans (Below.refl _ w1) b2 | exact q_trans (Below.refl _ w1).drew b2 | exact q_trans (q_alloc (Below.refl _ w1) _) b2 | exact q_trans (q_alloc (Below.refl _ w1) _).drew b2); have B2 : Hid (Below W.heap.size W w2) := q_trans B1.out bb2.out; have HS2 : Hid (SB p x w2) := sb_keep hS B2.out; have H2 := hid h2; (first | (replace HZ := hid (HZ.out.below bb2.out)) | (have HZ : Hid (Gb w2 w1.heap.size nilG) := (by first | exact (gb_new w1 nilG).below b2 | exact (gb_new w1.drew nilG).below b2)) | skip); clear b2 h2; (try (obtain ⟨y0, y1, y2, y3, y4, y5⟩ := HZ.out.inW; have hlz := HZ.out.lt)))
        | fail)
    all_goals (try go_wp2_with fail)
    all_goals go_meet
    all_goals first
      | exact ⟨rfl, q_alloc B2.out _⟩
      | exact ⟨rfl, put3_low B2.out B1.out.size⟩
      | exact ⟨rfl, put3_low B2.out (Nat.le_refl _)⟩
  case rest =>
  obtain ⟨rfl, HBc⟩ := hcut
  replace H1 := hid (H1.out.below HBc.out)
  replace H2 := hid (H2.out.below HBc.out)
  replace B := hid (q_trans B.out HBc.out)
  clear hS HLt HBc
  go_upto_region 5 with fail
  generalize wc = W at H1 H2 B ⊢
  have hS : SD p x p2 x2 W := sd_of H1.out.gb.inW H2.out.gb.inW
  have HS : Hid (SD p x p2 x2 W) := hS
  have V : Hid (Below W.heap.size W W) := Below.refl _ _
  go_region_held3 (SD p x p2 x2) (first | with_reducible assumption | with_reducible exact sd_drew hS | with_reducible exact HS.out | with_reducible exact sd_drew HS.out | with_reducible exact sd_alloc HS.out _ | with_reducible exact sd_drew (sd_alloc HS.out _) | fail)
      (first
        | (go_at_call 17; refine (sm_at (g := G1) (h := G2) false (by first | exact H1.out.has.below V.out | exact H1.out.has.below V.out.drew | exact H1.out.has.below (q_alloc V.out _) | exact H1.out.has.below (q_alloc V.out _).drew) l_3.2.2 (by first | exact H2.out.has.below V.out | exact H2.out.has.below V.out.drew | exact H2.out.has.below (q_alloc V.out _) | exact H2.out.has.below (q_alloc V.out _).drew) l_same).mono ?_; rintro e wk ⟨rfl, b⟩; replace V : Hid (Below W.heap.size W wk) := (by first | exact q_trans V.out b | exact q_trans V.out.drew b | exact q_trans (q_alloc V.out _) b | exact q_trans (q_alloc V.out _).drew b); replace HS : Hid (SD p x p2 x2 wk) := sd_keep hS V.out; clear b)
        | (go_at_call 15; refine (ck_at (g := G2) 0 (by first | exact H2.out.has.below V.out | exact H2.out.has.below V.out.drew | exact H2.out.has.below (q_alloc V.out _) | exact H2.out.has.below (q_alloc V.out _).drew) l_die.2.2 l_ck).mono ?_; rintro e wk ⟨rfl, b⟩; have NC : Hid True := trivial; replace V : Hid (Below W.heap.size W wk) := (by first | exact q_trans V.out b | exact q_trans V.out.drew b | exact q_trans (q_alloc V.out _) b | exact q_trans (q_alloc V.out _).drew b); replace HS : Hid (SD p x p2 x2 wk) := sd_keep hS V.out; clear b)
        | (go_at_call 14; have hq := NC; clear hq; refine (gnum_low 0 _).mono ?_; rintro e wk ⟨rfl, b⟩; replace V : Hid (Below W.heap.size W wk) := (by first | exact q_trans V.out b | exact q_trans V.out.drew b | exact q_trans (q_alloc V.out _) b | exact q_trans (q_alloc V.out _).drew b); replace HS : Hid (SD p x p2 x2 wk) := sd_keep hS V.out; clear b)
        | (go_at_call 20; refine (ints_any xo _ 1 1 xc 1 [0] [0] _ (by omega) (by first | exact HAb.out | exact HAb.out.below (alloc_below _ _) | exact HAb.out.below (Below.refl _ _).drew | exact HAb.out.below (alloc_below _ _).drew) (by first | exact HL.out | exact HL.out.below (Below.refl _ _).drew | exact has_new wA [0] 3 | exact (has_new wA [0] 3).below (Below.refl _ _).drew)).mono ?_; rintro e wk ⟨rfl, b⟩; have NI : Hid True := trivial; replace V : Hid (Below W.heap.size W wk) := (by first | exact q_trans V.out b | exact q_trans V.out.drew b | exact q_trans (q_alloc V.out _) b | exact q_trans (q_alloc V.out _).drew b); replace HS : Hid (SD p x p2 x2 wk) := sd_keep hS V.out; clear b)
        | (go_at_call 14; have hq := NI; clear hq; refine (gnum_low 8 _).mono ?_; rintro e wk ⟨rfl, b⟩; replace V : Hid (Below W.heap.size W wk) := (by first | exact q_trans V.out b | exact q_trans V.out.drew b | exact q_trans (q_alloc V.out _) b | exact q_trans (q_alloc V.out _).drew b); replace HS : Hid (SD p x p2 x2 wk) := sd_keep hS V.out; clear b)
        | (go_at_call 21; refine (abv_at (g := G2) [0] 1 (by first | exact H2.out.has.below V.out | exact H2.out.has.below V.out.drew | exact H2.out.has.below (q_alloc V.out _) | exact H2.out.has.below (q_alloc V.out _).drew) l_die.2.2 l_abv rfl).mono ?_; rintro e wA ⟨xo, xc, rfl, h, b⟩; have HAb := hid h; (try (have HL : Hid (Has wA (some ⟨wk.heap.size, 0, none⟩) 1 1 [0]) := (by first | exact (has_new wk [0] 3).below b | exact (has_new wk.drew [0] 3).below b))); replace V : Hid (Below W.heap.size W wA) := (by first | exact q_trans V.out b | exact q_trans V.out.drew b | exact q_trans (q_alloc V.out _) b | exact q_trans (q_alloc V.out _).drew b); replace HS : Hid (SD p x p2 x2 wA) := sd_keep hS V.out; clear b h)
        | (go_at_call 23; have hq := N2; clear hq; refine (ds_at (g := G2) (a := (3, 0)) (b := (1, 0)) false (by first | exact H2.out.has.below V.out | exact H2.out.has.below V.out.drew | exact H2.out.has.below (q_alloc V.out _) | exact H2.out.has.below (q_alloc V.out _).drew) l_die.2.2 l_ds2).mono ?_; rintro e wk ⟨rfl, b⟩; replace V : Hid (Below W.heap.size W wk) := (by first | exact q_trans V.out b | exact q_trans V.out.drew b | exact q_trans (q_alloc V.out _) b | exact q_trans (q_alloc V.out _).drew b); replace HS : Hid (SD p x p2 x2 wk) := sd_keep hS V.out; clear b)
        | (go_at_call 23; refine (ds_at (g := G1) (a := (3, 0)) (b := (1, 0)) true (by first | exact H1.out.has.below V.out | exact H1.out.has.below V.out.drew | exact H1.out.has.below (q_alloc V.out _) | exact H1.out.has.below (q_alloc V.out _).drew) l_3.2.2 l_ds1).mono ?_; rintro e wk ⟨rfl, b⟩; have N2 : Hid True := trivial; replace V : Hid (Below W.heap.size W wk) := (by first | exact q_trans V.out b | exact q_trans V.out.drew b | exact q_trans (q_alloc V.out _) b | exact q_trans (q_alloc V.out _).drew b); replace HS : Hid (SD p x p2 x2 wk) := sd_keep hS V.out; clear b)
        | (go_at_call 33; refine (gkey_any _ _).mono ?_; rintro e wk ⟨rfl, b⟩; replace V : Hid (Below W.heap.size W wk) := (by first | exact q_trans V.out b | exact q_trans V.out.drew b | exact q_trans (q_alloc V.out _) b | exact q_trans (q_alloc V.out _).drew b); replace HS : Hid (SD p x p2 x2 wk) := sd_keep hS V.out; clear b)
        | (go_at_call 14; refine (gnum_low 0 _).mono ?_; rintro e wk ⟨rfl, b⟩; replace V : Hid (Below W.heap.size W wk) := (by first | exact q_trans V.out b | exact q_trans V.out.drew b | exact q_trans (q_alloc V.out _) b | exact q_trans (q_alloc V.out _).drew b); replace HS : Hid (SD p x p2 x2 wk) := sd_keep hS V.out; clear b)
        | fail)
  all_goals go_wp2_with fail
  all_goals go_ret
  all_goals exact ⟨rfl, q_trans B.out V.out⟩
end Go.Proofs.Ytcldnacpddebcaa.Gh
