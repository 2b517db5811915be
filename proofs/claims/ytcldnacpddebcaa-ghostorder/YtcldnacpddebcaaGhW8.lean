/- What the program's befall does: a move, a death; and whatever is not refused. -/
import Derived.Test.YtcldnacpddebcaaGhW7
namespace Go.Proofs.Ytcldnacpddebcaa.Gh
open Go.RowKit
open Go.Proofs.Ytcldnacpddebcaa.Tr

theorem ownI_some {w : World} {B n cap : Nat} {ao : Option Addr} {l : List Int} (h : MineI w B ao n cap l) (hn : 0 < n) : ∃ g, ao = some ⟨g, 0, none⟩ := by
  rcases h.2.2 with ⟨_, h0⟩ | ⟨g, cap', cur, e, _⟩
  · omega
  · cases e
    exact ⟨g, rfl⟩
/-- A key is written into the list. -/
theorem Og.setKey {w : World} {B p gb n cap : Nat} {yi yf : Hd} {g : Gt} (h : Og w B p ⟨⟨some ⟨gb, 0, none⟩, n, cap⟩, yi, yf⟩ g) (hB : B ≤ w.heap.size) (i : Nat) (k : P) :
    Og ((w.setCell ⟨gb, i * 2, none⟩ (.int .i64 k.1)).setCell ⟨gb, i * 2 + 1, none⟩ (.int .i64 k.2)) B p ⟨⟨some ⟨gb, 0, none⟩, n, cap⟩, yi, yf⟩ ⟨g.ks.set i k, g.is, g.fr⟩ ∧ Below B w ((w.setCell ⟨gb, i * 2, none⟩ (.int .i64 k.1)).setCell ⟨gb, i * 2 + 1, none⟩ (.int .i64 k.2)) := by
  have hg : B ≤ gb := ownK_low h.ks
  have kk : Kept (fun i => i = gb) w ((w.setCell ⟨gb, i * 2, none⟩ (.int .i64 k.1)).setCell ⟨gb, i * 2 + 1, none⟩ (.int .i64 k.2)) := (kept_set (fun i => i = gb) w ⟨gb, i * 2, none⟩ _ rfl).setCell ⟨gb, i * 2 + 1, none⟩ _ (fun _ => rfl)
  refine ⟨⟨h.box.kept kk (fun e => h.kp (by rw [e]; rfl)), ownK_set h.ks k, ⟨h.is.1, own_kept h.is.2 kk (fun j e s => h.ki (k := gb) rfl (by rw [← s]; exact e))⟩, ⟨h.fr.1, own_kept h.fr.2 kk (fun j e s => h.kf (k := gb) rfl (by rw [← s]; exact e))⟩, h.kp, h.ip, h.fp, h.iF⟩, kk.below B hB (fun j e => by rw [e]; exact hg)⟩
/-- The boxes, while a key is written. -/
theorem sz_row {c d gb i : Nat} {y : Gv} {z : Bi} {w : World} (h : SZ c y d z w) (h1 : gb ≠ c) (h2 : gb ≠ d) (u v : Value) : SZ c y d z ((w.setCell ⟨gb, i * 2, none⟩ u).setCell ⟨gb, i * 2 + 1, none⟩ v) := by
  obtain ⟨a0, a1, a2, a3, a4, a5, a6, a7⟩ := h
  have f : ∀ (b : Nat) (j : Nat) (x : Value), gb ≠ b → w.cell? ⟨b, j, none⟩ = some x → ((w.setCell ⟨gb, i * 2, none⟩ u).setCell ⟨gb, i * 2 + 1, none⟩ v).cell? ⟨b, j, none⟩ = some x := fun b j x hb e => by
    rw [World.cell?_setCell_other _ _ _ _ (far0 (.inl hb)), World.cell?_setCell_other _ _ _ _ (far0 (.inl hb))]
    exact e
  exact ⟨f _ _ _ h1 a0, f _ _ _ h1 a1, f _ _ _ h1 a2, f _ _ _ h2 a3, f _ _ _ h2 a4, f _ _ _ h2 a5, f _ _ _ h2 a6, f _ _ _ h2 a7⟩
set_option maxRecDepth 100000 in
set_option maxHeartbeats 4000000 in
theorem befall_move (B p gb n cap : Nat) (yi yf : Hd) (g : Gt) (key fm : P) (i : Nat) (w : World) (hB : B ≤ w.heap.size) (hi : fk fm g.ks = some i) (h4 : n ≤ 4096) (hin : i < n) (HO : Hid (Og w B p ⟨⟨some ⟨gb, 0, none⟩, n, cap⟩, yi, yf⟩ g)) :
    Calls Try.prog 38 #[.pointer (some ⟨p, 0, none⟩), .agg #[.int .i64 3, .int .i64 key.1, .int .i64 key.2, .int .i64 fm.1, .int .i64 fm.2]] w (Fell B p ⟨g.ks.set i key, g.is, g.fr⟩ w) := by
  have HB := hid hB
  clear hB
  have HI : Hid (fkI fm g.ks = (i : Int)) := fkI_some hi
  have HIl : Hid (i < g.ks.length) := (fk_some.1 hi).1
  clear hi
  have i1 : (0 : Int) ≤ (i : Int) := by omega
  have i2 : (i : Int) < (n : Int) := by omega
  go_enter Try.func38, Try.ntmps38
  go_wp2_with fail
  have HZ := hid (atZ_new w ⟨3, key, fm⟩ 29)
  have HB0 := hid (alloc_below w (.cells #[.int .i64 3, .int .i64 key.1, .int .i64 key.2, .int .i64 fm.1, .int .i64 fm.2] 29))
  have HNe : Hid (gb ≠ w.heap.size) := Nat.ne_of_lt (World.ownsRow.lt HO.out.ks.2 gb rfl).2
  generalize w.alloc (.cells #[.int .i64 3, .int .i64 key.1, .int .i64 key.2, .int .i64 fm.1, .int .i64 fm.2] 29) = W at HZ HB0 ⊢
  have HO1 := hid (HO.out.below HB0.out)
  have HN1 : Hid (gb ≠ p) := fun e => HO.out.kp (by rw [← e]; rfl)
  have C1 : Hid (∀ X, Below W.heap.size W X → Calls Try.prog 45 #[.slice (some ⟨gb, 0, none⟩) n cap, (.agg #[.int .i64 fm.1, .int .i64 fm.2])] X fun e w' => e = .returned (.int .i64 (i : Int)) ∧ Below X.heap.size X w') := fun X q => by
    have h := indexK_any (some ⟨gb, 0, none⟩) n cap g.ks fm X (by omega) (HO1.out.ks.has.below q)
    rwa [HI.out] at h
  have hS : SZ p ⟨⟨some ⟨gb, 0, none⟩, n, cap⟩, yi, yf⟩ w.heap.size ⟨3, key, fm⟩ W := ⟨HO1.out.box.c0, HO1.out.box.c1, HO1.out.box.c2, HZ.out.c0, HZ.out.c1, HZ.out.c2, HZ.out.c3, HZ.out.c4⟩
  go_region_held3 (SZ p ⟨⟨some ⟨gb, 0, none⟩, n, cap⟩, yi, yf⟩ w.heap.size ⟨3, key, fm⟩) (first | with_reducible assumption | with_reducible exact sz_drew hS | with_reducible exact HS1.out | with_reducible exact sz_drew HS1.out | with_reducible exact sz_row HS1.out HN1.out HNe.out _ _ | with_reducible exact sz_drew (sz_row HS1.out HN1.out HNe.out _ _) | fail)
    (first
      | (go_at_call 45; refine (C1.out _ (by first | exact Below.refl _ _ | exact (Below.refl _ _).drew)).mono ?_; rintro e w1 ⟨rfl, b1⟩; have B1 : Hid (Below W.heap.size W w1) := (by first | exact b1 | exact q_trans (Below.refl _ W).drew b1); have HS1 : Hid (SZ p ⟨⟨some ⟨gb, 0, none⟩, n, cap⟩, yi, yf⟩ w.heap.size ⟨3, key, fm⟩ w1) := sz_keep hS B1.out; have HO2 := hid (HO1.out.below B1.out); obtain ⟨x0, x1⟩ := ownK_cell HO2.out.ks HIl.out; have x2 := own_frozen (j := i * 2) HO2.out.ks.2; have x3 := own_frozen (j := i * 2 + 1) HO2.out.ks.2; clear b1)
      | fail)
  all_goals (try go_wp2_with fail)
  all_goals
    have hf := HO2.out.setKey (Nat.le_trans HB.out (Nat.le_trans HB0.out.size B1.out.size)) i key
    exact bodyPost_end (v := .tuple #[]) (by simp [results, Try.results38, go_sem]) rfl ⟨rfl, ⟨_, hf.1⟩, ((q_trans HB0.out B1.out).mono HB.out).trans hf.2⟩
set_option maxRecDepth 100000 in
set_option maxHeartbeats 4000000 in
theorem befall_die (B p gb n cap gi ci m : Nat) (yf : Hd) (g : Gt) (key fm : P) (i : Nat) (w : World) (hB : B ≤ w.heap.size) (hp : B ≤ p) (hi : fk key g.ks = some i) (h4 : n ≤ 4096) (hin : i < n) (hm : m + 1 = n) (HO : Hid (Og w B p ⟨⟨some ⟨gb, 0, none⟩, n, cap⟩, ⟨some ⟨gi, 0, none⟩, n, ci⟩, yf⟩ g)) :
    Calls Try.prog 38 #[.pointer (some ⟨p, 0, none⟩), .agg #[.int .i64 4, .int .i64 key.1, .int .i64 key.2, .int .i64 fm.1, .int .i64 fm.2]] w (Fell B p ⟨g.ks.eraseIdx i, g.is.eraseIdx i, g.fr⟩ w) := by
  have HB := hid hB
  have HP := hid hp
  have HM := hid hm
  clear hB hp hm
  have HI : Hid (fkI key g.ks = (i : Int)) := fkI_some hi
  clear hi
  obtain ⟨j, hj⟩ : ∃ j : Nat, j = i + 1 := ⟨_, rfl⟩
  have hj1 : (i : Int) + 1 = (j : Int) := by omega
  have HJ := hid hj
  clear hj
  go_enter Try.func38, Try.ntmps38
  go_wp2_with fail
  have HZ := hid (atZ_new w ⟨4, key, fm⟩ 29)
  have HB0 := hid (alloc_below w (.cells #[.int .i64 4, .int .i64 key.1, .int .i64 key.2, .int .i64 fm.1, .int .i64 fm.2] 29))
  generalize w.alloc (.cells #[.int .i64 4, .int .i64 key.1, .int .i64 key.2, .int .i64 fm.1, .int .i64 fm.2] 29) = W at HZ HB0 ⊢
  have HO1 := hid (HO.out.below HB0.out)
  have C1 : Hid (∀ X, Below W.heap.size W X → Calls Try.prog 45 #[.slice (some ⟨gb, 0, none⟩) n cap, (.agg #[.int .i64 key.1, .int .i64 key.2])] X fun e w' => e = .returned (.int .i64 (i : Int)) ∧ Below X.heap.size X w') := fun X q => by
    have h := indexK_any (some ⟨gb, 0, none⟩) n cap g.ks key X (by omega) (HO1.out.ks.has.below q)
    rwa [HI.out] at h
  obtain ⟨c0, c1, c2⟩ := HO1.out.box.inG.always
  obtain ⟨z0, z1, z2, z3, z4⟩ := HZ.out.always
  have hne : Nonempty (Later W) := ⟨⟨_, Below.refl _ _⟩⟩
  refine wp_region_later (by kernel_rfl) (by kernel_rfl) ?_
  repeat (go_big_quiet_step (first | (go_at_call 45; with_reducible exact later_call (C1.out _ (Later.low _)))))
  refine wpQuiet_nil ?_
  rintro w9 ⟨⟨_, b9⟩, rfl⟩
  have HO9 := hid (HO1.out.below b9)
  have HB9 : Hid (Below B w w9) := (q_trans HB0.out b9).mono HB.out
  have HW9 : Hid (B ≤ w9.heap.size) := Nat.le_trans HB.out HB9.out.size
  clear b9 c0 c1 c2 z0 z1 z2 z3 z4 hne C1 HO1 HZ HB0
  obtain ⟨c0, c1, c2, f0, f1, f2⟩ := HO9.out.box
  go_wp2_with fail
  refine (delK_any B gb n cap i j m g.ks w9 hin HJ.out HM.out HO9.out.ks).mono ?_
  rintro e w1 ⟨rfl, h1, k1⟩
  have HO2 := hid (HO9.out.putK HW9.out HP.out k1 (fun q s _ => by rw [s]; rfl) (fun q s => by rw [s]; exact ownK_low HO9.out.ks) h1.2 h1.1 (.inl rfl))
  have HX := hid (HO9.out.box.kept k1 (fun e => HO9.out.kp (by rw [e]; rfl)))
  clear h1 k1 c0 c1 c2 f0 f1 f2
  obtain ⟨c0, c1, c2, f0, f1, f2⟩ := HX.out
  have hpl : p < w1.heap.size := HX.out.lt
  go_wp2_with fail
  clear c0 c1 c2 f0 f1 f2 hpl HX
  generalize w1.setCell ⟨p, 0, none⟩ (.slice (some ⟨gb, 0, none⟩) m cap) = w2 at HO2 ⊢
  have HW2 : Hid (B ≤ w2.heap.size) := Nat.le_trans HW9.out HO2.out.2.size
  refine (delI_any B gi n ci i j m g.is w2 hin HJ.out HM.out HO2.out.1.is).mono ?_
  rintro e w3 ⟨rfl, h3, k3⟩
  have HO3 := hid (HO2.out.1.putI HW2.out HP.out k3 (fun q s _ => by rw [s]; rfl) (fun q s => by rw [s]; exact own_ge HO2.out.1.is.2 rfl) h3.2 h3.1 (.inl rfl))
  have HX := hid (HO2.out.1.box.kept k3 (fun e => HO2.out.1.ip (by rw [e]; rfl)))
  clear h3 k3
  obtain ⟨c0, c1, c2, f0, f1, f2⟩ := HX.out
  have hpl : p < w3.heap.size := HX.out.lt
  go_wp2_with fail
  exact bodyPost_end (v := .tuple #[]) (by simp [results, Try.results38, go_sem]) rfl ⟨rfl, ⟨_, HO3.out.1⟩, (HB9.out.trans HO2.out.2).trans HO3.out.2⟩
/-- BEFALL, WHERE NOTHING IS REFUSED. -/
theorem befall_any (B p : Nat) (y : Gv) (g : Gt) (z : Bi) (w : World) (hB : B ≤ w.heap.size) (hp : B ≤ p) (h0 : adE g z = 0) (HO : Og w B p y g) :
    Calls Try.prog 38 #[.pointer (some ⟨p, 0, none⟩), (.agg #[.int .i64 z.kind, .int .i64 z.key.1, .int .i64 z.key.2, .int .i64 z.fm.1, .int .i64 z.fm.2])] w (Fell B p (adA g z) w) := by
  obtain ⟨ho, hk, hd⟩ := ad_did h0
  have h4 := ho.n4 HO
  obtain ⟨kd, key, fm⟩ := z
  rcases hd with ⟨e1, hn, e, hm⟩ | ⟨e1, i, hf, hn, e, hm⟩ | ⟨e1, i, hf, hn, e⟩ | ⟨e1, i, hf, e⟩
  · rw [e]
    have e1 : kd = 1 := e1
    subst e1
    exact befall_root B p y g key fm w hB hp h4 HO
  · rw [e]
    have e1 : kd = 2 := e1
    subst e1
    exact befall_derive B p y g key fm _ w hB hp h4 (who_at ho hf) HO
  · rw [e]
    have e1 : kd = 3 := e1
    subst e1
    have hi := (fk_some.1 hf).1
    have hl := HO.ks.1
    obtain ⟨⟨ko, kn, kc⟩, yi, yf⟩ := y
    have hl : kn = g.ks.length := hl
    obtain ⟨gb, rfl⟩ := ownK_some HO.ks (show 0 < kn by omega)
    exact befall_move B p gb kn kc yi yf g key fm i w hB hf h4.1 (by omega) HO
  · rw [e]
    have e1 : kd = 4 := e1
    subst e1
    have hi := (fk_some.1 hf).1
    have hl := HO.ks.1
    have hj := h4.2.2.2
    obtain ⟨⟨ko, kn, kc⟩, ⟨io, im, ic⟩, yf⟩ := y
    have hl : kn = g.ks.length := hl
    have hj : kn = im := hj
    subst hj
    obtain ⟨gb, rfl⟩ := ownK_some HO.ks (show 0 < kn by omega)
    obtain ⟨gi, rfl⟩ := ownI_some HO.is (show 0 < kn by omega)
    exact befall_die B p gb kn kc gi ic (kn - 1) yf g key fm i w hB hp hf h4.1 (by omega) (by omega) HO
end Go.Proofs.Ytcldnacpddebcaa.Gh
