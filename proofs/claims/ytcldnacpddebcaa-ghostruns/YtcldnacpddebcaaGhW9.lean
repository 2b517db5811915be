/- What the program's Add (of ghosts) does. -/
import Derived.Test.YtcldnacpddebcaaGhW8
namespace Go.Proofs.Ytcldnacpddebcaa.Gh
open Go.RowKit
open Go.Proofs.Ytcldnacpddebcaa.Tr

/-- The ghost's box alone, for a region. -/
abbrev SB (c : Nat) (y : Gv) (w : World) : Prop := w.cell? ⟨c, 0, none⟩ = some (.slice y.k.o y.k.n y.k.c) ∧ w.cell? ⟨c, 1, none⟩ = some (.slice y.i.o y.i.n y.i.c) ∧ w.cell? ⟨c, 2, none⟩ = some (.slice y.f.o y.f.n y.f.c)
theorem sb_keep {c : Nat} {y : Gv} {w w' : World} (h : SB c y w) (q : Below w.heap.size w w') : SB c y w' := by
  obtain ⟨a0, a1, a2⟩ := h
  exact ⟨(q.cell (World.block_lt_of_cell? w _ a0)).trans a0, (q.cell (World.block_lt_of_cell? w _ a1)).trans a1, (q.cell (World.block_lt_of_cell? w _ a2)).trans a2⟩
theorem sb_drew {c : Nat} {y : Gv} {w : World} (h : SB c y w) : SB c y w.drew := h
theorem sb_alloc {c : Nat} {y : Gv} {w : World} (h : SB c y w) (o : Obj) : SB c y (w.alloc o) := sb_keep h (alloc_below w o)
theorem sb_three {c d : Nat} {y : Gv} {w : World} (h : SB c y w) (hne : d ≠ c) (u v x : Value) : SB c y (((w.setCell ⟨d, 0, none⟩ u).setCell ⟨d, 1, none⟩ v).setCell ⟨d, 2, none⟩ x) := by
  obtain ⟨a0, a1, a2⟩ := h
  have f : ∀ (j : Nat) (z : Value), w.cell? ⟨c, j, none⟩ = some z → (((w.setCell ⟨d, 0, none⟩ u).setCell ⟨d, 1, none⟩ v).setCell ⟨d, 2, none⟩ x).cell? ⟨c, j, none⟩ = some z := fun j z e => by
    rw [World.cell?_setCell_other _ _ _ _ (far0 (.inl hne)), World.cell?_setCell_other _ _ _ _ (far0 (.inl hne)), World.cell?_setCell_other _ _ _ _ (far0 (.inl hne))]
    exact e
  exact ⟨f _ _ a0, f _ _ a1, f _ _ a2⟩
theorem mineP_base {w : World} {B a n cap : Nat} {ao : Option Addr} {l : List P} (h : MineP 27 w a ao n cap l) (hB : B ≤ a) : MineP 27 w B ao n cap l := ⟨h.1, own_base h.2 (fun k e => Nat.le_trans hB (World.ownsRow.lt h.2 k e).1)⟩
theorem mineI_base {w : World} {B a n cap : Nat} {ao : Option Addr} {l : List Int} (h : MineI w a ao n cap l) (hB : B ≤ a) : MineI w B ao n cap l := ⟨h.1, own_base h.2 (fun k e => Nat.le_trans hB (World.ownsRow.lt h.2 k e).1)⟩
/-- Three lists that were made one behind the other, and a box that lies elsewhere. -/
theorem og_three {w1 w2 w3 : World} {B p a1 a2 a3 : Nat} {x : Gv} {g : Gt} (m1 : MineP 27 w1 a1 x.k.o x.k.n x.k.c g.ks) (m2 : MineI w2 a2 x.i.o x.i.n x.i.c g.is) (m3 : MineI w3 a3 x.f.o x.f.n x.f.c g.fr) (b2 : Below w1.heap.size w1 w2) (b3 : Below w2.heap.size w2 w3) (hB : B ≤ a1) (ha1 : a1 ≤ w1.heap.size) (h12 : w1.heap.size ≤ a2) (ha2 : a2 ≤ w2.heap.size) (h23 : w2.heap.size ≤ a3)
    (hp : p < a1 ∨ (w1.heap.size ≤ p ∧ p < a2) ∨ (w2.heap.size ≤ p ∧ p < a3) ∨ w3.heap.size ≤ p) {w4 : World} (k4 : Kept (fun i => i = p) w3 w4) (box : InW w4 p x) : Og w4 B p x g := by
  have s1 : ∀ k, obk x.k = some k → a1 ≤ k ∧ k < w1.heap.size := fun k e => World.ownsRow.lt m1.2 k e
  have s2 : ∀ k, obk x.i = some k → a2 ≤ k ∧ k < w2.heap.size := fun k e => World.ownsRow.lt m2.2 k e
  have s3 : ∀ k, obk x.f = some k → a3 ≤ k ∧ k < w3.heap.size := fun k e => World.ownsRow.lt m3.2 k e
  have l2 := b2.size
  have l3 := b3.size
  have kp : obk x.k ≠ some p := fun e => by
    have := s1 p e
    omega
  have ip : obk x.i ≠ some p := fun e => by
    have := s2 p e
    omega
  have fp : obk x.f ≠ some p := fun e => by
    have := s3 p e
    omega
  refine ⟨box, ⟨m1.1, own_kept (mineP_base ((m1.below b2).below b3) hB).2 k4 (fun i e s => kp (s ▸ e))⟩, ⟨m2.1, own_kept (mineI_base (m2.below b3) (by omega : B ≤ a2)).2 k4 (fun i e s => ip (s ▸ e))⟩, ⟨m3.1, own_kept (mineI_base m3 (by omega : B ≤ a3)).2 k4 (fun i e s => fp (s ▸ e))⟩, kp, ip, fp, fun k e f => ?_⟩
  have := s2 k e
  have := s3 k f
  omega
theorem sz_al (X : World) (o : Obj) : (X.alloc o).heap.size = X.heap.size + 1 := by simp
theorem sz_dr (X : World) : X.drew.heap.size = X.heap.size := rfl
theorem kept_three (w : World) (p : Nat) (u v x : Value) : Kept (fun i => i = p) w (((w.setCell ⟨p, 0, none⟩ u).setCell ⟨p, 1, none⟩ v).setCell ⟨p, 2, none⟩ x) :=
  ((kept_set (fun i => i = p) w ⟨p, 0, none⟩ u rfl).setCell ⟨p, 1, none⟩ v (fun _ => rfl)).setCell ⟨p, 2, none⟩ x (fun _ => rfl)
theorem InW.put {w : World} {p : Nat} {y : Gv} (h : InW w p y) (x : Gv) : InW (((w.setCell ⟨p, 0, none⟩ (.slice x.k.o x.k.n x.k.c)).setCell ⟨p, 1, none⟩ (.slice x.i.o x.i.n x.i.c)).setCell ⟨p, 2, none⟩ (.slice x.f.o x.f.n x.f.c)) p x := ((h.setK x.k).setI x.i).setF x.f
theorem InW.lowB {w w' : World} {b B : Nat} {y : Gv} (h : InW w b y) (q : Below B w w') (hb : b < B) : InW w' b y :=
  ⟨(q.cell (p := ⟨b, 0, none⟩) hb).trans h.c0, (q.cell (p := ⟨b, 1, none⟩) hb).trans h.c1, (q.cell (p := ⟨b, 2, none⟩) hb).trans h.c2, (q.frozen (p := ⟨b, 0, none⟩) hb).trans h.f0, (q.frozen (p := ⟨b, 1, none⟩) hb).trans h.f1, (q.frozen (p := ⟨b, 2, none⟩) hb).trans h.f2⟩
theorem AtZ.lowB {w w' : World} {a : Addr} {B : Nat} {z : Bi} (h : AtZ w a z) (q : Below B w w') (hb : a.block < B) : AtZ w' a z :=
  ⟨(q.cell hb).trans h.c0, (q.cell (p := ⟨a.block, a.off + 1, none⟩) hb).trans h.c1, (q.cell (p := ⟨a.block, a.off + 2, none⟩) hb).trans h.c2, (q.cell (p := ⟨a.block, a.off + 3, none⟩) hb).trans h.c3, (q.cell (p := ⟨a.block, a.off + 4, none⟩) hb).trans h.c4⟩
theorem Ab.lowB {w wr w' : World} {B : Nat} {y : Gv} {b : Bi} (h : Ab w wr y b) (q : Below B wr w') (hB : w.heap.size + 2 < B) : Ab w w' y b :=
  ⟨h.g.lowB q (by omega), h.z.lowB q (by show w.heap.size + 1 < B; omega), h.r.lowB q (by omega), h.low.trans (q.mono (by omega))⟩
theorem MineI.offB {w : World} {B n cap : Nat} {ao : Option Addr} {l : List Int} (h : MineI w B ao n cap l) (p : Addr) (u : Value) (hp : p.block < B) : MineI (w.setCell p u) B ao n cap l := ⟨h.1, own_off h.2 p u hp⟩
/-- The answer is laid down: the ghost is as it was. -/
theorem Og.fin {wr : World} {B p q : Nat} {x : Gv} {g : Gt} (h : Og wr B p x g) (hq : q < B) (u v t : Value) : HasG (((wr.setCell ⟨q, 0, none⟩ u).setCell ⟨q, 1, none⟩ v).setCell ⟨q, 2, none⟩ t) x g :=
  ⟨Tr.MineP.has (mineP_off (mineP_off (mineP_off h.ks _ u hq) _ v hq) _ t hq), (((h.is.offB _ u hq).offB _ v hq).offB _ t hq).has, (((h.fr.offB _ u hq).offB _ v hq).offB _ t hq).has⟩
/-- A ghost that lies somewhere, in no block below H. -/
structure NewG (H : Nat) (w : World) (x : Gv) (g : Gt) : Prop where
  has : HasG w x g
  ok : Off (fun i => i < H) x.k.o (prs g.ks)
  oi : Off (fun i => i < H) x.i.o (vals g.is)
  of : Off (fun i => i < H) x.f.o (vals g.fr)
theorem own_high {w : World} {H B n sz cap : Nat} {E : TypeId} {ao : Option Addr} {cs : List Value} (h : w.ownsRow B E sz (.slice ao n cap) n cs) (hB : H ≤ B) : Off (fun i => i < H) ao cs := fun _ a e s => by
  have := ((own_row h).2.2.2 a e).1
  omega
theorem NewG.below {H : Nat} {w w' : World} {x : Gv} {g : Gt} (h : NewG H w x g) (q : Below w.heap.size w w') : NewG H w' x g := ⟨h.has.below q, h.ok, h.oi, h.of⟩
theorem NewG.kept {H : Nat} {w w' : World} {x : Gv} {g : Gt} (h : NewG H w x g) (q : Kept (fun i => i < H) w w') : NewG H w' x g := ⟨⟨h.has.ks.kept q h.ok, h.has.is.kept q h.oi, h.has.fr.kept q h.of⟩, h.ok, h.oi, h.of⟩
theorem NewG.mono {H H' : Nat} {w : World} {x : Gv} {g : Gt} (h : NewG H w x g) (q : H' ≤ H) : NewG H' w x g := ⟨h.has, fun h0 a e s => h.ok h0 a e (Nat.lt_of_lt_of_le s q), fun h0 a e s => h.oi h0 a e (Nat.lt_of_lt_of_le s q), fun h0 a e s => h.of h0 a e (Nat.lt_of_lt_of_le s q)⟩
theorem Og.finN {wr : World} {H B p q : Nat} {x : Gv} {g : Gt} (h : Og wr B p x g) (hq : q < B) (hH : H ≤ B) (u v t : Value) : NewG H (((wr.setCell ⟨q, 0, none⟩ u).setCell ⟨q, 1, none⟩ v).setCell ⟨q, 2, none⟩ t) x g :=
  ⟨h.fin hq u v t, own_high h.ks.2 hH, own_high h.is.2 hH, own_high h.fr.2 hH⟩
set_option maxRecDepth 100000 in
set_option maxHeartbeats 4000000 in
/-- ADD: the answer lies in new blocks. -/
theorem padd_new (y : Gv) (g : Gt) (z : Bi) (w : World) (h1 : y.k.n ≤ 5000) (h2 : y.i.n ≤ 5000) (h3 : y.f.n ≤ 5000) (HH : Hid (HasG w y g)) :
    Calls Try.prog 11 #[(.agg #[.slice y.k.o y.k.n y.k.c, .slice y.i.o y.i.n y.i.c, .slice y.f.o y.f.n y.f.c]), (.agg #[.int .i64 z.kind, .int .i64 z.key.1, .int .i64 z.key.2, .int .i64 z.fm.1, .int .i64 z.fm.2])] w fun e w' => ∃ x : Gv, e = .returned (.tuple #[(.agg #[.slice x.k.o x.k.n x.k.c, .slice x.i.o x.i.n x.i.c, .slice x.f.o x.f.n x.f.c]), .int .i64 (adE g z)]) ∧ NewG w.heap.size w' x (adA g z) ∧ Below w.heap.size w w' := by
  go_enter Try.func11, Try.ntmps11
  go_wp2_with fail
  have HA := hid (ab_new w y z)
  unfold nilG at HA
  generalize ((w.alloc (.cells #[.slice y.k.o y.k.n y.k.c, .slice y.i.o y.i.n y.i.c, .slice y.f.o y.f.n y.f.c] 25)).alloc (.cells #[.int .i64 z.kind, .int .i64 z.key.1, .int .i64 z.key.2, .int .i64 z.fm.1, .int .i64 z.fm.2] 29)).alloc (.cells #[.slice none 0 0, .slice none 0 0, .slice none 0 0] 25) = W at HA ⊢
  have HW := hid (HH.out.below HA.out.low)
  have hS : SB w.heap.size y W := ⟨HA.out.g.c0, HA.out.g.c1, HA.out.g.c2⟩
  have HLt : Hid (w.heap.size + 2 < W.heap.size) := HA.out.r.lt
  go_cut [6] from 8 to 17 (fun s6 wx => ∃ (p : Nat) (x : Gv), s6 = .pointer (some ⟨p, 0, none⟩) ∧ Hid (Og wx W.heap.size p x g) ∧ Hid (W.heap.size ≤ p) ∧ Hid (Below W.heap.size W wx))
  case first =>
    go_region_held3 (SB w.heap.size y) (first | with_reducible assumption | with_reducible exact sb_drew hS | with_reducible exact sb_alloc hS _ | with_reducible exact sb_drew (sb_alloc hS _) | with_reducible exact HS1.out | with_reducible exact sb_drew HS1.out | with_reducible exact sb_alloc HS1.out _ | with_reducible exact sb_drew (sb_alloc HS1.out _) | with_reducible exact HS2.out | with_reducible exact sb_drew HS2.out | with_reducible exact sb_alloc HS2.out _ | with_reducible exact sb_drew (sb_alloc HS2.out _) | with_reducible exact HS3.out | with_reducible exact sb_drew HS3.out | with_reducible exact sb_alloc HS3.out _ | with_reducible exact sb_drew (sb_alloc HS3.out _) | with_reducible exact sb_three HS3.out (by have := HLt.out; have := B1.out.size; have := B2.out.size; omega) _ _ _ | with_reducible exact sb_drew (sb_three HS3.out (by have := HLt.out; have := B1.out.size; have := B2.out.size; omega) _ _ _) | fail)
      (first
        | (go_at_call 34; refine (cloneK_any y.k.o y.k.n y.k.c g.ks _ (by omega) (by first | exact HW.out.ks | exact HW.out.ks.below (alloc_below W _) | exact HW.out.ks.below (Below.refl _ W).drew | exact HW.out.ks.below (alloc_below W _).drew)).mono ?_; rintro e w1 ⟨ko, kc, rfl, m1, b1⟩; have B1 : Hid (Below W.heap.size W w1) := (by first | exact b1 | exact q_trans (alloc_below W _) b1 | exact q_trans (Below.refl _ W).drew b1 | exact q_trans (alloc_below W _).drew b1); have HS1 : Hid (SB w.heap.size y w1) := sb_keep hS B1.out; have M1 := hid m1; have Z1 := hid b1.size; (try (have HZ : Hid (InW w1 W.heap.size nilG) := (by first | exact (inW_new W nilG 25).below b1 | exact (inW_new W.drew nilG 25).below b1))); clear b1 m1)
        | (go_at_call 35; have hq := M2; clear hq; refine (cloneI_any y.f.o y.f.n y.f.c g.fr _ (by omega) (by first | exact HW.out.fr.below B2.out | exact HW.out.fr.below (q_alloc B2.out _) | exact HW.out.fr.below B2.out.drew | exact HW.out.fr.below (q_alloc B2.out _).drew)).mono ?_; rintro e w3 ⟨fo, fc, rfl, m3, b3⟩; have bb3 : Hid (Below w2.heap.size w2 w3) := (by first | exact b3 | exact q_trans (alloc_below w2 _) b3 | exact q_trans (Below.refl _ w2).drew b3 | exact q_trans (alloc_below w2 _).drew b3); have B3 : Hid (Below W.heap.size W w3) := q_trans B2.out bb3.out; have HS3 : Hid (SB w.heap.size y w3) := sb_keep hS B3.out; have M3 := hid m3; have Z3 := hid b3.size; (first | (replace HZ := hid (HZ.out.below bb3.out)) | (have HZ : Hid (InW w3 w2.heap.size nilG) := (by first | exact (inW_new w2 nilG 25).below b3 | exact (inW_new w2.drew nilG 25).below b3)) | skip); clear b3 m3; (try (obtain ⟨r0, r1, r2, f0, f1, f2⟩ := HZ.out; have hlz := HZ.out.lt)))
        | (go_at_call 35; have hq := M1; clear hq; refine (cloneI_any y.i.o y.i.n y.i.c g.is _ (by omega) (by first | exact HW.out.is.below B1.out | exact HW.out.is.below (q_alloc B1.out _) | exact HW.out.is.below B1.out.drew | exact HW.out.is.below (q_alloc B1.out _).drew)).mono ?_; rintro e w2 ⟨io, ic, rfl, m2, b2⟩; have bb2 : Hid (Below w1.heap.size w1 w2) := (by first | exact b2 | exact q_trans (alloc_below w1 _) b2 | exact q_trans (Below.refl _ w1).drew b2 | exact q_trans (alloc_below w1 _).drew b2); have B2 : Hid (Below W.heap.size W w2) := q_trans B1.out bb2.out; have HS2 : Hid (SB w.heap.size y w2) := sb_keep hS B2.out; have M2 := hid m2; have Z2 := hid b2.size; (first | (replace HZ := hid (HZ.out.below bb2.out)) | (have HZ : Hid (InW w2 w1.heap.size nilG) := (by first | exact (inW_new w1 nilG 25).below b2 | exact (inW_new w1.drew nilG 25).below b2)) | skip); clear b2 m2)
        | fail)
    all_goals (try go_wp2_with fail)
    all_goals go_meet
    all_goals first
      | (refine ⟨w3.heap.size, ⟨⟨ko, y.k.n, kc⟩, ⟨io, y.i.n, ic⟩, ⟨fo, y.f.n, fc⟩⟩, rfl, og_three M1.out M2.out M3.out bb2.out bb3.out ?_ ?_ ?_ ?_ ?_ ?_ (kept_below (alloc_below w3 _)) (inW_new w3 ⟨⟨ko, y.k.n, kc⟩, ⟨io, y.i.n, ic⟩, ⟨fo, y.f.n, fc⟩⟩ 25), B3.out.size, q_alloc B3.out _⟩)
      | (refine ⟨w2.heap.size, ⟨⟨ko, y.k.n, kc⟩, ⟨io, y.i.n, ic⟩, ⟨fo, y.f.n, fc⟩⟩, rfl, og_three M1.out M2.out M3.out bb2.out bb3.out ?_ ?_ ?_ ?_ ?_ ?_ (kept_three w3 _ _ _ _) (HZ.out.put ⟨⟨ko, y.k.n, kc⟩, ⟨io, y.i.n, ic⟩, ⟨fo, y.f.n, fc⟩⟩), B2.out.size, q_set (q_set (q_set B3.out B2.out.size _) B2.out.size _) B2.out.size _⟩)
      | (refine ⟨w1.heap.size, ⟨⟨ko, y.k.n, kc⟩, ⟨io, y.i.n, ic⟩, ⟨fo, y.f.n, fc⟩⟩, rfl, og_three M1.out M2.out M3.out bb2.out bb3.out ?_ ?_ ?_ ?_ ?_ ?_ (kept_three w3 _ _ _ _) (HZ.out.put ⟨⟨ko, y.k.n, kc⟩, ⟨io, y.i.n, ic⟩, ⟨fo, y.f.n, fc⟩⟩), B1.out.size, q_set (q_set (q_set B3.out B1.out.size _) B1.out.size _) B1.out.size _⟩)
      | (refine ⟨W.heap.size, ⟨⟨ko, y.k.n, kc⟩, ⟨io, y.i.n, ic⟩, ⟨fo, y.f.n, fc⟩⟩, rfl, og_three M1.out M2.out M3.out bb2.out bb3.out ?_ ?_ ?_ ?_ ?_ ?_ (kept_three w3 _ _ _ _) (HZ.out.put ⟨⟨ko, y.k.n, kc⟩, ⟨io, y.i.n, ic⟩, ⟨fo, y.f.n, fc⟩⟩), Nat.le_refl _, q_set (q_set (q_set B3.out (Nat.le_refl _) _) (Nat.le_refl _) _) (Nat.le_refl _) _⟩)
    all_goals
      have z1 := Z1.out
      have z2 := Z2.out
      have z3 := Z3.out
      have y1 := B1.out.size
      have y2 := bb2.out.size
      have y3 := bb3.out.size
      try simp only [sz_al, sz_dr] at z1
      try simp only [sz_al] at z2
      try simp only [sz_al] at z3
      try simp only [sz_al, sz_dr]
      omega
  case rest =>
    obtain ⟨p, x, rfl, HO, HP, HBc⟩ := hcut
    replace HA := hid (HA.out.lowB HBc.out HLt.out)
    have HB := hid HBc.out.size
    clear hS HW HBc
    have HWc := hid (HH.out.below HA.out.low)
    have hS : SZ w.heap.size y (w.heap.size + 1) z wc := ⟨HA.out.g.c0, HA.out.g.c1, HA.out.g.c2, HA.out.z.c0, HA.out.z.c1, HA.out.z.c2, HA.out.z.c3, HA.out.z.c4⟩
    go_upto_region 2 with fail
    go_region_held3 (SZ w.heap.size y (w.heap.size + 1) z) (first | with_reducible assumption | with_reducible exact sz_drew hS | with_reducible exact HS1.out | with_reducible exact sz_drew HS1.out | with_reducible exact HS2.out | with_reducible exact sz_drew HS2.out | with_reducible exact sz_alloc HS2.out _ | with_reducible exact sz_drew (sz_alloc HS2.out _) | with_reducible exact HS3.out | with_reducible exact sz_drew HS3.out | fail)
      (first
        | (go_at_call 15; refine (pcheck_any y g _ (by omega) (by first | exact HWc.out | exact HWc.out.below (Below.refl _ _).drew)).mono ?_; rintro e w1 ⟨rfl, b1⟩; have B1 : Hid (Below wc.heap.size wc w1) := (by first | exact b1 | exact q_trans (Below.refl _ wc).drew b1); have HS1 : Hid (SZ w.heap.size y (w.heap.size + 1) z w1) := sz_keep hS B1.out; clear b1)
        | (go_at_call 37; refine (prefused_any y g z _ (by omega) (by first | exact HWc.out.below B1.out | exact HWc.out.below B1.out.drew)).mono ?_; rintro e w2 ⟨rfl, b2⟩; have B2 : Hid (Below wc.heap.size wc w2) := (by first | exact q_trans B1.out b2 | exact q_trans B1.out.drew b2); have HS2 : Hid (SZ w.heap.size y (w.heap.size + 1) z w2) := sz_keep hS B2.out; clear b2)
        | (go_at_call 36; refine (or_low (some ⟨w2.heap.size, 0, none⟩) 2 2 [cgE g, rfE g z] _ (by omega) (by first | exact has_new w2 [cgE g, rfE g z] 32 | exact (has_new w2 [cgE g, rfE g z] 32).below (Below.refl _ _).drew)).mono ?_; rintro e w3 ⟨rfl, b3⟩; have B3 : Hid (Below wc.heap.size wc w3) := (by first | exact q_trans (q_alloc B2.out _) b3 | exact q_trans (q_alloc B2.out _).drew b3); have HS3 : Hid (SZ w.heap.size y (w.heap.size + 1) z w3) := sz_keep hS B3.out; clear b3)
        | fail)
    rw [or_add]
    replace HA := hid (HA.out.below B3.out)
    replace HO := hid (HO.out.below B3.out)
    replace HB : Hid (W.heap.size ≤ w3.heap.size) := Nat.le_trans HB.out B3.out.size
    clear B1 HS1 B2 HS2 B3 HS3 hS HWc
    obtain ⟨z0, z1, z2, z3, z4⟩ := HA.out.z
    obtain ⟨r0, r1, r2, f0, f1, f2⟩ := HA.out.r
    obtain ⟨v0, v1, v2, _, _, _⟩ := HO.out.box
    have hlr : w.heap.size + 2 < w3.heap.size := HA.out.r.lt
    have hlp : p < w3.heap.size := HO.out.box.lt
    have hne : p ≠ w.heap.size + 2 := by have := HP.out; have := HLt.out; omega
    by_cases h : adE g z = 0
    · have HE := hid h
      rw [h]
      clear h
      go_wp2_with fail
      refine (befall_any W.heap.size p x g z w3 HB.out HP.out HE.out HO.out).mono ?_
      rintro e w5 ⟨rfl, ⟨x', ho5⟩, b5⟩
      have HO5 := hid ho5
      have HA5 := hid (HA.out.lowB b5 HLt.out)
      clear ho5 b5 z0 z1 z2 z3 z4 r0 r1 r2 f0 f1 f2 v0 v1 v2 hlr hlp
      obtain ⟨r0, r1, r2, f0, f1, f2⟩ := HA5.out.r
      obtain ⟨v0, v1, v2, _, _, _⟩ := HO5.out.box
      have hlr : w.heap.size + 2 < w5.heap.size := HA5.out.r.lt
      have hlp : p < w5.heap.size := HO5.out.box.lt
      go_wp2_with fail
      exact bodyPost_ret (v := .tuple #[(.agg #[.slice x'.k.o x'.k.n x'.k.c, .slice x'.i.o x'.i.n x'.i.c, .slice x'.f.o x'.f.n x'.f.c]), .int .i64 0]) (by simp [results, Try.results11, go_sem, *]) rfl ⟨x', ret_gh HE.out.symm, HO5.out.finN HLt.out (by have := HLt.out; omega) _ _ _, HA5.out.fin _ _ _⟩
    · have HE := hid (ad_no (g := g) (b := z) rfl h)
      obtain ⟨q, hq⟩ : ∃ q, adE g z = q := ⟨_, rfl⟩
      have hq2 : (q != 0) = true := by rw [← hq]; simp [h]
      have HQ := hid hq
      rw [hq]
      clear hq h
      go_wp2_with fail
      exact bodyPost_ret (v := .tuple #[(.agg #[.slice x.k.o x.k.n x.k.c, .slice x.i.o x.i.n x.i.c, .slice x.f.o x.f.n x.f.c]), .int .i64 q]) (by simp [results, Try.results11, go_sem, *]) rfl ⟨x, ret_gh HQ.out.symm, by rw [HE.out]; exact HO.out.finN HLt.out (by have := HLt.out; omega) _ _ _, HA.out.fin _ _ _⟩
theorem padd_any (y : Gv) (g : Gt) (z : Bi) (w : World) (h1 : y.k.n ≤ 5000) (h2 : y.i.n ≤ 5000) (h3 : y.f.n ≤ 5000) (HH : Hid (HasG w y g)) :
    Calls Try.prog 11 #[(.agg #[.slice y.k.o y.k.n y.k.c, .slice y.i.o y.i.n y.i.c, .slice y.f.o y.f.n y.f.c]), (.agg #[.int .i64 z.kind, .int .i64 z.key.1, .int .i64 z.key.2, .int .i64 z.fm.1, .int .i64 z.fm.2])] w fun e w' => ∃ x : Gv, e = .returned (.tuple #[(.agg #[.slice x.k.o x.k.n x.k.c, .slice x.i.o x.i.n x.i.c, .slice x.f.o x.f.n x.f.c]), .int .i64 (adE g z)]) ∧ HasG w' x (adA g z) ∧ Below w.heap.size w w' :=
  (padd_new y g z w h1 h2 h3 HH).mono fun _ _ ⟨x, a, b, c⟩ => ⟨x, a, b.has, c⟩
end Go.Proofs.Ytcldnacpddebcaa.Gh
