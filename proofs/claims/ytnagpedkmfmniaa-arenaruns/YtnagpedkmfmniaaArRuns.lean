/- ArenaRuns: from a new one on, whatever is done. -/
import Derived.Test.YtnagpedkmfmniaaArRNew
import Derived.Test.YtnagpedkmfmniaaArSteps
namespace Go.Proofs.Ytnagpedkmfmniaa.Ar
open Go.RowKit Go.Proofs.Ytnagpedkmfmniaa.Ha

theorem model_own (x : Wh) (a : Ar) (z : Ac) (w : World) (HS : Hid (Sm a)) (HRB : Hid (RefB a 1000000000000)) (HH : Hid (HasO w x a)) :
    Calls Try.prog 22 #[(.agg #[.slice x.t.o x.t.n x.t.c, .slice x.f.o x.f.n x.f.c]), (.agg #[.int .i64 z.kind, .int .i64 z.core, .int .i64 z.obj, .int .i64 z.by_, .int .i64 z.t.ty, .int .i64 z.t.gen, .int .i64 z.t.refs, .int .i64 z.t.st, .int .i64 z.t.sz, .int .i64 z.t.wa, .int .i64 z.t.fm, .int .i64 z.t.va])] w fun e w' => ∃ y : Wh, e = .returned (.tuple #[(.agg #[.slice y.t.o y.t.n y.t.c, .slice y.f.o y.f.n y.f.c]), .int .i64 (doP a z), .int .i64 (doE a z)]) ∧ HasO w' y (doA a z) ∧ Below w.heap.size w w' :=
  (model_any x a z w HS HRB HH.out.has).mono fun _ _ ⟨y, e, _, h, b⟩ => ⟨y, e, h HH.out, b⟩
/-- An arena of its own in a box. -/
structure Bz (W : World) (b : Nat) (y : Wh) (a : Ar) : Prop where
  blk : W.heap[b]? = some (.cells #[.slice y.t.o y.t.n y.t.c, .slice y.f.o y.f.n y.f.c] 25 (0, 0))
  has : HasO W y a
theorem Bz.inA {W : World} {b : Nat} {y : Wh} {a : Ar} (h : Bz W b y a) : InA W b y := inA_heap h.blk
theorem Bz.below {W W' : World} {b : Nat} {y : Wh} {a : Ar} (h : Bz W b y a) (k : Below W.heap.size W W') : Bz W' b y a :=
  ⟨by rw [k.block _ (Array.getElem?_eq_some_iff.1 h.blk).1]; exact h.blk, h.has.below k⟩
theorem bz_own {W : World} {y : Wh} {a : Ar} (h : HasO W y a) : Bz (W.alloc (.cells #[.slice y.t.o y.t.n y.t.c, .slice y.f.o y.f.n y.f.c] 25)) W.heap.size y a := ⟨heap_alloc_new W _, h.below (alloc_below _ _)⟩
theorem bz_put {W : World} {y : Wh} {a : Ar} {c : Nat} (h : HasO W y a) (hc : Zr W c) : Bz ((W.setCell ⟨c, 0, none⟩ (.slice y.t.o y.t.n y.t.c)).setCell ⟨c, 1, none⟩ (.slice y.f.o y.f.n y.f.c)) c y a :=
  ⟨heap_two (x := Wh.zero) hc _ _, h.box hc _ _⟩
/-- Another box is written. -/
theorem Bz.other {W : World} {b c : Nat} {y x : Wh} {a : Ar} (h : Bz W b y a) (hc : W.heap[c]? = some (.cells #[.slice x.t.o x.t.n x.t.c, .slice x.f.o x.f.n x.f.c] 25 (0, 0))) (hne : b ≠ c) (u v : Value) : Bz ((W.setCell ⟨c, 0, none⟩ u).setCell ⟨c, 1, none⟩ v) b y a :=
  ⟨by rw [(kept_two W c u v).block _ (Array.getElem?_eq_some_iff.1 h.blk).1 hne]; exact h.blk, h.has.boxG hc u v⟩
/-- The box is written anew. -/
theorem Bz.set {W : World} {b : Nat} {y v : Wh} {a a' : Ar} (h : Bz W b y a) (hv : HasO W v a') : Bz ((W.setCell ⟨b, 0, none⟩ (.slice v.t.o v.t.n v.t.c)).setCell ⟨b, 1, none⟩ (.slice v.f.o v.f.n v.f.c)) b v a' :=
  ⟨heap_two h.blk _ _, hv.boxG h.blk _ _⟩
/-- At each round: two boxes with one arena. -/
structure Rn (w W : World) (b0 b1 : Nat) (y u : Wh) (a : Ar) (i : Nat) : Prop where
  low : Below w.heap.size w W
  p : Bz W b0 y a
  q : Bz W b1 u a
  ne : b0 ≠ b1
  g0 : w.heap.size ≤ b0
  g1 : w.heap.size ≤ b1
  ok : Ok a
  rb : RefB a (1 + 100 * i)
theorem Rn.below {w W W' : World} {b0 b1 i : Nat} {y u : Wh} {a : Ar} (h : Rn w W b0 b1 y u a i) (k : Below W.heap.size W W') : Rn w W' b0 b1 y u a i := ⟨q_trans h.low k, h.p.below k, h.q.below k, h.ne, h.g0, h.g1, h.ok, h.rb⟩
theorem Rn.step {w W : World} {b0 b1 cb cd i : Nat} {y u v x : Wh} {a : Ar} {z : Ac} (h : Rn w W b0 b1 y u a i) (hv : Bz W cb v (doA a z)) (hx : Bz W cd x (doA a z)) :
    Rn w ((((W.setCell ⟨b0, 0, none⟩ (.slice v.t.o v.t.n v.t.c)).setCell ⟨b0, 1, none⟩ (.slice v.f.o v.f.n v.f.c)).setCell ⟨b1, 0, none⟩ (.slice x.t.o x.t.n x.t.c)).setCell ⟨b1, 1, none⟩ (.slice x.f.o x.f.n x.f.c)) b0 b1 v x (doA a z) (i + 1) := by
  have p1 := h.p.set hv.has
  have q1 := h.q.other h.p.blk (Ne.symm h.ne) (.slice v.t.o v.t.n v.t.c) (.slice v.f.o v.f.n v.f.c)
  have x1 := hx.has.boxG h.p.blk (.slice v.t.o v.t.n v.t.c) (.slice v.f.o v.f.n v.f.c)
  exact ⟨low_put (low_put h.low h.g0) h.g1, p1.other q1.blk h.ne _ _, q1.set x1, h.ne, h.g0, h.g1, do_ok z h.ok, fun g hg => by have := do_refB z h.rb (by omega) g hg; omega⟩
theorem Rn.step2 {w W : World} {b0 b1 cb cd i : Nat} {y u v x : Wh} {a : Ar} {z : Ac} (h : Rn w W b0 b1 y u a i) (hv : Bz W cb v (doA a z)) (hx : Bz W cd x (doA a z)) :
    Rn w ((((W.setCell ⟨b1, 0, none⟩ (.slice x.t.o x.t.n x.t.c)).setCell ⟨b1, 1, none⟩ (.slice x.f.o x.f.n x.f.c)).setCell ⟨b0, 0, none⟩ (.slice v.t.o v.t.n v.t.c)).setCell ⟨b0, 1, none⟩ (.slice v.f.o v.f.n v.f.c)) b0 b1 v x (doA a z) (i + 1) := by
  have q1 := h.q.set hx.has
  have p1 := h.p.other h.q.blk h.ne (.slice x.t.o x.t.n x.t.c) (.slice x.f.o x.f.n x.f.c)
  have v1 := hv.has.boxG h.q.blk (.slice x.t.o x.t.n x.t.c) (.slice x.f.o x.f.n x.f.c)
  exact ⟨low_put (low_put h.low h.g1) h.g0, p1.set v1, q1.other p1.blk (Ne.symm h.ne) _ _, h.ne, h.g0, h.g1, do_ok z h.ok, fun g hg => by have := do_refB z h.rb (by omega) g hg; omega⟩
set_option maxRecDepth 100000 in
set_option maxHeartbeats 8000000 in
theorem runs_in (n m : Nat) (ao : Option Addr) (l : List Ac) (k c : Nat) (w : World) (h1 : (1 : Int) ≤ (n : Int)) (h2 : (n : Int) ≤ 64) (h3 : (1 : Int) ≤ (m : Int)) (h4 : (m : Int) ≤ 64) (hk : (k : Int) ≤ 100) (HC : Hid (HasC w ao k l)) :
    Calls Try.prog 5 #[.int .i64 n, .int .i64 m, .slice ao k c] w fun e w' => e = .returned (.bool true) ∧ Below w.heap.size w w' := by
  go_enter Try.func5, Try.ntmps5
  go_wp2_with fail
  refine (new_yes n m _ h1 h2 h3 h4).mono ?_
  rintro e w1 ⟨y, rfl, hy, b1⟩
  have HP := hid (bz_own hy)
  have HLO := hid (q_alloc b1 (.cells #[.slice y.t.o y.t.n y.t.c, .slice y.f.o y.f.n y.f.c] 25))
  have HG0 := hid b1.size
  clear hy b1
  go_wp2_with fail
  generalize w1.alloc (.cells #[.slice y.t.o y.t.n y.t.c, .slice y.f.o y.f.n y.f.c] 25) = W at HP HLO ⊢
  generalize w1.heap.size = b0 at HP HG0 ⊢
  refine (num_any 0 _).mono ?_
  rintro e w3 ⟨rfl, hw⟩; rw [hw]; clear hw w3
  go_wp2_with fail
  refine (rnew_yes n m _ h1 h2 h3 h4).mono ?_
  rintro e w2 ⟨u, rfl, hu, b2⟩
  have HR : Hid (Rn w (w2.alloc (.cells #[.slice u.t.o u.t.n u.t.c, .slice u.f.o u.f.n u.f.c] 25)) b0 w2.heap.size y u (newA n m) 0) := by
    have hp := HP.out.below b2
    have lt := (hp.inA).lt
    exact ⟨q_alloc (q_trans HLO.out b2) _, hp.below (alloc_below _ _), bz_own hu, by omega, HG0.out, by have := HG0.out; omega, new_ok n m (by omega) (by omega) (by omega) (by omega), fun g hg => by have := new_refB n m g hg; omega⟩
  clear hu b2 HP HLO HG0
  go_wp2_with fail
  generalize w2.alloc (.cells #[.slice u.t.o u.t.n u.t.c, .slice u.f.o u.f.n u.f.c] 25) = W2 at HR ⊢
  generalize w2.heap.size = b1 at HR ⊢
  go_loopw [11] (fun i wr => ∃ (j : Nat) (y u : Wh) (a : Ar), j ≤ k ∧ i = .int .i64 j ∧ Hid (Rn w wr b0 b1 y u a j)) (fun i _ => k - (intOf i).toNat)
  case atStart => exact ⟨0, y, u, _, Nat.zero_le _, rfl, HR⟩
  case round =>
    clear HR
    obtain ⟨W0, rfl⟩ : ∃ W0, W0 = wr := ⟨_, rfl⟩
    obtain ⟨j, y, u, a1, hj, rfl, HG⟩ := hrel
    by_cases hlt : j < k
    · have i1 : (0 : Int) ≤ (j : Int) := by omega
      have i2 : (j : Int) < (k : Int) := by omega
      obtain ⟨la, rfl, hz⟩ := HC.out.at_ j hlt
      obtain ⟨z, hz2⟩ : ∃ z, l.getD j Ac.zero = z := ⟨_, rfl⟩
      rw [hz2] at hz
      have HBL := hid (World.block_lt_of_cell? w _ hz.1)
      have HZ := hid (atC_below hz HG.out.low)
      clear hz hz2
      have CD := hid (fun W' (b : Below W0.heap.size W0 W') => does_any y a1 z W' (small_of HG.out.ok) (fun q hq => by have := HG.out.rb q hq; omega) (HG.out.p.has.below b).has)
      have CM := hid (fun W' (b : Below W0.heap.size W0 W') => model_own u a1 z W' (small_of HG.out.ok) (fun q hq => by have := HG.out.rb q hq; omega) (HG.out.q.has.below b))
      generalize doE a1 z = E at CD CM
      generalize doP a1 z = P at CD CM
      have lt0 : b0 < W0.heap.size := HG.out.p.inA.lt
      have lt1 : b1 < W0.heap.size := HG.out.q.inA.lt
      have ne01 : b0 ≠ b1 := HG.out.ne
      obtain ⟨p0, p1, pf⟩ := HG.out.p.inA
      obtain ⟨z0, z1, z2, z3, z4, z5, z6, z7, z8, z9, za, zb⟩ := HZ.out
      go_upto_region 10 with fail
      go_cut [12, 13, 14] from 54 to 95 (fun s12 s13 s14 wx => ∃ (b : Nat) (v : Wh), s12 = .pointer (some ⟨b, 0, none⟩) ∧ s13 = .int .i64 P ∧ s14 = .int .i64 E ∧ W0.heap.size ≤ b ∧ Hid (Bz wx b v (doA a1 z)) ∧ Hid (Below W0.heap.size W0 wx))
      case first =>
        have hS : SX b0 y (la.add (j * 12)) z W0 := ⟨⟨p0, p1⟩, HZ.out⟩
        go_region_held3 (SX b0 y (la.add (j * 12)) z) (first | with_reducible assumption | with_reducible exact HS3.out | with_reducible exact sx_alloc HS3.out | with_reducible exact sx_two HS3.out HNC.out | with_reducible exact sx_drew hS | with_reducible exact sx_alloc (sx_drew hS) | exact sx_alloc hS)
          (first
            | (go_at_call 21; refine (CD.out _ (by first | exact (Below.refl _ W0).drew | exact q_alloc (Below.refl _ W0).drew _)).mono ?_; rintro e w3 ⟨v, rfl, h3, b⟩; have HO3 : Hid (HasO w3 v (doA a1 z)) := h3; have HB3 : Hid (Below W0.heap.size W0 w3) := (by first | exact q_trans (Below.refl _ W0).drew b | exact q_trans (q_alloc (Below.refl _ W0).drew _) b); have HS3 : Hid (SX b0 y (la.add (j * 12)) z w3) := (sx_keep HB3.out hS); (try (have HZ3 : Hid (Zr w3 W0.heap.size) := ((zr_newd W0).below b); obtain ⟨u0, u1, uf⟩ := HZ3.out.inA; have HNC : Hid (b0 ≠ W0.heap.size ∧ (la.add (j * 12)).block ≠ W0.heap.size) := (⟨Nat.ne_of_lt lt0, Nat.ne_of_lt (Nat.lt_of_lt_of_le HBL.out HG.out.low.size)⟩))); clear h3)
            | fail)
        all_goals (try go_wp2_with fail)
        all_goals go_meet
        all_goals first
          | exact ⟨_, v, rfl, rfl, rfl, HB3.out.size, bz_own HO3.out, q_alloc HB3.out _⟩
          | exact ⟨_, v, rfl, rfl, rfl, Nat.le_refl _, bz_put HO3.out HZ3.out, low_put HB3.out (Nat.le_refl _)⟩
      case rest =>
        obtain ⟨cb, v, rfl, rfl, rfl, hcb, HV, HBc⟩ := hcut
        have HZ := hid (atC_below HZ.out HBc.out)
        clear p0 p1 pf z0 z1 z2 z3 z4 z5 z6 z7 z8 z9 za zb CD
        obtain ⟨p0, p1, pf⟩ := (HG.out.q.below HBc.out).inA
        obtain ⟨z0, z1, z2, z3, z4, z5, z6, z7, z8, z9, za, zb⟩ := HZ.out
        have CM2 := hid (fun W' (b : Below wc.heap.size wc W') => CM.out W' (q_trans HBc.out b))
        clear CM
        have lt2 : b1 < wc.heap.size := Nat.lt_of_lt_of_le lt1 HBc.out.size
        have HBL2 : Hid ((la.add (j * 12)).block < wc.heap.size) := Nat.lt_of_lt_of_le (Nat.lt_of_lt_of_le HBL.out HG.out.low.size) HBc.out.size
        have hcw : cb < wc.heap.size := HV.out.inA.lt
        go_upto_region 11 with fail
        go_cut [15, 16, 17] from 54 to 95 (fun s15 s16 s17 wx => ∃ (b : Nat) (v2 : Wh), s15 = .pointer (some ⟨b, 0, none⟩) ∧ s16 = .int .i64 P ∧ s17 = .int .i64 E ∧ wc.heap.size ≤ b ∧ Hid (Bz wx b v2 (doA a1 z)) ∧ Hid (Below wc.heap.size wc wx))
        case first =>
          have hS : SX b1 u (la.add (j * 12)) z wc := ⟨⟨p0, p1⟩, HZ.out⟩
          go_region_held3 (SX b1 u (la.add (j * 12)) z) (first | with_reducible assumption | with_reducible exact HS3.out | with_reducible exact sx_alloc HS3.out | with_reducible exact sx_two HS3.out HNC.out | with_reducible exact sx_drew hS | with_reducible exact sx_alloc (sx_drew hS) | exact sx_alloc hS)
            (first
              | (go_at_call 22; refine (CM2.out _ (by first | exact (Below.refl _ wc).drew | exact q_alloc (Below.refl _ wc).drew _)).mono ?_; rintro e w3 ⟨v2, rfl, h3, b⟩; have HO3 : Hid (HasO w3 v2 (doA a1 z)) := h3; have HB3 : Hid (Below wc.heap.size wc w3) := (by first | exact q_trans (Below.refl _ wc).drew b | exact q_trans (q_alloc (Below.refl _ wc).drew _) b); have HS3 : Hid (SX b1 u (la.add (j * 12)) z w3) := (sx_keep HB3.out hS); (try (have HZ3 : Hid (Zr w3 wc.heap.size) := ((zr_newd wc).below b); obtain ⟨u0, u1, uf⟩ := HZ3.out.inA; have HNC : Hid (b1 ≠ wc.heap.size ∧ (la.add (j * 12)).block ≠ wc.heap.size) := (⟨Nat.ne_of_lt lt2, Nat.ne_of_lt HBL2.out⟩))); clear h3)
              | fail)
          all_goals (try go_wp2_with fail)
          all_goals go_meet
          all_goals first
            | exact ⟨_, v2, rfl, rfl, rfl, HB3.out.size, bz_own HO3.out, q_alloc HB3.out _⟩
            | exact ⟨_, v2, rfl, rfl, rfl, Nat.le_refl _, bz_put HO3.out HZ3.out, low_put HB3.out (Nat.le_refl _)⟩
        case rest =>
          obtain ⟨cd, v2, rfl, rfl, rfl, hcd, HV2, HBd⟩ := hcut
          rename_i wd
          replace HG := hid ((HG.out.below HBc.out).below HBd.out)
          replace HV := hid (HV.out.below HBd.out)
          clear p0 p1 pf z0 z1 z2 z3 z4 z5 z6 z7 z8 z9 za zb CM2 HZ HBL HBL2 HBc HBd
          obtain ⟨p0, p1, pf⟩ := HV.out.inA
          obtain ⟨q0, q1, qf⟩ := HV2.out.inA
          have HOK2 := hid (do_ok z HG.out.ok)
          have ep : ((P : Int) != P) = false := by simp
          have ee : ((E : Int) != E) = false := by simp
          go_wp2_with fail
          refine (rsame_yes v v2 (doA a1 z) _ (small_of HOK2.out) HV.out.has.has HV2.out.has.has).mono ?_
          rintro e w5 ⟨rfl, b5⟩
          replace HG := hid (HG.out.below b5)
          replace HV := hid (HV.out.below b5)
          replace HV2 := hid (HV2.out.below b5)
          clear b5 p0 p1 pf q0 q1 qf
          obtain ⟨p0, p1, pf⟩ := HV.out.inA
          obtain ⟨q0, q1, qf⟩ := HV2.out.inA
          obtain ⟨r0, r1, rf⟩ := HG.out.p.inA
          obtain ⟨s0, s1, sf⟩ := HG.out.q.inA
          have m0 : b0 ≠ cb := by omega
          have m1 : b1 ≠ cb := by omega
          have m2 : b0 ≠ cd := by omega
          have m3 : b1 ≠ cd := by omega
          have m4 : cb ≠ b0 := by omega
          have m5 : cb ≠ b1 := by omega
          have m6 : cd ≠ b0 := by omega
          have m7 : cd ≠ b1 := by omega
          have m8 : b1 ≠ b0 := Ne.symm ne01
          go_upto_region 14 with fail
          go_region
          all_goals
            first
              | have HF := hid ((HG.out.step HV.out HV2.out).below (Below.refl _ _).drew)
              | fail
            clear p0 p1 pf q0 q1 qf r0 r1 rf s0 s1 sf HG HV HV2
            go_wp2_with fail
            go_roundw
            case rel => exact ⟨j + 1, v, v2, doA a1 z, by omega, by go_num, HF⟩
            case measure => simp [intOf]; omega
    · obtain rfl : j = k := by omega
      go_wp2_with fail
      refine (live_fin HG.out.low).mono ?_
      rintro e w4 ⟨rfl, b4⟩
      have HL := hid b4
      clear b4
      go_wp2_with fail
      go_ret
      exact ⟨rfl, HL.out⟩
set_option maxRecDepth 100000 in
set_option maxHeartbeats 8000000 in
theorem runs_out (n m : Int) (ao : Option Addr) (k c : Nat) (w : World) (h : ¬ (1 ≤ n ∧ n ≤ 64 ∧ 1 ≤ m ∧ m ≤ 64)) (hk : (k : Int) ≤ 100) :
    Calls Try.prog 5 #[.int .i64 n, .int .i64 m, .slice ao k c] w fun e w' => e = .returned (.bool true) ∧ Below w.heap.size w w' := by
  have HN := hid (new_no n m w h)
  by_cases h1 : 1 ≤ n
  · by_cases h2 : n ≤ 64
    · by_cases h3 : 1 ≤ m
      · have h4 : ¬ m ≤ 64 := fun e => h ⟨h1, h2, h3, e⟩
        clear h
        go_enter Try.func5, Try.ntmps5
        go_wp2_with fail
        refine HN.out.mono ?_
        rintro e w1 ⟨rfl, b1⟩
        have HB := hid (q_alloc b1 (.cells #[.slice none 0 0, .slice none 0 0] 25))
        clear b1
        go_wp2_with fail
        generalize w1.alloc (.cells #[.slice none 0 0, .slice none 0 0] 25) = W at HB ⊢
        refine (num_any 2 _).mono ?_
        rintro e w3 ⟨rfl, hw⟩; rw [hw]; clear hw w3
        go_wp2_with fail
        refine (live_fin HB.out).mono ?_
        rintro e w4 ⟨rfl, b4⟩
        have HL := hid b4
        clear b4
        go_wp2_with fail
        go_ret
        exact ⟨rfl, HL.out⟩
      · skip
        clear h
        go_enter Try.func5, Try.ntmps5
        go_wp2_with fail
        refine HN.out.mono ?_
        rintro e w1 ⟨rfl, b1⟩
        have HB := hid (q_alloc b1 (.cells #[.slice none 0 0, .slice none 0 0] 25))
        clear b1
        go_wp2_with fail
        generalize w1.alloc (.cells #[.slice none 0 0, .slice none 0 0] 25) = W at HB ⊢
        refine (num_any 2 _).mono ?_
        rintro e w3 ⟨rfl, hw⟩; rw [hw]; clear hw w3
        go_wp2_with fail
        refine (live_fin HB.out).mono ?_
        rintro e w4 ⟨rfl, b4⟩
        have HL := hid b4
        clear b4
        go_wp2_with fail
        go_ret
        exact ⟨rfl, HL.out⟩
    · skip
      clear h
      go_enter Try.func5, Try.ntmps5
      go_wp2_with fail
      refine HN.out.mono ?_
      rintro e w1 ⟨rfl, b1⟩
      have HB := hid (q_alloc b1 (.cells #[.slice none 0 0, .slice none 0 0] 25))
      clear b1
      go_wp2_with fail
      generalize w1.alloc (.cells #[.slice none 0 0, .slice none 0 0] 25) = W at HB ⊢
      refine (num_any 2 _).mono ?_
      rintro e w3 ⟨rfl, hw⟩; rw [hw]; clear hw w3
      go_wp2_with fail
      refine (live_fin HB.out).mono ?_
      rintro e w4 ⟨rfl, b4⟩
      have HL := hid b4
      clear b4
      go_wp2_with fail
      go_ret
      exact ⟨rfl, HL.out⟩
  · skip
    clear h
    go_enter Try.func5, Try.ntmps5
    go_wp2_with fail
    refine HN.out.mono ?_
    rintro e w1 ⟨rfl, b1⟩
    have HB := hid (q_alloc b1 (.cells #[.slice none 0 0, .slice none 0 0] 25))
    clear b1
    go_wp2_with fail
    generalize w1.alloc (.cells #[.slice none 0 0, .slice none 0 0] 25) = W at HB ⊢
    refine (num_any 2 _).mono ?_
    rintro e w3 ⟨rfl, hw⟩; rw [hw]; clear hw w3
    go_wp2_with fail
    refine (live_fin HB.out).mono ?_
    rintro e w4 ⟨rfl, b4⟩
    have HL := hid b4
    clear b4
    go_wp2_with fail
    go_ret
    exact ⟨rfl, HL.out⟩
set_option maxRecDepth 100000 in
set_option maxHeartbeats 8000000 in
theorem runs_any (n m : Int) (ao : Option Addr) (l : List Ac) (k c : Nat) (w : World) (hn : k ≤ 9223372036854775807) (HC : Hid (HasC w ao k l)) :
    Calls Try.prog 5 #[.int .i64 n, .int .i64 m, .slice ao k c] w fun e w' => e = .returned (.bool true) ∧ Below w.heap.size w w' := by
  by_cases hk : (k : Int) ≤ 100
  · by_cases h : 1 ≤ n ∧ n ≤ 64 ∧ 1 ≤ m ∧ m ≤ 64
    · obtain ⟨h1, h2, h3, h4⟩ := h
      obtain ⟨n, rfl⟩ := Int.eq_ofNat_of_zero_le (by omega : 0 ≤ n)
      obtain ⟨m, rfl⟩ := Int.eq_ofNat_of_zero_le (by omega : 0 ≤ m)
      exact runs_in n m ao l k c w h1 h2 h3 h4 hk HC
    · exact runs_out n m ao k c w h hk
  · have k100 : (100 : Int) < (k : Int) := by omega
    go_enter Try.func5, Try.ntmps5
    go_wp2_with fail
    refine (live_fin (Below.refl _ w)).mono ?_
    rintro e w4 ⟨rfl, b4⟩
    have HL := hid b4
    clear b4
    go_wp2_with fail
    go_ret
    exact ⟨rfl, HL.out⟩
end Go.Proofs.Ytnagpedkmfmniaa.Ar
