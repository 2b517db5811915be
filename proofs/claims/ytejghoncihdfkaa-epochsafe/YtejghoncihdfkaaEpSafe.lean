/- What EpochSafe does, over the program's contracts. -/
import Derived.Test.YtejghoncihdfkaaEpSafe2
import Derived.Deep.RegionWith
namespace Go.Proofs.Ytejghoncihdfkaa.Ep
open Go.RowKit

theorem act_new (w : World) (a : Ac) (T : TypeId) : (w.alloc (.cells #[.int .i64 a.kind, .int .i64 a.core, .int .i64 a.obj] T)).cell? ⟨w.heap.size, 0, none⟩ = some (.int .i64 a.kind) ∧ (w.alloc (.cells #[.int .i64 a.kind, .int .i64 a.core, .int .i64 a.obj] T)).cell? ⟨w.heap.size, 1, none⟩ = some (.int .i64 a.core) ∧ (w.alloc (.cells #[.int .i64 a.kind, .int .i64 a.core, .int .i64 a.obj] T)).cell? ⟨w.heap.size, 2, none⟩ = some (.int .i64 a.obj) := by
  refine ⟨?_, ?_, ?_⟩ <;> simp
set_option maxRecDepth 100000 in
set_option maxHeartbeats 2000000 in
theorem safe_in (K : Con) (N : Nat) (ao : Option Addr) (M cap : Nat) (l : List Ac) (w : World) (h1 : 1 ≤ (N : Int)) (h2 : (N : Int) ≤ 64) (h3 : M ≤ 120) (HC : Hid (HasC w ao M l)) :
    Calls Try.prog 5 #[.int .i64 (N : Int), .slice ao M cap] w fun r w' => r = .returned (.bool true) ∧ Below w.heap.size w w' := by
  have hn : newE (N : Int) = 0 := if_pos ⟨h1, h2⟩
  have i0 : (M : Int) ≤ 120 := by omega
  have HS0 := hid (sf_new hn)
  have HL0 : Hid ((newA (N : Int)).pins.length = N) := by have := new_len hn; unfold Hid; omega
  have C0 := hid (fun (W : World) => k_new K (n := (N : Int)) (m := 1) (q := 0) (f := newA (N : Int)) (new_now hn).1 hn rfl No W (no_lt W))
  have HN0 := hid (new_now hn).1
  obtain ⟨CB, hCB, mB⟩ := make_B N (by omega)
  have HCB := hid hCB
  rw [Int.toNat_natCast] at HS0
  generalize newA (N : Int) = A0 at C0 HS0 HL0 HN0
  clear hn hCB
  go_enter Try.func5, Try.ntmps5
  go_wp2_with fail
  refine (C0.out _).mono ?_
  rintro r w1 ⟨y, rfl, h0, b0⟩
  have HE := hid (Fl.mk (q_alloc b0 (.cells #[.int .i64 1, .slice y.p.o y.p.n y.p.c, .slice y.l.o y.l.n y.l.c] 25)) (be_at HN0.out 25 h0) b0.size)
  clear h0 b0
  go_wp2_with fail
  generalize w1.heap.size = B at HE ⊢
  generalize w1.alloc (.cells #[.int .i64 1, .slice y.p.o y.p.n y.p.c, .slice y.l.o y.l.n y.l.c] 25) = Wz at HE ⊢
  clear w1
  refine (num_any _ _).mono ?_
  rintro r w' ⟨rfl, hw⟩
  rw [hw]
  clear hw w'
  go_upto_region 7 with fail
  have HSs : Hid (Ss w (Wz.alloc (.cells CB 4)) B y A0 Wz.heap.size N (List.replicate N false) none 0 0 none 0 0 [] [] (fun i => i = Wz.heap.size)) := by
    have hb := alloc_below Wz (.cells CB 4)
    have ho := own_made (B := w.heap.size) (p := Wz.heap.size) (m := N) (T := 4) (cs := bvals (List.replicate N false)) (by omega) HE.out.low.size HCB.out (by simp) (heap_alloc_new Wz (.cells CB 4))
    refine ⟨q_trans HE.out.low hb, HE.out.b, HE.out.be.box.below hb, ?_, ⟨ho, World.ownsRow_nil _ _ _ _, World.ownsRow_nil _ _ _ _, rfl, fun k hk => absurd hk (by simp), fun k hk => absurd hk (by simp), fun i j _ hj => absurd hj (by simp), rfl, (fun q e => by cases e), (fun q e => by cases e), fun k hk => absurd hk (by simp)⟩, (fun i s => by rw [s]; simp), (fun i s => by rw [s]; exact HE.out.low.size), fun e => Nat.ne_of_lt HE.out.be.box.lt e, HS0.out, HL0.out⟩
    exact (HE.out.be.has.beside hb Wz.heap.size (Nat.le_refl _)).less (fun i s => by rcases s with s | s; exact .inr s; exact .inl (.inr s))
  generalize Wz.heap.size = PB at HSs ⊢
  generalize Wz.alloc (.cells CB 4) = W1 at HSs ⊢
  clear HE Wz HCB mB C0 HS0 HL0 HN0
  go_wp2_with fail
  go_loopw [8, 9, 10] (fun s8 s9 s10 wr => ∃ (j : Nat) (z : WE) (f : E) (pd : List Bool) (cn cc : Nat) (co : Option Addr) (sn sc : Nat) (so : Option Addr) (G : List En) (hs : List Hd) (Av : Nat → Prop), j ≤ M ∧ s8 = .slice co cn cc ∧ s9 = .slice so sn sc ∧ s10 = .int .i64 j ∧ Hid (Ss w wr B z f PB N pd co cn cc so sn sc G hs Av) ∧ Hid (G.length ≤ j)) (fun _ _ s _ => M - (intOf s).toNat)
  case atStart => exact ⟨0, y, A0, _, 0, 0, none, 0, 0, none, [], [], _, Nat.zero_le _, rfl, rfl, rfl, HSs, Nat.le_refl _⟩
  case round =>
    clear HSs W1
    obtain ⟨W0, rfl⟩ : ∃ W0, W0 = wr := ⟨_, rfl⟩
    obtain ⟨j, z, f, pd, cn, cc, co, sn, sc, so, G, hs, Av, hj, rfl, rfl, rfl, HG, HGl0⟩ := hrel
    by_cases hlt : j < M
    · have HGl : Hid (G.length ≤ j + 1) := Nat.le_succ_of_le HGl0.out
      have i1 : (0 : Int) ≤ (j : Int) := by omega
      have i2 : (j : Int) < (M : Int) := by omega
      obtain ⟨la, rfl, hz⟩ := HC.out.at_ j hlt
      obtain ⟨a, ha⟩ : ∃ a, l.getD j Ac.zero = a := ⟨_, rfl⟩
      rw [ha] at hz
      obtain ⟨z0, z1, z2⟩ := atC_below hz HG.out.low
      clear hz ha
      go_upto_region 13 with fail
      have hb := alloc_below W0 (.cells #[.int .i64 a.kind, .int .i64 a.core, .int .i64 a.obj] 27)
      have HAc := hid (act_new W0 a 27)
      have HBx := hid (HG.out.box.below hb)
      have HHe := hid (HG.out.he.below hb)
      have HLt := hid (fun (W' : World) (b : Below (W0.alloc (.cells #[.int .i64 a.kind, .int .i64 a.core, .int .i64 a.obj] 27)).heap.size (W0.alloc (.cells #[.int .i64 a.kind, .int .i64 a.core, .int .i64 a.obj] 27)) W') => HG.out.lt2 (q_trans hb b))
      have HB1 := hid hb
      have HAn : Hid (W0.heap.size < (W0.alloc (.cells #[.int .i64 a.kind, .int .i64 a.core, .int .i64 a.obj] 27)).heap.size) := by simp [Hid]
      obtain ⟨AB, hAB⟩ : ∃ AB, W0.heap.size = AB := ⟨_, rfl⟩
      rw [hAB] at HAc HAn ⊢
      have HAB := hid hAB
      generalize W0.alloc (.cells #[.int .i64 a.kind, .int .i64 a.core, .int .i64 a.obj] 27) = W1 at HAc HBx HHe HLt HB1 HAn ⊢
      clear hb z0 z1 z2 hAB
      obtain ⟨m, hm⟩ : ∃ m, f.now = m := ⟨_, rfl⟩
      have CA := hid (does_any K z f a (fun i => Av i ∨ i = B) W1 (HLt.out _ (Below.refl _ _)) (sm_ok HG.out.sf.ok) HHe.out)
      obtain ⟨q, hq⟩ : ∃ q, doN f a = q := ⟨_, rfl⟩
      obtain ⟨L, hL⟩ : ∃ L, (doL f a).length = L := ⟨_, rfl⟩
      obtain ⟨d, hd⟩ : ∃ d, doE f a = d := ⟨_, rfl⟩
      obtain ⟨t, ht⟩ : ∃ t, d.now = t := ⟨_, rfl⟩
      rw [hd, hL, hq, hm, ht] at CA
      obtain ⟨dl, hdl⟩ : ∃ dl, doL f a = dl := ⟨_, rfl⟩
      rw [hdl] at CA hL
      have HDn : Hid (d.pins.length = N) := by rw [Hid, ← hd, do_len]; exact HG.out.len
      have HT := hid ht
      obtain ⟨p0, p1, p2, pf⟩ := HBx.out
      rw [hm] at p0
      obtain ⟨c0, c1, c2⟩ := HAc.out
      go_wp2_with fail
      refine CA.out.mono ?_
      rintro r w3 ⟨v, o3, c3, rfl, h3, hl3, b⟩
      have HMo : Hid (Mo w (w3.alloc (.cells #[.int .i64 t, .slice v.p.o v.p.n v.p.c, .slice v.l.o v.l.n v.l.c] 25)) (w3.alloc (.cells #[.int .i64 t, .slice v.p.o v.p.n v.p.c, .slice v.l.o v.l.n v.l.c] 25)).heap.size B w3.heap.size AB m z t v d a Av) := by
        have hb2 := alloc_below w3 (.cells #[.int .i64 t, .slice v.p.o v.p.n v.p.c, .slice v.l.o v.l.n v.l.c] 25)
        have hlB : B < W0.heap.size := HG.out.box.lt
        have hs1 : W1.heap.size ≤ w3.heap.size := b.size
        have hs2 : AB < W1.heap.size := HAn.out
        have hs3 : W0.heap.size = AB := HAB.out
        have hs4 : (w3.alloc (.cells #[.int .i64 t, .slice v.p.o v.p.n v.p.c, .slice v.l.o v.l.n v.l.c] 25)).heap.size = w3.heap.size + 1 := by simp
        have hlw : w.heap.size ≤ W0.heap.size := HG.out.low.size
        have hav := HG.out.lt
        refine ⟨q_trans (q_trans (q_trans HG.out.low HB1.out) b) hb2, Nat.le_refl _, hm ▸ ((HBx.out.below b).below hb2), inE_new w3 t v _, ?_, ?_, (h3.below hb2).new, ?_, ?_, ?_, HG.out.bl, ?_, by omega⟩
        · exact ((q_trans b hb2).cell (p := ⟨AB, 0, none⟩) hs2).trans HAc.out.1
        · exact ((q_trans b hb2).cell (p := ⟨AB, 1, none⟩) hs2).trans HAc.out.2.1
        · rintro (s | s)
          · exact HG.out.nb s
          · omega
        · rintro (s | s)
          · have := hav _ s; omega
          · omega
        · rintro (s | s)
          · have := hav _ s; omega
          · omega
        · rintro i (s | s)
          · exact HG.out.av i s
          · omega
      have HSr : Hid (Sr w.heap.size (w3.alloc (.cells #[.int .i64 t, .slice v.p.o v.p.n v.p.c, .slice v.l.o v.l.n v.l.c] 25)) PB N pd co cn cc (G.map (fun g => g.c)) so sn sc (G.map (fun g => g.see)) hs (fun i => Av i ∨ (w3.alloc (.cells #[.int .i64 t, .slice v.p.o v.p.n v.p.c, .slice v.l.o v.l.n v.l.c] 25)).heap.size ≤ i)) :=
        (((HG.out.r.below HB1.out).below b).below (alloc_below w3 _)).weak (fun i s _ => .inl s)
      have HSf := hid HG.out.sf
      have HFn := hid HG.out.len
      clear CA h3 hl3 b p0 p1 p2 pf c0 c1 c2 HAc HBx HHe HLt HB1 HAn HAB HG
      go_upto_region 14 with fail
      generalize w3.heap.size = X at HMo ⊢
      generalize (w3.alloc (.cells #[.int .i64 t, .slice v.p.o v.p.n v.p.c, .slice v.l.o v.l.n v.l.c] 25)).heap.size = H at HMo HSr
      generalize w3.alloc (.cells #[.int .i64 t, .slice v.p.o v.p.n v.p.c, .slice v.l.o v.l.n v.l.c] 25) = W2 at HMo HSr ⊢
      clear w3 W1 W0
      have hpl : pd.length = N := by rw [HSf.out.pdl]; exact HFn.out
      have HPL := hid hpl
      clear hpl
      by_cases hr1 : 0 ≤ a.core
      · by_cases hr2 : a.core < (N : Int)
        · obtain ⟨k, hk⟩ : ∃ k : Nat, a.core = (k : Int) := ⟨a.core.toNat, by omega⟩
          have j1 : (0 : Int) ≤ (k : Int) := by omega
          have j2 : (k : Int) < (N : Int) := by omega
          have hkN : k < N := by omega
          have HCk := hid hk
          clear hr1 hr2 hk
          by_cases h0 : a.kind = 0
          · have b0 := beq_yes h0
            have b1 : (a.kind == 1) = false := beq_no (by omega)
            have b2 : (a.kind == 2) = false := beq_no (by omega)
            have g1 : decide (a.kind < 0) = false := by simp; omega
            have g2 : decide (3 < a.kind) = false := by simp; omega
            have HD0 : Hid (d = pinA f a.core ∧ q = pinE f a.core) := ⟨by rw [← hd]; simp [doE, h0], by rw [← hq]; simp [doN, h0]⟩
            clear h0 hd hq
            by_cases hq0 : q = 0
            · have b3 := beq_yes hq0
              have HSf2 : Hid (Sf d (pd.set k true) G) := by
                have h := sf_pin HSf.out (c := a.core) (by rw [← HD0.out.2]; exact hq0)
                rw [← HD0.out.1, HCk.out, Int.toNat_natCast] at h
                exact h
              clear hq0
              obtain ⟨u0, uf⟩ := HSr.out.pin_cell (k := k) (by rw [HPL.out]; exact hkN)
              have k0 := HMo.out.k0
              have k1 := HMo.out.k1
              rw [HCk.out] at k1
              go_upto_region 17 with fail
              replace HMo := hid (HMo.out.kept (kept_set (fun i => i = PB) W2 ⟨PB, k, none⟩ (.bool true) rfl) (fun i s => s ▸ HSr.out.aP))
              replace HSr := hid (HSr.out.setpin k true)
              clear u0 uf k0 k1
              generalize W2.setCell ⟨PB, k, none⟩ (.bool true) = W3 at HMo HSr ⊢
              clear W2
              obtain ⟨p0, p1, p2, pf⟩ := HMo.out.box
              obtain ⟨x0, x1, x2, xf⟩ := HMo.out.xb
              have k0 := HMo.out.k0
              have k1 := HMo.out.k1
              rw [HCk.out] at k1
              have hXB : X ≠ B := HMo.out.xB
              have hBX : B ≠ X := fun e => HMo.out.xB e.symm
              obtain ⟨Av', hE⟩ := ss_end (G := G) HMo.out HSr.out rfl rfl HSf2.out HT.out HDn.out
              have HE := hid hE
              clear hE
              go_wp2_with fail
              go_roundw
              case rel => exact ⟨j + 1, v, d, pd.set k true, cn, cc, co, sn, sc, so, G, hs, Av', by omega, rfl, rfl, by go_num, HE, HGl⟩
              case measure => simp [intOf]; omega
            · have b3 := beq_no hq0
              have HSf2 : Hid (Sf d pd G) := sf_same HSf.out (by rw [HD0.out.1]; exact pin_same (by rw [← HD0.out.2]; exact hq0))
              clear hq0
              obtain ⟨p0, p1, p2, pf⟩ := HMo.out.box
              obtain ⟨x0, x1, x2, xf⟩ := HMo.out.xb
              have k0 := HMo.out.k0
              have k1 := HMo.out.k1
              rw [HCk.out] at k1
              have hXB : X ≠ B := HMo.out.xB
              have hBX : B ≠ X := fun e => HMo.out.xB e.symm
              obtain ⟨Av', hE⟩ := ss_end (G := G) HMo.out HSr.out rfl rfl HSf2.out HT.out HDn.out
              have HE := hid hE
              clear hE
              go_wp2_with fail
              go_roundw
              case rel => exact ⟨j + 1, v, d, pd, cn, cc, co, sn, sc, so, G, hs, Av', by omega, rfl, rfl, by go_num, HE, HGl⟩
              case measure => simp [intOf]; omega
          · have b0 := beq_no h0
            by_cases h1' : a.kind = 1
            · have b1 := beq_yes h1'
              have b2 : (a.kind == 2) = false := beq_no (by omega)
              have g1 : decide (a.kind < 0) = false := by simp; omega
              have g2 : decide (3 < a.kind) = false := by simp; omega
              have HD0 : Hid (d = unA f a.core ∧ q = unE f a.core) := ⟨by rw [← hd]; simp [doE, h1'], by rw [← hq]; simp [doN, h1']⟩
              clear h0 h1' hd hq
              by_cases hq0 : q = 0
              · have b3 := beq_yes hq0
                have HSf2 : Hid (Sf d (pd.set k false) (G.map (unsee (k : Int)))) := by
                  have h := sf_un HSf.out (c := a.core) (by rw [← HD0.out.2]; exact hq0)
                  rw [← HD0.out.1, HCk.out, Int.toNat_natCast] at h
                  exact h
                clear hq0
                obtain ⟨u0, uf⟩ := HSr.out.pin_cell (k := k) (by rw [HPL.out]; exact hkN)
                have k0 := HMo.out.k0
                have k1 := HMo.out.k1
                rw [HCk.out] at k1
                go_upto_region 19 with fail
                replace HMo := hid (HMo.out.kept (kept_set (fun i => i = PB) W2 ⟨PB, k, none⟩ (.bool false) rfl) (fun i s => s ▸ HSr.out.aP))
                replace HSr := hid (HSr.out.setpin k false)
                clear u0 uf k0 k1
                generalize W2.setCell ⟨PB, k, none⟩ (.bool false) = W3 at HMo HSr ⊢
                clear W2
                go_wp2_with fail
                have HSn : Hid (sn = G.length) := by have h5 := HSr.out.sn_; rw [List.length_map] at h5; exact h5
                have hsn : sn ≤ 120 := by have := HSn.out; have := HGl0.out; omega
                go_loopw [15] (fun s15 wq => ∃ (i : Nat) (sl : List (List Bool)), i ≤ sn ∧ s15 = .int .i64 i ∧ Hid (Mo w wq H B X AB m z t v d a Av) ∧ Hid (Sr w.heap.size wq PB N (pd.set k false) co cn cc (G.map (fun g => g.c)) so sn sc sl hs (fun i => Av i ∨ H ≤ i)) ∧ Hid (Uns k i (G.map (fun g => g.see)) sl)) (fun s _ => sn - (intOf s).toNat)
                case atStart => exact ⟨0, _, Nat.zero_le _, rfl, HMo, HSr, uns_start _ _⟩
                case round =>
                  clear HMo HSr
                  obtain ⟨i, sl, hi, rfl, HMo, HSr, HU⟩ := hrel
                  by_cases hi2 : i < sn
                  · have j3 : (0 : Int) ≤ (i : Int) := by omega
                    have j4 : (i : Int) < (sn : Int) := by omega
                    have HIs : Hid (i < sl.length) := by rw [Hid, ← HSr.out.sn_]; exact hi2
                    have HIG : Hid (i < G.length) := by rw [Hid, ← HSn.out]; exact hi2
                    obtain ⟨sb, esb, _, _⟩ := own_head HSr.out.sees (by omega)
                    subst esb
                    obtain ⟨_, e2, ch⟩ := (own_row HSr.out.sees).1.cell i _ (hds_at hs i (by rw [HSr.out.hl]; exact HIs.out))
                    cases e2
                    rw [add0] at ch
                    have hEi := HSr.out.each i HIs.out
                    have haE := HSr.out.aE i HIs.out
                    have hst := fun (gb : Nat) (hg : (hs.getD i Hd.zero).o = some ⟨gb, 0, none⟩) => HSr.out.setsee HIs.out hg k false
                    obtain ⟨⟨go, gn, gc⟩, hh⟩ : ∃ h, hs.getD i Hd.zero = h := ⟨_, rfl⟩
                    rw [hh] at ch hEi haE hst
                    replace ch : wr.cell? ⟨sb, i, none⟩ = some (.slice go gn gc) := ch
                    have hlen : (sl.getD i []).length = N := by
                      rw [HU.out.2 i (by simpa using HIG.out), if_neg (by omega), see_len HSf.out HIG.out]
                      exact HFn.out
                    have hgn : gn = N := by have h5 := hEi.1; rw [len_bvals, hlen] at h5; simp only at h5; omega
                    subst hgn
                    obtain ⟨gb, egb, _, _⟩ := own_head hEi (by show 0 < gn; omega)
                    have egb : go = some ⟨gb, 0, none⟩ := egb
                    subst egb
                    obtain ⟨_, e3, cl⟩ := (own_row hEi).1.cell k _ (bvals_at (sl.getD i []) k (by rw [hlen]; exact hkN))
                    cases e3
                    rw [add0] at cl
                    have clf : wr.frozen? ⟨gb, k, none⟩ = false := own_frozen hEi
                    have k1 := HMo.out.k1
                    rw [HCk.out] at k1
                    have HAe := hid (haE gb rfl)
                    have HSt := hid (hst gb rfl)
                    clear hEi haE hst hh hlen
                    go_upto_region 22 with fail
                    go_region
                    all_goals
                      have HM2 := hid ((HMo.out.kept (kept_set (fun i => i = gb) wr ⟨gb, k, none⟩ (.bool false) rfl) (fun i s => s ▸ HAe.out)).below (Below.refl _ _).drew)
                      have HS2 := hid (HSt.out.below (Below.refl _ _).drew)
                      clear ch cl clf k1
                      go_wp2_with fail
                      go_roundw
                      case rel => exact ⟨i + 1, _, by omega, by go_num, HM2, HS2, uns_step HU.out (by simpa using HIG.out)⟩
                      case measure => simp [intOf]; omega
                  · obtain rfl : i = sn := by omega
                    have HGl2 : Hid ((G.map (unsee (k : Int))).length ≤ j + 1) := by rw [Hid, List.length_map]; exact HGl.out
                    obtain ⟨p0, p1, p2, pf⟩ := HMo.out.box
                    obtain ⟨x0, x1, x2, xf⟩ := HMo.out.xb
                    have k0 := HMo.out.k0
                    have k1 := HMo.out.k1
                    rw [HCk.out] at k1
                    have hXB : X ≠ B := HMo.out.xB
                    have hBX : B ≠ X := fun e => HMo.out.xB e.symm
                    obtain ⟨Av', hE⟩ := ss_end (G := (G.map (unsee (k : Int)))) HMo.out HSr.out (by rw [List.map_map]; rfl) (uns_end HU.out (by rw [← HSn.out]; exact Nat.le_refl _)) HSf2.out HT.out HDn.out
                    have HE := hid hE
                    clear hE
                    go_wp2_with fail
                    go_roundw
                    case rel => exact ⟨j + 1, v, d, pd.set k false, cn, cc, co, i, sc, so, (G.map (unsee (k : Int))), hs, Av', by omega, rfl, rfl, by go_num, HE, HGl2⟩
                    case measure => simp [intOf]; omega
              · have b3 := beq_no hq0
                have HSf2 : Hid (Sf d pd G) := sf_same HSf.out (by rw [HD0.out.1]; exact un_same (by rw [← HD0.out.2]; exact hq0))
                clear hq0
                obtain ⟨p0, p1, p2, pf⟩ := HMo.out.box
                obtain ⟨x0, x1, x2, xf⟩ := HMo.out.xb
                have k0 := HMo.out.k0
                have k1 := HMo.out.k1
                rw [HCk.out] at k1
                have hXB : X ≠ B := HMo.out.xB
                have hBX : B ≠ X := fun e => HMo.out.xB e.symm
                obtain ⟨Av', hE⟩ := ss_end (G := G) HMo.out HSr.out rfl rfl HSf2.out HT.out HDn.out
                have HE := hid hE
                clear hE
                go_wp2_with fail
                go_roundw
                case rel => exact ⟨j + 1, v, d, pd, cn, cc, co, sn, sc, so, G, hs, Av', by omega, rfl, rfl, by go_num, HE, HGl⟩
                case measure => simp [intOf]; omega
            · have b1 := beq_no h1'
              by_cases h2' : a.kind = 2
              · have b2 := beq_yes h2'
                have g1 : decide (a.kind < 0) = false := by simp; omega
                have g2 : decide (3 < a.kind) = false := by simp; omega
                have HD0 : Hid (d = reA f a.core a.obj ∧ q = reE f a.core a.obj) := ⟨by rw [← hd]; simp [doE, h2'], by rw [← hq]; simp [doN, h2']⟩
                clear h0 h1' h2' hd hq
                by_cases hq0 : q = 0
                · have b3 := beq_yes hq0
                  have HSf2 : Hid (Sf d pd (G ++ [⟨(k : Int), f.now, pd⟩])) := by
                    have h := sf_re HSf.out (c := a.core) (o := a.obj) (by rw [← HD0.out.2]; exact hq0)
                    rw [← HD0.out.1, HCk.out] at h
                    exact h
                  clear hq0
                  have k0 := HMo.out.k0
                  have k1 := HMo.out.k1
                  rw [HCk.out] at k1
                  obtain ⟨i0', hi', hz0', hz1', hz2'⟩ := info_of infoN
                  have HI := hid hi'
                  have HZ0 := hid hz0'
                  have HZ1 := hid hz1'
                  have HZ2 := hid hz2'
                  clear hi' hz0' hz1' hz2'
                  have HCn : Hid (cn = G.length) := by have h5 := HSr.out.cn_; rw [List.length_map] at h5; exact h5
                  have HSn : Hid (sn = G.length) := by have h5 := HSr.out.sn_; rw [List.length_map] at h5; exact h5
                  have hcn : cn ≤ 120 := by have := HCn.out; have := HGl0.out; omega
                  have hsn : sn ≤ 120 := by have := HSn.out; have := HGl0.out; omega
                  have HOa := hid (own_below HSr.out.core (alloc_below W2 (.cells #[.int .i64 (k : Int)] 3)))
                  have HNw : Hid (∀ j u, (vals [(k : Int)])[j]? = some u → (W2.alloc (.cells #[.int .i64 (k : Int)] 3)).cell? ((⟨W2.heap.size, 0, none⟩ : Addr).add j) = some u) := fun j u hu => by
                    obtain ⟨a', e', h'⟩ := (one_int W2 (k : Int) 3).cell j u hu
                    cases e'
                    exact h'
                  have HBs : Hid (w.heap.size ≤ (W2.alloc (.cells #[.int .i64 (k : Int)] 3)).heap.size) := (q_alloc HMo.out.low _).size
                  go_wp2_with (at_builtin; go_loud (refine wpList_append_lies _ rfl (.tmp 109) (.tmp 112) 30 rfl w.heap.size 3 i0' _ 1 8 Try.underlying30 HI.out HZ0.out HZ1.out HZ2.out rfl (by decide) (.slice co cn cc) cn (vals (G.map (fun g => g.c))) rfl HOa.out ⟨W2.heap.size, 0, none⟩ 1 1 (vals [(k : Int)]) rfl rfl HNw.out (vals_one _) (by decide) (by unfold maxLen; omega) (by omega) HBs.out _ rfl ?_; intro g1 cap1 w5 own5 grow5 hat5 hlt5; apply Hid.out))
                  have HM1 := hid ((HMo.out.below (alloc_below W2 (.cells #[.int .i64 (k : Int)] 3))).kept (kept_grown grow5) (fun i s => HSr.out.aC i s.symm))
                  have HS1 := hid ((HSr.out.below (alloc_below W2 (.cells #[.int .i64 (k : Int)] 3))).moreC own5 grow5 hat5 (.inr (Nat.le_trans HMo.out.sz (alloc_below W2 _).size)))
                  clear own5 grow5 hat5 hlt5 HOa HNw HBs HI HZ0 HZ1 HZ2 k0 k1 HMo HSr
                  unfold Hid
                  have HRp := hid ((own_row HS1.out.pin).1.below (alloc_below w5 (.cells #[] 4)))
                  have HPl : Hid ((bvals pd).length = N * 1) := by rw [Hid, len_bvals, HPL.out]; omega
                  go_wp2_with (at_builtin; go_loud (refine wpList_append_row _ rfl (.tmp 115) (.tmp 116) 45 4 _ 1 1 rfl Try.underlying45 infoB rfl (by decide) (by decide) w5.heap.size _ 0 [] rfl (own0 w5 4 1) (some ⟨PB, 0, none⟩) N N (bvals pd) rfl HPl.out (fun h => by cases h) HRp.out (bvals_one _) (by omega) (alloc_below w5 _).size ?_; intro ao6 cap6 w6 own6 grow6; apply Hid.out))
                  rw [Nat.zero_add, List.nil_append] at own6
                  have b6 := app_below grow6
                  have HX6 := hid own6
                  have HM2 := hid (HM1.out.below b6)
                  have HS2 := hid (HS1.out.below b6)
                  have HX5 : Hid (∀ q, (Value.slice ao6 N cap6).ownBlock = some q → w5.heap.size ≤ q) := fun q eq => (own6.lt q eq).1
                  have HPb : Hid (PB < w5.heap.size ∧ H ≤ w5.heap.size) := ⟨(HS1.out.pin.lt PB rfl).2, HM1.out.sz⟩
                  have HEb := hid (fun k hk q (eq : (hs.getD k Hd.zero).v.ownBlock = some q) => ((HS1.out.each k hk).lt q eq).2)
                  clear own6 grow6 b6 HRp HPl HM1 HS1
                  unfold Hid
                  obtain ⟨i1', hi', hz0', hz1', hz2'⟩ := info_of infoBs
                  have HI := hid hi'
                  have HZ0 := hid hz0'
                  have HZ1 := hid hz1'
                  have HZ2 := hid hz2'
                  clear hi' hz0' hz1' hz2'
                  have HOa := hid (own_below HS2.out.sees (alloc_below w6 (.cells #[.slice ao6 N cap6] 45)))
                  have HNw : Hid (∀ j u, (hds [⟨ao6, N, cap6⟩])[j]? = some u → (w6.alloc (.cells #[.slice ao6 N cap6] 45)).cell? ((⟨w6.heap.size, 0, none⟩ : Addr).add j) = some u) := fun j u hu => by
                    obtain ⟨a', e', h'⟩ := (one_hd2 w6 ⟨ao6, N, cap6⟩ 45).cell j u hu
                    cases e'
                    exact h'
                  have HBs : Hid (w.heap.size ≤ (w6.alloc (.cells #[.slice ao6 N cap6] 45)).heap.size) := (q_alloc HM2.out.low _).size
                  go_wp2_with (at_builtin; go_loud (refine wpList_append_lies _ rfl (.tmp 114) (.tmp 118) 46 rfl w.heap.size 45 i1' _ 1 24 Try.underlying46 HI.out HZ0.out HZ1.out HZ2.out rfl (by decide) (.slice so sn sc) sn (hds hs) rfl HOa.out ⟨w6.heap.size, 0, none⟩ 1 1 (hds [⟨ao6, N, cap6⟩]) rfl rfl HNw.out (hds_one _) (by decide) (by unfold maxLen; omega) (by omega) HBs.out _ rfl ?_; intro g7 cap7 w7 own7 grow7 hat7 hlt7; apply Hid.out))
                  have HMo := hid ((HM2.out.below (alloc_below w6 (.cells #[.slice ao6 N cap6] 45))).kept (kept_grown grow7) (fun i s => HS2.out.aS i s.symm))
                  have HSr : Hid (Sr w.heap.size w7 PB N pd (some ⟨g1, 0, none⟩) (cn + 1) cap1 (G.map (fun g => g.c) ++ [(k : Int)]) (some ⟨g7, 0, none⟩) (sn + 1) cap7 (G.map (fun g => g.see) ++ [pd]) (hs ++ [⟨ao6, N, cap6⟩]) (fun i => Av i ∨ H ≤ i)) := by
                    refine (HS2.out.below (alloc_below w6 (.cells #[.slice ao6 N cap6] 45))).moreS (x := ⟨ao6, N, cap6⟩) (own_base (own_below HX6.out (alloc_below w6 _)) (fun q eq => ?_)) (fun q eq => ⟨.inr (Nat.le_trans HPb.out.2 (HX5.out q eq)), ?_, fun k' hk' e2 => ?_⟩) own7 grow7 hat7 (.inr (Nat.le_trans HM2.out.sz (alloc_below w6 _).size))
                    · exact HM2.out.av q (.inr (Nat.le_trans HPb.out.2 (HX5.out q eq)))
                    · have := HX5.out q eq
                      have := HPb.out.1
                      omega
                    · have := HX5.out q eq
                      have := HEb.out k' hk' q e2
                      omega
                  have HGl2 : Hid ((G ++ [(⟨(k : Int), f.now, pd⟩ : En)]).length ≤ j + 1) := by rw [Hid, List.length_append]; have := HGl0.out; simp; omega
                  clear own7 grow7 hat7 hlt7 HOa HNw HBs HI HZ0 HZ1 HZ2 HM2 HS2 HX6 HX5 HPb HEb
                  unfold Hid
                  obtain ⟨p0, p1, p2, pf⟩ := HMo.out.box
                  obtain ⟨x0, x1, x2, xf⟩ := HMo.out.xb
                  have k0 := HMo.out.k0
                  have k1 := HMo.out.k1
                  rw [HCk.out] at k1
                  have hXB : X ≠ B := HMo.out.xB
                  have hBX : B ≠ X := fun e => HMo.out.xB e.symm
                  obtain ⟨Av', hE⟩ := ss_end (G := (G ++ [⟨(k : Int), f.now, pd⟩])) HMo.out HSr.out (by simp) (by simp) HSf2.out HT.out HDn.out
                  have HE := hid hE
                  clear hE
                  go_wp2_with fail
                  go_roundw
                  case rel => exact ⟨j + 1, v, d, pd, cn + 1, cap1, some ⟨g1, 0, none⟩, sn + 1, cap7, some ⟨g7, 0, none⟩, (G ++ [⟨(k : Int), f.now, pd⟩]), (hs ++ [⟨ao6, N, cap6⟩]), Av', by omega, rfl, rfl, by go_num, HE, HGl2⟩
                  case measure => simp [intOf]; omega
                · have b3 := beq_no hq0
                  have HSf2 : Hid (Sf d pd G) := sf_same HSf.out (by rw [HD0.out.1]; exact re_same (by rw [← HD0.out.2]; exact hq0))
                  clear hq0
                  obtain ⟨p0, p1, p2, pf⟩ := HMo.out.box
                  obtain ⟨x0, x1, x2, xf⟩ := HMo.out.xb
                  have k0 := HMo.out.k0
                  have k1 := HMo.out.k1
                  rw [HCk.out] at k1
                  have hXB : X ≠ B := HMo.out.xB
                  have hBX : B ≠ X := fun e => HMo.out.xB e.symm
                  obtain ⟨Av', hE⟩ := ss_end (G := G) HMo.out HSr.out rfl rfl HSf2.out HT.out HDn.out
                  have HE := hid hE
                  clear hE
                  go_wp2_with fail
                  go_roundw
                  case rel => exact ⟨j + 1, v, d, pd, cn, cc, co, sn, sc, so, G, hs, Av', by omega, rfl, rfl, by go_num, HE, HGl⟩
                  case measure => simp [intOf]; omega
              · have b2 := beq_no h2'
                by_cases h3' : a.kind = 3
                · have g1 : decide (a.kind < 0) = false := by simp; omega
                  have g2 : decide (3 < a.kind) = false := by simp; omega
                  have HSf2 : Hid (Sf d pd G) := by
                    rw [Hid, ← hd]
                    simp only [doE, h3']
                    exact sf_ad HSf.out
                  clear h0 h1' h2' h3' hd hq
                  obtain ⟨p0, p1, p2, pf⟩ := HMo.out.box
                  obtain ⟨x0, x1, x2, xf⟩ := HMo.out.xb
                  have k0 := HMo.out.k0
                  have k1 := HMo.out.k1
                  rw [HCk.out] at k1
                  have hXB : X ≠ B := HMo.out.xB
                  have hBX : B ≠ X := fun e => HMo.out.xB e.symm
                  obtain ⟨Av', hE⟩ := ss_end (G := G) HMo.out HSr.out rfl rfl HSf2.out HT.out HDn.out
                  have HE := hid hE
                  clear hE
                  go_wp2_with fail
                  go_roundw
                  case rel => exact ⟨j + 1, v, d, pd, cn, cc, co, sn, sc, so, G, hs, Av', by omega, rfl, rfl, by go_num, HE, HGl⟩
                  case measure => simp [intOf]; omega
                · have HD0 : Hid (d = rpA f a.core ∧ L = (rpL f a.core).length) := ⟨by rw [← hd]; simp [doE, h0, h1', h2', h3'], by rw [← hL, ← hdl]; simp [doL, h0, h1', h2', h3']⟩
                  by_cases h4' : a.kind < 0
                  · have g1 : decide (a.kind < 0) = true := by simp; omega
                    clear h0 h1' h2' h3' h4' hd hq
                    have hco : coB f (k : Int) = true := co_iff.2 ⟨HSf.out.ok, by omega, by rw [HFn.out]; exact j2⟩
                    have HLr : Hid (L = ((limOf f (k : Int)).filter (goes f)).length) := by rw [Hid, HD0.out.2, HCk.out]; exact len_rpL hco
                    have HDr : Hid (d = rpA f (k : Int)) := by rw [Hid, HD0.out.1, HCk.out]
                    have HL8 : Hid (L ≤ 8) := by
                      rw [Hid, HLr.out]
                      exact Nat.le_trans (List.length_filter_le _ _) (okL_iff.1 (okL_at hco)).1
                    have hL8 : L ≤ 8 := HL8.out
                    have HR0 := hid (rp_start HSf.out (c := (k : Int)) ⟨by omega, by rw [HFn.out]; exact j2⟩)
                    clear hco
                    have k0 := HMo.out.k0
                    have k1 := HMo.out.k1
                    rw [HCk.out] at k1
                    go_wp2_with fail
                    clear k0 k1
                    go_loopw [8, 9, 16] (fun s8 s9 s16 wq => ∃ (i : Nat) (G' : List En) (cn cc : Nat) (co : Option Addr) (sn sc : Nat) (so : Option Addr) (hs : List Hd), i ≤ L ∧ s8 = .slice co cn cc ∧ s9 = .slice so sn sc ∧ s16 = .int .i64 i ∧ Hid (Mo w wq H B X AB m z t v d a Av) ∧ Hid (Sr w.heap.size wq PB N pd co cn cc (G'.map (fun g => g.c)) so sn sc (G'.map (fun g => g.see)) hs (fun i => Av i ∨ H ≤ i)) ∧ Hid (Rp f pd (k : Int) i G') ∧ Hid (G'.length ≤ j)) (fun _ _ s _ => L - (intOf s).toNat)
                    case atStart => exact ⟨0, G, cn, cc, co, sn, sc, so, hs, Nat.zero_le _, rfl, rfl, rfl, HMo, HSr, HR0, HGl0⟩
                    case round =>
                      clear HMo HSr HR0
                      obtain ⟨i, G', cn, cc, co, sn, sc, so, hs, hi, rfl, rfl, rfl, HMo, HSr, HRp, HGq⟩ := hrel
                      by_cases hi2 : i < L
                      · have j3 : (i : Int) < (L : Int) := by omega
                        obtain ⟨g, q1, q2, q3, q4, q5⟩ := rp_step HRp.out (by rw [← HLr.out]; exact hi2)
                        have HOth := hid (fun r hr g' hg' => first_other (c := (k : Int)) (G := G') (i := r) hr g' hg')
                        obtain ⟨p, hp⟩ : ∃ p, firstAt (k : Int) G' = p := ⟨_, rfl⟩
                        rw [hp] at q1 q3 q5 HOth
                        have HQ1 := hid q1
                        have HQ2 := hid q2
                        have HQ4 := hid q4
                        have HQ5 := hid q5
                        have HQ3 := hid q3
                        have HCn : Hid (cn = G'.length) := by have h5 := HSr.out.cn_; rw [List.length_map] at h5; exact h5
                        have HSn : Hid (sn = G'.length) := by have h5 := HSr.out.sn_; rw [List.length_map] at h5; exact h5
                        have hpc : p < cn := by rw [HCn.out]; exact q3
                        have hps : p < sn := by rw [HSn.out]; exact q3
                        have hcn : cn ≤ 120 := by have := HCn.out; have := HGq.out; omega
                        have hsn : sn ≤ 120 := by have := HSn.out; have := HGq.out; omega
                        clear q1 q2 q3 q4 q5 hp
                        obtain ⟨cb, ecb, _, _⟩ := own_head HSr.out.core (by omega)
                        subst ecb
                        obtain ⟨sb, esb, _, _⟩ := own_head HSr.out.sees (by omega)
                        subst esb
                        obtain ⟨W6, rfl⟩ : ∃ W6, W6 = wr := ⟨_, rfl⟩
                        have HCell : Hid (∀ r, r < cn → ∃ x, W6.cell? ⟨cb, r, none⟩ = some (.int .i64 x) ∧ ∃ g', G'[r]? = some g' ∧ g'.c = x) := by
                          intro r hr
                          have hr2 : r < G'.length := by rw [← HCn.out]; exact hr
                          obtain ⟨_, e2, ch⟩ := (own_row HSr.out.core).1.cell r _ (vals_at (G'.map (fun g => g.c)) r (by simpa using hr2))
                          cases e2
                          rw [add0] at ch
                          exact ⟨_, ch, G'[r], by simp [hr2], by simp [List.getD, hr2]⟩
                        go_wp2_with fail
                        go_loopw [17] (fun s17 wq => ∃ r : Nat, r ≤ p ∧ s17 = .int .i64 r ∧ ∃ nd, wq = W6.drewN nd) (fun s _ => p - (intOf s).toNat)
                        case atStart => exact ⟨0, Nat.zero_le _, rfl, 0, rfl⟩
                        case round =>
                          obtain ⟨r, hr, rfl, nd, rfl⟩ := hrel
                          have r1 : (0 : Int) ≤ (r : Int) := by omega
                          have r2 : (r : Int) < (cn : Int) := by omega
                          obtain ⟨x, cx, g', hg', hx⟩ := HCell.out r (by omega)
                          have k1 := HMo.out.k1
                          rw [HCk.out] at k1
                          by_cases hrp : r < p
                          · have hne : ¬ x = (k : Int) := by rw [← hx]; exact HOth.out r hrp g' hg'
                            have e1 := bne_yes hne
                            clear hne hx hg'
                            go_wp2_with fail
                            go_quiet (fail)
                            go_wp2
                            go_roundw
                            case rel => exact ⟨r + 1, by omega, by go_num, _, rfl⟩
                            case measure => simp [intOf]; omega
                          · obtain rfl : r = p := by omega
                            have hxe : x = (k : Int) := by
                              have h5 := HQ1.out
                              rw [hg'] at h5
                              cases h5
                              rw [← hx]
                              exact HQ2.out
                            have e1 := bne_no hxe
                            have e2 : ((r : Int) == (cn : Int)) = false := beq_no (by omega)
                            clear hx hg' hrp
                            go_wp2_with fail
                            go_quiet (fail)
                            go_wp2_with fail
                            have HM7 := hid (HMo.out.below (q_drewN (Below.refl _ W6) (nd + nq)))
                            have HS7 := hid (HSr.out.below (q_drewN (Below.refl _ W6) (nd + nq)))
                            obtain ⟨W7, hW7⟩ : ∃ W7, W6.drewN (nd + nq) = W7 := ⟨_, rfl⟩
                            rw [hW7] at HM7 HS7 ⊢
                            clear hW7 cx k1 e1 hxe
                            have HRl : Hid (r < (G'.map (fun g => g.see)).length) := by rw [Hid, List.length_map]; exact HQ3.out
                            obtain ⟨_, e5, ch⟩ := (own_row HS7.out.sees).1.cell r _ (hds_at hs r (by rw [HS7.out.hl]; exact HRl.out))
                            cases e5
                            rw [add0] at ch
                            have hEi := HS7.out.each r HRl.out
                            obtain ⟨⟨go, gn, gc⟩, hh⟩ : ∃ h, hs.getD r Hd.zero = h := ⟨_, rfl⟩
                            rw [hh, map_get G' (fun g => g.see) [] HQ1.out] at hEi
                            rw [hh] at ch
                            replace ch : W7.cell? ⟨sb, r, none⟩ = some (.slice go gn gc) := ch
                            have hgs : g.see.length = N := by rw [HRp.out.seel g (List.mem_of_getElem? HQ1.out)]; exact HFn.out
                            have hgn : gn = N := by have h5 := hEi.1; rw [len_bvals, hgs] at h5; simp only at h5; omega
                            subst hgn
                            obtain ⟨gb, egb, _, _⟩ := own_head hEi (by show 0 < gn; omega)
                            have egb : go = some ⟨gb, 0, none⟩ := egb
                            subst egb
                            have HBl : Hid (∀ r2, r2 < gn → W7.cell? ⟨gb, r2, none⟩ = some (.bool false)) := by
                              intro r2 hr2
                              obtain ⟨_, e6, cl⟩ := (own_row hEi).1.cell r2 _ (bvals_at g.see r2 (by rw [hgs]; exact hr2))
                              cases e6
                              rw [add0, HQ4.out r2 (by rw [HFn.out]; exact hr2)] at cl
                              exact cl
                            clear hEi hh hgs
                            go_wp2_with fail
                            go_loopw [18] (fun s18 wq => ∃ r2 : Nat, r2 ≤ gn ∧ s18 = .int .i64 r2 ∧ wq = W7) (fun s _ => gn - (intOf s).toNat)
                            case atStart => exact ⟨0, Nat.zero_le _, rfl, rfl⟩
                            case round =>
                              obtain ⟨r2, hr2, rfl, hw7⟩ := hrel
                              rw [hw7]
                              clear hw7
                              by_cases hr3 : r2 < gn
                              · have s1 : (0 : Int) ≤ (r2 : Int) := by omega
                                have s2 : (r2 : Int) < (gn : Int) := by omega
                                have s3 : (r : Int) < (sn : Int) := by omega
                                have cl := HBl.out r2 hr3
                                go_wp2_with fail
                                go_roundw
                                case rel => exact ⟨r2 + 1, by omega, by go_num, by first | exact rfl | trivial⟩
                                case measure => simp [intOf]; omega
                              · obtain rfl : r2 = gn := by omega
                                have HIR : Hid (Row W7 (some ⟨cb, 0, none⟩) (vals (G'.map (fun g => g.c))) ∧ cn ≤ cc) := ⟨(own_row HS7.out.core).1, (own_row HS7.out.core).2.1⟩
                                have HIL : Hid ((vals (G'.map (fun g => g.c))).length = cn) := by rw [Hid, len_vals, List.length_map]; exact HCn.out.symm
                                have HIO := hid (vals_one (G'.map (fun g => g.c)))
                                have hwr : IntKind.i64.wrap ((r : Int) + 1) = (r : Int) + 1 := by rw [IntKind.wrap_i64]; omega
                                clear ch
                                obtain ⟨Io, Im, Ic, hIm, hIr, hIrun⟩ := cutI (some ⟨cb, 0, none⟩) cn cc r (by omega)
                                have IrunT := runI_to (some ⟨cb, 0, none⟩) r cn cc (by have := HIR.out.2; omega)
                                have HID := hid (fun (V : World) (h : Row V (some ⟨cb, 0, none⟩) (vals (G'.map (fun g => g.c)))) => hIr V (vals (G'.map (fun g => g.c))) h (fun e => by cases e) HIL.out HIR.out.2)
                                obtain ⟨IN, hIN⟩ : ∃ x, r + Im = x := ⟨_, rfl⟩
                                have HIN := hid hIN
                                have HIm := hid hIm
                                have IN120 : IN ≤ 120 := by omega
                                clear hIr hIm hIN
                                go_upto_region 40 with fail
                                go_region_held3 (fun _ => True) (exact trivial)
                                  (first
                                    | (refine step_row _ (by rfl) (.tmp 165) (.tmp 168) 30 3 _ 8 (by rfl) Try.underlying30 infoN (by rfl) (by decide) W7.heap.size _ 0 [] (by rfl) ((own0 W7 3 1).drew) (some ⟨cb, 0, none⟩) r cc ((vals (G'.map (fun g => g.c))).take r) (by rfl) (by rw [List.length_take, HIL.out]; omega) (fun h => by cases h) ((row_take HIR.out.1 r).below ((alloc_below W7 _).drew)) (fun u hu => HIO.out u (List.mem_of_mem_take hu)) r (by omega) ((vals (G'.map (fun g => g.c))).take r) (by rfl) (by omega) (by simp) ?_; intro Ia Ib Iw Iown Igrow; have Ibel := grow_below ((alloc_below W7 _).drew) Igrow (Nat.le_refl _))
                                    | (refine step_row _ (by rfl) (.tmp 169) (.tmp 173) 30 3 _ 8 (by rfl) Try.underlying30 infoN (by rfl) (by decide) W7.heap.size _ r ((vals (G'.map (fun g => g.c))).take r) (by rfl) Iown Io Im Ic ((vals (G'.map (fun g => g.c))).drop (r + 1)) (by rfl) (by rw [List.length_drop, HIL.out]; exact HIm.out.symm) ((HID.out _ (HIR.out.1.below Ibel)).2) ((HID.out _ (HIR.out.1.below Ibel)).1) (fun u hu => HIO.out u (List.mem_of_mem_drop hu)) IN HIN.out ((vals (G'.map (fun g => g.c))).eraseIdx r) (erase_cut _ _) (by omega) Ibel.size ?_; intro Ia2 Ib2 Iw2 Iown2 Igrow2; have Ibel2 := Ibel.grown Igrow2 Ibel.size (fun k e => (Iown.lt k e).1)))
                                have HIW := hid Iown2
                                have HIB := hid Ibel2
                                clear Iown Igrow Ibel Iown2 Igrow2 Ibel2 Iw hIrun IrunT
                                have HM8 := hid (HM7.out.below HIB.out)
                                have HS8 := hid ((HS7.out.below HIB.out).newC (cs' := (G'.eraseIdx r).map (fun g => g.c)) (by rw [erase_map, show vals ((G'.map (fun g => g.c)).eraseIdx r) = (vals (G'.map (fun g => g.c))).eraseIdx r from erase_map _ _ _]; exact HIW.out) HM7.out.low.size (fun i hi => .inr (Nat.le_trans HM7.out.sz hi)))
                                clear HIW HIR HIO HID HIN HIm HIL HM7 HS7
                                have HBR : Hid (Row Iw2 (some ⟨sb, 0, none⟩) (hds hs) ∧ sn ≤ sc) := ⟨(own_row HS8.out.sees).1, (own_row HS8.out.sees).2.1⟩
                                have HBL : Hid ((hds hs).length = sn) := by rw [Hid, len_hds, HS8.out.hl, List.length_map]; exact HSn.out.symm
                                have HBO := hid (hds_one hs)
                                obtain ⟨Bo, Bm, Bc, hBm, hBr, hBrun⟩ := cutB (some ⟨sb, 0, none⟩) sn sc r (by omega)
                                have BrunT := runB_to (some ⟨sb, 0, none⟩) r sn sc (by have := HBR.out.2; omega)
                                have HBD := hid (fun (V : World) (h : Row V (some ⟨sb, 0, none⟩) (hds hs)) => hBr V (hds hs) h (fun e => by cases e) HBL.out HBR.out.2)
                                obtain ⟨BN, hBN⟩ : ∃ x, r + Bm = x := ⟨_, rfl⟩
                                have HBN := hid hBN
                                have HBm := hid hBm
                                have BN120 : BN ≤ 120 := by omega
                                clear hBr hBm hBN
                                go_upto_region 41 with fail
                                go_region_held3 (fun _ => True) (exact trivial)
                                  (first
                                    | (refine step_row _ (by rfl) (.tmp 175) (.tmp 178) 46 45 _ 24 (by rfl) Try.underlying46 infoBs (by rfl) (by decide) Iw2.heap.size _ 0 [] (by rfl) ((own0 Iw2 45 1).drew) (some ⟨sb, 0, none⟩) r sc ((hds hs).take r) (by rfl) (by rw [List.length_take, HBL.out]; omega) (fun h => by cases h) ((row_take HBR.out.1 r).below ((alloc_below Iw2 _).drew)) (fun u hu => HBO.out u (List.mem_of_mem_take hu)) r (by omega) ((hds hs).take r) (by rfl) (by omega) (by simp) ?_; intro Ba Bb Bw Bown Bgrow; have Bbel := grow_below ((alloc_below Iw2 _).drew) Bgrow (Nat.le_refl _))
                                    | (refine step_row _ (by rfl) (.tmp 179) (.tmp 183) 46 45 _ 24 (by rfl) Try.underlying46 infoBs (by rfl) (by decide) Iw2.heap.size _ r ((hds hs).take r) (by rfl) Bown Bo Bm Bc ((hds hs).drop (r + 1)) (by rfl) (by rw [List.length_drop, HBL.out]; exact HBm.out.symm) ((HBD.out _ (HBR.out.1.below Bbel)).2) ((HBD.out _ (HBR.out.1.below Bbel)).1) (fun u hu => HBO.out u (List.mem_of_mem_drop hu)) BN HBN.out ((hds hs).eraseIdx r) (erase_cut _ _) (by omega) Bbel.size ?_; intro Ba2 Bb2 Bw2 Bown2 Bgrow2; have Bbel2 := Bbel.grown Bgrow2 Bbel.size (fun k e => (Bown.lt k e).1)))
                                have HBW := hid Bown2
                                have HBB := hid Bbel2
                                clear Bown Bgrow Bbel Bown2 Bgrow2 Bbel2 Bw hBrun BrunT
                                have HM9 := hid (HM8.out.below HBB.out)
                                have HS9 := hid ((HS8.out.below HBB.out).newS HRl.out (by rw [show hds (hs.eraseIdx r) = (hds hs).eraseIdx r from erase_map _ _ _]; exact HBW.out) HM8.out.low.size (fun i hi => .inr (Nat.le_trans HM8.out.sz hi)))
                                rw [← erase_map] at HS9
                                have HGe : Hid ((G'.eraseIdx r).length ≤ j) := Nat.le_trans (List.length_eraseIdx_le G' r) HGq.out
                                clear HBW HBR HBO HBD HBN HBm HBL HM8 HS8
                                go_wp2_with fail
                                go_roundw
                                case rel => exact ⟨i + 1, G'.eraseIdx r, IN, Ib2, Ia2, BN, Bb2, Ba2, hs.eraseIdx r, by omega, rfl, rfl, by go_num, HM9, HS9, HQ5, HGe⟩
                                case measure => simp [intOf]; omega
                      · obtain rfl : i = L := by omega
                        have HSf2 : Hid (Sf d pd G') := by
                          have h := HRp.out
                          rw [HLr.out] at h
                          rw [Hid, HDr.out]
                          exact rp_end h
                        have HGl2 : Hid (G'.length ≤ j + 1) := Nat.le_succ_of_le HGq.out
                        obtain ⟨p0, p1, p2, pf⟩ := HMo.out.box
                        obtain ⟨x0, x1, x2, xf⟩ := HMo.out.xb
                        have k0 := HMo.out.k0
                        have k1 := HMo.out.k1
                        rw [HCk.out] at k1
                        have hXB : X ≠ B := HMo.out.xB
                        have hBX : B ≠ X := fun e => HMo.out.xB e.symm
                        obtain ⟨Av', hE⟩ := ss_end (G := G') HMo.out HSr.out rfl rfl HSf2.out HT.out HDn.out
                        have HE := hid hE
                        clear hE
                        go_wp2_with fail
                        go_roundw
                        case rel => exact ⟨j + 1, v, d, pd, cn, cc, co, sn, sc, so, G', hs, Av', by omega, rfl, rfl, by go_num, HE, HGl2⟩
                        case measure => simp [intOf]; omega
                  · have g1 : decide (a.kind < 0) = false := by simp; omega
                    have g2 : decide (3 < a.kind) = true := by simp; omega
                    clear h0 h1' h2' h3' h4' hd hq
                    have hco : coB f (k : Int) = true := co_iff.2 ⟨HSf.out.ok, by omega, by rw [HFn.out]; exact j2⟩
                    have HLr : Hid (L = ((limOf f (k : Int)).filter (goes f)).length) := by rw [Hid, HD0.out.2, HCk.out]; exact len_rpL hco
                    have HDr : Hid (d = rpA f (k : Int)) := by rw [Hid, HD0.out.1, HCk.out]
                    have HL8 : Hid (L ≤ 8) := by
                      rw [Hid, HLr.out]
                      exact Nat.le_trans (List.length_filter_le _ _) (okL_iff.1 (okL_at hco)).1
                    have hL8 : L ≤ 8 := HL8.out
                    have HR0 := hid (rp_start HSf.out (c := (k : Int)) ⟨by omega, by rw [HFn.out]; exact j2⟩)
                    clear hco
                    have k0 := HMo.out.k0
                    have k1 := HMo.out.k1
                    rw [HCk.out] at k1
                    go_wp2_with fail
                    clear k0 k1
                    go_loopw [8, 9, 16] (fun s8 s9 s16 wq => ∃ (i : Nat) (G' : List En) (cn cc : Nat) (co : Option Addr) (sn sc : Nat) (so : Option Addr) (hs : List Hd), i ≤ L ∧ s8 = .slice co cn cc ∧ s9 = .slice so sn sc ∧ s16 = .int .i64 i ∧ Hid (Mo w wq H B X AB m z t v d a Av) ∧ Hid (Sr w.heap.size wq PB N pd co cn cc (G'.map (fun g => g.c)) so sn sc (G'.map (fun g => g.see)) hs (fun i => Av i ∨ H ≤ i)) ∧ Hid (Rp f pd (k : Int) i G') ∧ Hid (G'.length ≤ j)) (fun _ _ s _ => L - (intOf s).toNat)
                    case atStart => exact ⟨0, G, cn, cc, co, sn, sc, so, hs, Nat.zero_le _, rfl, rfl, rfl, HMo, HSr, HR0, HGl0⟩
                    case round =>
                      clear HMo HSr HR0
                      obtain ⟨i, G', cn, cc, co, sn, sc, so, hs, hi, rfl, rfl, rfl, HMo, HSr, HRp, HGq⟩ := hrel
                      by_cases hi2 : i < L
                      · have j3 : (i : Int) < (L : Int) := by omega
                        obtain ⟨g, q1, q2, q3, q4, q5⟩ := rp_step HRp.out (by rw [← HLr.out]; exact hi2)
                        have HOth := hid (fun r hr g' hg' => first_other (c := (k : Int)) (G := G') (i := r) hr g' hg')
                        obtain ⟨p, hp⟩ : ∃ p, firstAt (k : Int) G' = p := ⟨_, rfl⟩
                        rw [hp] at q1 q3 q5 HOth
                        have HQ1 := hid q1
                        have HQ2 := hid q2
                        have HQ4 := hid q4
                        have HQ5 := hid q5
                        have HQ3 := hid q3
                        have HCn : Hid (cn = G'.length) := by have h5 := HSr.out.cn_; rw [List.length_map] at h5; exact h5
                        have HSn : Hid (sn = G'.length) := by have h5 := HSr.out.sn_; rw [List.length_map] at h5; exact h5
                        have hpc : p < cn := by rw [HCn.out]; exact q3
                        have hps : p < sn := by rw [HSn.out]; exact q3
                        have hcn : cn ≤ 120 := by have := HCn.out; have := HGq.out; omega
                        have hsn : sn ≤ 120 := by have := HSn.out; have := HGq.out; omega
                        clear q1 q2 q3 q4 q5 hp
                        obtain ⟨cb, ecb, _, _⟩ := own_head HSr.out.core (by omega)
                        subst ecb
                        obtain ⟨sb, esb, _, _⟩ := own_head HSr.out.sees (by omega)
                        subst esb
                        obtain ⟨W6, rfl⟩ : ∃ W6, W6 = wr := ⟨_, rfl⟩
                        have HCell : Hid (∀ r, r < cn → ∃ x, W6.cell? ⟨cb, r, none⟩ = some (.int .i64 x) ∧ ∃ g', G'[r]? = some g' ∧ g'.c = x) := by
                          intro r hr
                          have hr2 : r < G'.length := by rw [← HCn.out]; exact hr
                          obtain ⟨_, e2, ch⟩ := (own_row HSr.out.core).1.cell r _ (vals_at (G'.map (fun g => g.c)) r (by simpa using hr2))
                          cases e2
                          rw [add0] at ch
                          exact ⟨_, ch, G'[r], by simp [hr2], by simp [List.getD, hr2]⟩
                        go_wp2_with fail
                        go_loopw [17] (fun s17 wq => ∃ r : Nat, r ≤ p ∧ s17 = .int .i64 r ∧ ∃ nd, wq = W6.drewN nd) (fun s _ => p - (intOf s).toNat)
                        case atStart => exact ⟨0, Nat.zero_le _, rfl, 0, rfl⟩
                        case round =>
                          obtain ⟨r, hr, rfl, nd, rfl⟩ := hrel
                          have r1 : (0 : Int) ≤ (r : Int) := by omega
                          have r2 : (r : Int) < (cn : Int) := by omega
                          obtain ⟨x, cx, g', hg', hx⟩ := HCell.out r (by omega)
                          have k1 := HMo.out.k1
                          rw [HCk.out] at k1
                          by_cases hrp : r < p
                          · have hne : ¬ x = (k : Int) := by rw [← hx]; exact HOth.out r hrp g' hg'
                            have e1 := bne_yes hne
                            clear hne hx hg'
                            go_wp2_with fail
                            go_quiet (fail)
                            go_wp2
                            go_roundw
                            case rel => exact ⟨r + 1, by omega, by go_num, _, rfl⟩
                            case measure => simp [intOf]; omega
                          · obtain rfl : r = p := by omega
                            have hxe : x = (k : Int) := by
                              have h5 := HQ1.out
                              rw [hg'] at h5
                              cases h5
                              rw [← hx]
                              exact HQ2.out
                            have e1 := bne_no hxe
                            have e2 : ((r : Int) == (cn : Int)) = false := beq_no (by omega)
                            clear hx hg' hrp
                            go_wp2_with fail
                            go_quiet (fail)
                            go_wp2_with fail
                            have HM7 := hid (HMo.out.below (q_drewN (Below.refl _ W6) (nd + nq)))
                            have HS7 := hid (HSr.out.below (q_drewN (Below.refl _ W6) (nd + nq)))
                            obtain ⟨W7, hW7⟩ : ∃ W7, W6.drewN (nd + nq) = W7 := ⟨_, rfl⟩
                            rw [hW7] at HM7 HS7 ⊢
                            clear hW7 cx k1 e1 hxe
                            have HRl : Hid (r < (G'.map (fun g => g.see)).length) := by rw [Hid, List.length_map]; exact HQ3.out
                            obtain ⟨_, e5, ch⟩ := (own_row HS7.out.sees).1.cell r _ (hds_at hs r (by rw [HS7.out.hl]; exact HRl.out))
                            cases e5
                            rw [add0] at ch
                            have hEi := HS7.out.each r HRl.out
                            obtain ⟨⟨go, gn, gc⟩, hh⟩ : ∃ h, hs.getD r Hd.zero = h := ⟨_, rfl⟩
                            rw [hh, map_get G' (fun g => g.see) [] HQ1.out] at hEi
                            rw [hh] at ch
                            replace ch : W7.cell? ⟨sb, r, none⟩ = some (.slice go gn gc) := ch
                            have hgs : g.see.length = N := by rw [HRp.out.seel g (List.mem_of_getElem? HQ1.out)]; exact HFn.out
                            have hgn : gn = N := by have h5 := hEi.1; rw [len_bvals, hgs] at h5; simp only at h5; omega
                            subst hgn
                            obtain ⟨gb, egb, _, _⟩ := own_head hEi (by show 0 < gn; omega)
                            have egb : go = some ⟨gb, 0, none⟩ := egb
                            subst egb
                            have HBl : Hid (∀ r2, r2 < gn → W7.cell? ⟨gb, r2, none⟩ = some (.bool false)) := by
                              intro r2 hr2
                              obtain ⟨_, e6, cl⟩ := (own_row hEi).1.cell r2 _ (bvals_at g.see r2 (by rw [hgs]; exact hr2))
                              cases e6
                              rw [add0, HQ4.out r2 (by rw [HFn.out]; exact hr2)] at cl
                              exact cl
                            clear hEi hh hgs
                            go_wp2_with fail
                            go_loopw [18] (fun s18 wq => ∃ r2 : Nat, r2 ≤ gn ∧ s18 = .int .i64 r2 ∧ wq = W7) (fun s _ => gn - (intOf s).toNat)
                            case atStart => exact ⟨0, Nat.zero_le _, rfl, rfl⟩
                            case round =>
                              obtain ⟨r2, hr2, rfl, hw7⟩ := hrel
                              rw [hw7]
                              clear hw7
                              by_cases hr3 : r2 < gn
                              · have s1 : (0 : Int) ≤ (r2 : Int) := by omega
                                have s2 : (r2 : Int) < (gn : Int) := by omega
                                have s3 : (r : Int) < (sn : Int) := by omega
                                have cl := HBl.out r2 hr3
                                go_wp2_with fail
                                go_roundw
                                case rel => exact ⟨r2 + 1, by omega, by go_num, by first | exact rfl | trivial⟩
                                case measure => simp [intOf]; omega
                              · obtain rfl : r2 = gn := by omega
                                have HIR : Hid (Row W7 (some ⟨cb, 0, none⟩) (vals (G'.map (fun g => g.c))) ∧ cn ≤ cc) := ⟨(own_row HS7.out.core).1, (own_row HS7.out.core).2.1⟩
                                have HIL : Hid ((vals (G'.map (fun g => g.c))).length = cn) := by rw [Hid, len_vals, List.length_map]; exact HCn.out.symm
                                have HIO := hid (vals_one (G'.map (fun g => g.c)))
                                have hwr : IntKind.i64.wrap ((r : Int) + 1) = (r : Int) + 1 := by rw [IntKind.wrap_i64]; omega
                                clear ch
                                obtain ⟨Io, Im, Ic, hIm, hIr, hIrun⟩ := cutI (some ⟨cb, 0, none⟩) cn cc r (by omega)
                                have IrunT := runI_to (some ⟨cb, 0, none⟩) r cn cc (by have := HIR.out.2; omega)
                                have HID := hid (fun (V : World) (h : Row V (some ⟨cb, 0, none⟩) (vals (G'.map (fun g => g.c)))) => hIr V (vals (G'.map (fun g => g.c))) h (fun e => by cases e) HIL.out HIR.out.2)
                                obtain ⟨IN, hIN⟩ : ∃ x, r + Im = x := ⟨_, rfl⟩
                                have HIN := hid hIN
                                have HIm := hid hIm
                                have IN120 : IN ≤ 120 := by omega
                                clear hIr hIm hIN
                                go_upto_region 40 with fail
                                go_region_held3 (fun _ => True) (exact trivial)
                                  (first
                                    | (refine step_row _ (by rfl) (.tmp 165) (.tmp 168) 30 3 _ 8 (by rfl) Try.underlying30 infoN (by rfl) (by decide) W7.heap.size _ 0 [] (by rfl) ((own0 W7 3 1).drew) (some ⟨cb, 0, none⟩) r cc ((vals (G'.map (fun g => g.c))).take r) (by rfl) (by rw [List.length_take, HIL.out]; omega) (fun h => by cases h) ((row_take HIR.out.1 r).below ((alloc_below W7 _).drew)) (fun u hu => HIO.out u (List.mem_of_mem_take hu)) r (by omega) ((vals (G'.map (fun g => g.c))).take r) (by rfl) (by omega) (by simp) ?_; intro Ia Ib Iw Iown Igrow; have Ibel := grow_below ((alloc_below W7 _).drew) Igrow (Nat.le_refl _))
                                    | (refine step_row _ (by rfl) (.tmp 169) (.tmp 173) 30 3 _ 8 (by rfl) Try.underlying30 infoN (by rfl) (by decide) W7.heap.size _ r ((vals (G'.map (fun g => g.c))).take r) (by rfl) Iown Io Im Ic ((vals (G'.map (fun g => g.c))).drop (r + 1)) (by rfl) (by rw [List.length_drop, HIL.out]; exact HIm.out.symm) ((HID.out _ (HIR.out.1.below Ibel)).2) ((HID.out _ (HIR.out.1.below Ibel)).1) (fun u hu => HIO.out u (List.mem_of_mem_drop hu)) IN HIN.out ((vals (G'.map (fun g => g.c))).eraseIdx r) (erase_cut _ _) (by omega) Ibel.size ?_; intro Ia2 Ib2 Iw2 Iown2 Igrow2; have Ibel2 := Ibel.grown Igrow2 Ibel.size (fun k e => (Iown.lt k e).1)))
                                have HIW := hid Iown2
                                have HIB := hid Ibel2
                                clear Iown Igrow Ibel Iown2 Igrow2 Ibel2 Iw hIrun IrunT
                                have HM8 := hid (HM7.out.below HIB.out)
                                have HS8 := hid ((HS7.out.below HIB.out).newC (cs' := (G'.eraseIdx r).map (fun g => g.c)) (by rw [erase_map, show vals ((G'.map (fun g => g.c)).eraseIdx r) = (vals (G'.map (fun g => g.c))).eraseIdx r from erase_map _ _ _]; exact HIW.out) HM7.out.low.size (fun i hi => .inr (Nat.le_trans HM7.out.sz hi)))
                                clear HIW HIR HIO HID HIN HIm HIL HM7 HS7
                                have HBR : Hid (Row Iw2 (some ⟨sb, 0, none⟩) (hds hs) ∧ sn ≤ sc) := ⟨(own_row HS8.out.sees).1, (own_row HS8.out.sees).2.1⟩
                                have HBL : Hid ((hds hs).length = sn) := by rw [Hid, len_hds, HS8.out.hl, List.length_map]; exact HSn.out.symm
                                have HBO := hid (hds_one hs)
                                obtain ⟨Bo, Bm, Bc, hBm, hBr, hBrun⟩ := cutB (some ⟨sb, 0, none⟩) sn sc r (by omega)
                                have BrunT := runB_to (some ⟨sb, 0, none⟩) r sn sc (by have := HBR.out.2; omega)
                                have HBD := hid (fun (V : World) (h : Row V (some ⟨sb, 0, none⟩) (hds hs)) => hBr V (hds hs) h (fun e => by cases e) HBL.out HBR.out.2)
                                obtain ⟨BN, hBN⟩ : ∃ x, r + Bm = x := ⟨_, rfl⟩
                                have HBN := hid hBN
                                have HBm := hid hBm
                                have BN120 : BN ≤ 120 := by omega
                                clear hBr hBm hBN
                                go_upto_region 41 with fail
                                go_region_held3 (fun _ => True) (exact trivial)
                                  (first
                                    | (refine step_row _ (by rfl) (.tmp 175) (.tmp 178) 46 45 _ 24 (by rfl) Try.underlying46 infoBs (by rfl) (by decide) Iw2.heap.size _ 0 [] (by rfl) ((own0 Iw2 45 1).drew) (some ⟨sb, 0, none⟩) r sc ((hds hs).take r) (by rfl) (by rw [List.length_take, HBL.out]; omega) (fun h => by cases h) ((row_take HBR.out.1 r).below ((alloc_below Iw2 _).drew)) (fun u hu => HBO.out u (List.mem_of_mem_take hu)) r (by omega) ((hds hs).take r) (by rfl) (by omega) (by simp) ?_; intro Ba Bb Bw Bown Bgrow; have Bbel := grow_below ((alloc_below Iw2 _).drew) Bgrow (Nat.le_refl _))
                                    | (refine step_row _ (by rfl) (.tmp 179) (.tmp 183) 46 45 _ 24 (by rfl) Try.underlying46 infoBs (by rfl) (by decide) Iw2.heap.size _ r ((hds hs).take r) (by rfl) Bown Bo Bm Bc ((hds hs).drop (r + 1)) (by rfl) (by rw [List.length_drop, HBL.out]; exact HBm.out.symm) ((HBD.out _ (HBR.out.1.below Bbel)).2) ((HBD.out _ (HBR.out.1.below Bbel)).1) (fun u hu => HBO.out u (List.mem_of_mem_drop hu)) BN HBN.out ((hds hs).eraseIdx r) (erase_cut _ _) (by omega) Bbel.size ?_; intro Ba2 Bb2 Bw2 Bown2 Bgrow2; have Bbel2 := Bbel.grown Bgrow2 Bbel.size (fun k e => (Bown.lt k e).1)))
                                have HBW := hid Bown2
                                have HBB := hid Bbel2
                                clear Bown Bgrow Bbel Bown2 Bgrow2 Bbel2 Bw hBrun BrunT
                                have HM9 := hid (HM8.out.below HBB.out)
                                have HS9 := hid ((HS8.out.below HBB.out).newS HRl.out (by rw [show hds (hs.eraseIdx r) = (hds hs).eraseIdx r from erase_map _ _ _]; exact HBW.out) HM8.out.low.size (fun i hi => .inr (Nat.le_trans HM8.out.sz hi)))
                                rw [← erase_map] at HS9
                                have HGe : Hid ((G'.eraseIdx r).length ≤ j) := Nat.le_trans (List.length_eraseIdx_le G' r) HGq.out
                                clear HBW HBR HBO HBD HBN HBm HBL HM8 HS8
                                go_wp2_with fail
                                go_roundw
                                case rel => exact ⟨i + 1, G'.eraseIdx r, IN, Ib2, Ia2, BN, Bb2, Ba2, hs.eraseIdx r, by omega, rfl, rfl, by go_num, HM9, HS9, HQ5, HGe⟩
                                case measure => simp [intOf]; omega
                      · obtain rfl : i = L := by omega
                        have HSf2 : Hid (Sf d pd G') := by
                          have h := HRp.out
                          rw [HLr.out] at h
                          rw [Hid, HDr.out]
                          exact rp_end h
                        have HGl2 : Hid (G'.length ≤ j + 1) := Nat.le_succ_of_le HGq.out
                        obtain ⟨p0, p1, p2, pf⟩ := HMo.out.box
                        obtain ⟨x0, x1, x2, xf⟩ := HMo.out.xb
                        have k0 := HMo.out.k0
                        have k1 := HMo.out.k1
                        rw [HCk.out] at k1
                        have hXB : X ≠ B := HMo.out.xB
                        have hBX : B ≠ X := fun e => HMo.out.xB e.symm
                        obtain ⟨Av', hE⟩ := ss_end (G := G') HMo.out HSr.out rfl rfl HSf2.out HT.out HDn.out
                        have HE := hid hE
                        clear hE
                        go_wp2_with fail
                        go_roundw
                        case rel => exact ⟨j + 1, v, d, pd, cn, cc, co, sn, sc, so, G', hs, Av', by omega, rfl, rfl, by go_num, HE, HGl2⟩
                        case measure => simp [intOf]; omega
        · have HSO := hid (sf_out (a := a) HSf.out (by rw [HFn.out]; omega))
          have hL0 : L = 0 := by rw [← hL, ← hdl, HSO.out.2]; rfl
          rw [hd] at HSO
          subst hL0
          obtain ⟨p0, p1, p2, pf⟩ := HMo.out.box
          obtain ⟨x0, x1, x2, xf⟩ := HMo.out.xb
          have k0 := HMo.out.k0
          have k1 := HMo.out.k1
          have hXB : X ≠ B := HMo.out.xB
          have hBX : B ≠ X := fun e => HMo.out.xB e.symm
          obtain ⟨Av', hE⟩ := ss_end (G := G) HMo.out HSr.out rfl rfl HSO.out.1 HT.out HDn.out
          have HE := hid hE
          clear hE
          go_wp2_with fail
          go_roundw
          case rel => exact ⟨j + 1, v, d, pd, cn, cc, co, sn, sc, so, G, hs, Av', by omega, rfl, rfl, by go_num, HE, HGl⟩
          case measure => simp [intOf]; omega
      · have HSO := hid (sf_out (a := a) HSf.out (by rw [HFn.out]; omega))
        have hL0 : L = 0 := by rw [← hL, ← hdl, HSO.out.2]; rfl
        rw [hd] at HSO
        subst hL0
        obtain ⟨p0, p1, p2, pf⟩ := HMo.out.box
        obtain ⟨x0, x1, x2, xf⟩ := HMo.out.xb
        have k0 := HMo.out.k0
        have k1 := HMo.out.k1
        have hXB : X ≠ B := HMo.out.xB
        have hBX : B ≠ X := fun e => HMo.out.xB e.symm
        obtain ⟨Av', hE⟩ := ss_end (G := G) HMo.out HSr.out rfl rfl HSO.out.1 HT.out HDn.out
        have HE := hid hE
        clear hE
        go_wp2_with fail
        go_roundw
        case rel => exact ⟨j + 1, v, d, pd, cn, cc, co, sn, sc, so, G, hs, Av', by omega, rfl, rfl, by go_num, HE, HGl⟩
        case measure => simp [intOf]; omega
    · obtain rfl : j = M := by omega
      go_wp2_with fail
      refine (live_any K _).mono ?_
      rintro r w' ⟨rfl, bl⟩
      have HBl := hid (q_trans HG.out.low bl)
      clear bl
      go_wp2_with fail
      go_ret
      exact ⟨rfl, HBl.out⟩
set_option maxRecDepth 100000 in
set_option maxHeartbeats 1000000 in
/-- EPOCHSAFE IS TRUE. -/
theorem safe_any (K : Con) (n : Int) (ao : Option Addr) (l : List Ac) (M cap : Nat) (w : World) (hN : M ≤ 9223372036854775807) (HC : HasC w ao M l) :
    Calls Try.prog 5 #[.int .i64 n, .slice ao M cap] w fun r w' => r = .returned (.bool true) ∧ Below w.heap.size w w' := by
  by_cases h1 : 1 ≤ n
  · by_cases h2 : n ≤ 64
    · by_cases h3 : M ≤ 120
      · obtain ⟨N, rfl⟩ : ∃ N : Nat, n = (N : Int) := ⟨n.toNat, by omega⟩
        exact safe_in K N ao M cap l w h1 h2 h3 HC
      · have i3 : (120 : Int) < (M : Int) := by omega
        clear h3
        go_enter Try.func5, Try.ntmps5
        go_wp2_with fail
        refine (live_any K _).mono ?_
        rintro r w' ⟨rfl, bl⟩
        have HBl := hid bl
        clear bl
        go_wp2_with fail
        go_ret
        exact ⟨rfl, HBl.out⟩
    · clear HC
      go_enter Try.func5, Try.ntmps5
      go_wp2_with fail
      refine (live_any K _).mono ?_
      rintro r w' ⟨rfl, bl⟩
      have HBl := hid bl
      clear bl
      go_wp2_with fail
      go_ret
      exact ⟨rfl, HBl.out⟩
  · clear HC
    go_enter Try.func5, Try.ntmps5
    go_wp2_with fail
    refine (live_any K _).mono ?_
    rintro r w' ⟨rfl, bl⟩
    have HBl := hid bl
    clear bl
    go_wp2_with fail
    go_ret
    exact ⟨rfl, HBl.out⟩
end Go.Proofs.Ytejghoncihdfkaa.Ep
