/- What the document's meet does. -/
import Derived.Test.YtpcdjpcdmnjdfaaPoR4
namespace Go.Proofs.Ytpcdjpcdmnjdfaa.Po
open Go.RowKit

set_option maxRecDepth 100000 in
set_option maxHeartbeats 4000000 in
theorem rmeet1 (p : Pt) (y : Hd) (x : Wt) (w : World) (hs : y.n ≤ 4999) (HH : Hid (HasQ w y p.l)) :
    Calls Try.prog 39 #[(.agg #[.int .i64 p.k, .int .i64 p.w, .slice y.o y.n y.c]), (.agg #[.int .i64 x.c, .int .i64 x.v, .int .i64 x.b, .bool x.h, .int .i64 x.o, .int .i64 x.s, .int .i64 x.g, .bool x.t]), .int .i64 1] w fun e w' => ∃ z : Hd, e = .returned (.tuple #[(.agg #[.int .i64 (cmP p x 1 2).k, .int .i64 (cmP p x 1 2).w, .slice z.o z.n z.c]), (.agg #[.int .i64 (cmX p x 2).c, .int .i64 (cmX p x 2).v, .int .i64 (cmX p x 2).b, .bool (cmX p x 2).h, .int .i64 (cmX p x 2).o, .int .i64 (cmX p x 2).s, .int .i64 (cmX p x 2).g, .bool (cmX p x 2).t]), .bool (cmB p x 2), .int .i64 (rfE p x.c)]) ∧ AnsR w w' y p.l z (cmP p x 1 2).l := by
  have HN := hid HH.out.len
  go_enter Try.func39, Try.ntmps39
  go_upto_region 1 with fail
  have HT : Hid (B4 w ((((w.alloc (.cells #[.int .i64 p.k, .int .i64 p.w, .slice y.o y.n y.c] 24)).alloc (.cells #[.int .i64 x.c, .int .i64 x.v, .int .i64 x.b, .bool x.h, .int .i64 x.o, .int .i64 x.s, .int .i64 x.g, .bool x.t] 28)).alloc (.cells #[.int .i64 0, .int .i64 0, .slice none 0 0] 24)).alloc (.cells #[.int .i64 0, .int .i64 0, .int .i64 0, .bool false, .int .i64 0, .int .i64 0, .int .i64 0, .bool false] 28)) p p0 y nilH x z0) := b4_new w p p0 y nilH x z0
  generalize (((w.alloc (.cells #[.int .i64 p.k, .int .i64 p.w, .slice y.o y.n y.c] 24)).alloc (.cells #[.int .i64 x.c, .int .i64 x.v, .int .i64 x.b, .bool x.h, .int .i64 x.o, .int .i64 x.s, .int .i64 x.g, .bool x.t] 28)).alloc (.cells #[.int .i64 0, .int .i64 0, .slice none 0 0] 24)).alloc (.cells #[.int .i64 0, .int .i64 0, .int .i64 0, .bool false, .int .i64 0, .int .i64 0, .int .i64 0, .bool false] 28) = W at HT ⊢
  have c0 := HT.out.a.c0
  have c1 := HT.out.a.c1
  have c2 := HT.out.a.c2
  go_wp2_with fail
  refine (ris_any p y W (HH.out.below HT.out.low)).mono ?_
  rintro e w1 ⟨rfl, b1⟩
  replace HT := hid (HT.out.below b1)
  clear b1 c0 c1 c2
  have c0 := HT.out.a.c0
  have c1 := HT.out.a.c1
  have c2 := HT.out.a.c2
  have x0 := HT.out.b.at.c0
  have hlw : w.heap.size + 3 < w1.heap.size := HT.out.lt
  cases h1 : okP p with
  | false =>
    have HR := hid (rf_no (c := x.c) h1)
    have HE := hid (cm_no (p := p) (x := x) (own := 1) (meets := 2) (by rw [HR.out]; decide))
    clear h1
    have r0 : w1.cell? ⟨w.heap.size + 2, 0, none⟩ = some (.int .i64 0) := HT.out.r.c0
    have r1 : w1.cell? ⟨w.heap.size + 2, 1, none⟩ = some (.int .i64 0) := HT.out.r.c1
    have r2 : w1.cell? ⟨w.heap.size + 2, 2, none⟩ = some (.slice none 0 0) := HT.out.r.c2
    have g0 := HT.out.r.fz 0
    have g1 := HT.out.r.fz 1
    have g2 := HT.out.r.fz 2
    obtain ⟨s0, s1, s2, s3, s4, s5, s6, s7⟩ := HT.out.s.at
    have k0 := HT.out.s.fz 0
    have k1 := HT.out.s.fz 1
    have k2 := HT.out.s.fz 2
    have k3 := HT.out.s.fz 3
    have k4 := HT.out.s.fz 4
    have k5 := HT.out.s.fz 5
    have k6 := HT.out.s.fz 6
    have k7 := HT.out.s.fz 7
    have HF := hid (B4.fin HT.out p y z0)
    go_wp2_with fail
    refine bodyPost_ret (v := .tuple #[(.agg #[.int .i64 p.k, .int .i64 p.w, .slice y.o y.n y.c]), .agg #[.int .i64 0, .int .i64 0, .int .i64 0, .bool false, .int .i64 0, .int .i64 0, .int .i64 0, .bool false], .bool false, .int .i64 2]) (by simp [results, Try.results39, go_sem, *]) rfl ⟨y, ret4 HE.out.1 HE.out.2.1 HE.out.2.2 HR.out, ?_⟩
    rw [HE.out.1]
    exact ⟨HH.out.below HF.out, fun _ _ h => h, HF.out⟩
  | true =>
    have H1 := hid h1
    clear h1
    cases h2 : okC x.c with
    | false =>
      have HR := hid (rf_core (p := p) h2)
      have HE := hid (cm_no (p := p) (x := x) (own := 1) (meets := 2) (by rw [HR.out]; decide))
      have r0 : w1.cell? ⟨w.heap.size + 2, 0, none⟩ = some (.int .i64 0) := HT.out.r.c0
      have r1 : w1.cell? ⟨w.heap.size + 2, 1, none⟩ = some (.int .i64 0) := HT.out.r.c1
      have r2 : w1.cell? ⟨w.heap.size + 2, 2, none⟩ = some (.slice none 0 0) := HT.out.r.c2
      have g0 := HT.out.r.fz 0
      have g1 := HT.out.r.fz 1
      have g2 := HT.out.r.fz 2
      obtain ⟨s0, s1, s2, s3, s4, s5, s6, s7⟩ := HT.out.s.at
      have k0 := HT.out.s.fz 0
      have k1 := HT.out.s.fz 1
      have k2 := HT.out.s.fz 2
      have k3 := HT.out.s.fz 3
      have k4 := HT.out.s.fz 4
      have k5 := HT.out.s.fz 5
      have k6 := HT.out.s.fz 6
      have k7 := HT.out.s.fz 7
      have HF := hid (B4.fin HT.out p y z0)
      go_wp2_with (go_at_call 30; refine (rcore_any _ _).mono ?_; rintro e w8 ⟨rfl, hw⟩; rw [hw, h2]; clear hw w8)
      refine bodyPost_ret (v := .tuple #[(.agg #[.int .i64 p.k, .int .i64 p.w, .slice y.o y.n y.c]), .agg #[.int .i64 0, .int .i64 0, .int .i64 0, .bool false, .int .i64 0, .int .i64 0, .int .i64 0, .bool false], .bool false, .int .i64 2]) (by simp [results, Try.results39, go_sem, *]) rfl ⟨y, ret4 HE.out.1 HE.out.2.1 HE.out.2.2 HR.out, ?_⟩
      rw [HE.out.1]
      exact ⟨HH.out.below HF.out, fun _ _ h => h, HF.out⟩
    | true =>
      have HC : Hid (∀ X : World, Calls Try.prog 30 #[.int .i64 x.c] X fun e w' => e = .returned (.bool true) ∧ w' = X) := fun X => by rw [← h2]; exact rcore_any x.c X
      have H2 := hid h2
      clear h2
      go_upto_region 3 with (go_at_call 30; refine (HC.out _).mono ?_; rintro e w8 ⟨rfl, hw⟩; rw [hw]; clear hw w8)
      go_wp2_with fail
      refine (rfind_any p y x.c w1 (by omega) (HH.out.below HT.out.low)).mono ?_
      rintro e w2 ⟨rfl, b2⟩
      replace HT := hid (HT.out.below b2)
      clear b2 c0 c1 c2 x0 hlw HC
      have c0 := HT.out.a.c0
      have c1 := HT.out.a.c1
      have c2 := HT.out.a.c2
      have hlw : w.heap.size + 3 < w2.heap.size := HT.out.lt
      cases h3 : fd x.c p.l with
      | some i =>
        have HR := hid (rf_there H1.out H2.out h3)
        have HE := hid (cm_no (p := p) (x := x) (own := 1) (meets := 2) (by rw [HR.out]; decide))
        rw [fI_some h3]
        clear h3
        have i0 : (i : Int) ≥ 0 := by omega
        have r0 : w2.cell? ⟨w.heap.size + 2, 0, none⟩ = some (.int .i64 0) := HT.out.r.c0
        have r1 : w2.cell? ⟨w.heap.size + 2, 1, none⟩ = some (.int .i64 0) := HT.out.r.c1
        have r2 : w2.cell? ⟨w.heap.size + 2, 2, none⟩ = some (.slice none 0 0) := HT.out.r.c2
        have g0 := HT.out.r.fz 0
        have g1 := HT.out.r.fz 1
        have g2 := HT.out.r.fz 2
        obtain ⟨s0, s1, s2, s3, s4, s5, s6, s7⟩ := HT.out.s.at
        have k0 := HT.out.s.fz 0
        have k1 := HT.out.s.fz 1
        have k2 := HT.out.s.fz 2
        have k3 := HT.out.s.fz 3
        have k4 := HT.out.s.fz 4
        have k5 := HT.out.s.fz 5
        have k6 := HT.out.s.fz 6
        have k7 := HT.out.s.fz 7
        have HF := hid (B4.fin HT.out p y z0)
        go_wp2_with fail
        refine bodyPost_ret (v := .tuple #[(.agg #[.int .i64 p.k, .int .i64 p.w, .slice y.o y.n y.c]), .agg #[.int .i64 0, .int .i64 0, .int .i64 0, .bool false, .int .i64 0, .int .i64 0, .int .i64 0, .bool false], .bool false, .int .i64 8]) (by simp [results, Try.results39, go_sem, *]) rfl ⟨y, ret4 HE.out.1 HE.out.2.1 HE.out.2.2 HR.out, ?_⟩
        rw [HE.out.1]
        exact ⟨HH.out.below HF.out, fun _ _ h => h, HF.out⟩
      | none =>
        have HR := hid (rf_ok H1.out H2.out h3)
        rw [fI_none h3]
        clear h3
        by_cases hk : p.k = 2
        · have HE := hid (cm_meet (own := 1) HR.out hk)
          have hln : 0 < p.l.length := ok_some H1.out (by rw [hk]; decide)
          have hyn : 0 < y.n := by have := HH.out.len; omega
          have hk1 : (p.k == 2) = true := by simp [hk]
          clear hk
          go_upto_region 6 with fail
          obtain ⟨a, ea, ha⟩ := HH.out.at 0 hyn
          rw [Nat.zero_mul, add_zero_addr] at ha
          have hab : Hid (a.block < w.heap.size) := ha.lt
          have HAt := hid (ha.below HT.out.low)
          have i2 : (0 : Int) < (y.n : Int) := by omega
          obtain ⟨v, hv⟩ : ∃ v, p.l.getD 0 z0 = v := ⟨_, rfl⟩
          rw [hv] at HAt HE
          clear ha hv hln
          have HCC : Hid (∀ X : World, Below w2.heap.size w2 X → Calls Try.prog 40 #[.agg #[.int .i64 p.k, .int .i64 p.w, .slice (some a) y.n y.c], .int .i64 0] X fun e w' => ∃ z : Hd, e = .returned (.agg #[.int .i64 (woP p 0).k, .int .i64 (woP p 0).w, .slice z.o z.n z.c]) ∧ Ans X w' z (woP p 0).l) := fun X q => by rw [← ea]; exact rwithout_any p y 0 X (by omega) (by omega) (HH.out.below (q_trans HT.out.low q))
          have hS : S5 w.heap.size p (some a) y.n y.c a v w2 := s5_of HT.out.a ea HAt.out
          clear c0 c1 c2 ea
          have ne1 : w.heap.size ≠ w.heap.size + 2 := by omega
          have ne2 : a.block ≠ w.heap.size + 2 := by have := hab.out; omega
          have ne3 : w.heap.size ≠ w.heap.size + 3 := by omega
          have ne4 : a.block ≠ w.heap.size + 3 := by have := hab.out; omega
          go_region_held3 (S5 w.heap.size p (some a) y.n y.c a v) (first | with_reducible assumption | with_reducible exact s5_drew hS | with_reducible exact HS2.out | with_reducible exact HS3.out | with_reducible exact HS4.out)
            (first
              | (go_at_call 40; refine (HCC.out _ (by first | exact (Below.refl _ w2).drew | exact Below.refl _ w2)).mono ?_; rintro e w3 ⟨z, rfl, hz⟩; have HZ : Hid (Ans w2 w3 z (woP p 0).l) := (by first | exact hz | exact hz.of (Below.refl _ w2).drew); have HS2 : Hid (S5 w.heap.size p (some a) y.n y.c a v w3) := s5_low hS HZ.out.low; have HS3 : Hid (S5 w.heap.size p (some a) y.n y.c a v (put3 w3 (w.heap.size + 2) (woP p 0) z)) := s5_put3 HS2.out ne1 ne2; have HS4 : Hid (S5 w.heap.size p (some a) y.n y.c a v (put8 (put3 w3 (w.heap.size + 2) (woP p 0) z) (w.heap.size + 3) v)) := s5_put8 HS3.out ne3 ne4; have HT2 := hid (HT.out.below HZ.out.low); have r0 : w3.cell? ⟨w.heap.size + 2, 0, none⟩ = some (.int .i64 0) := HT2.out.r.c0; have r1 : w3.cell? ⟨w.heap.size + 2, 1, none⟩ = some (.int .i64 0) := HT2.out.r.c1; have r2 : w3.cell? ⟨w.heap.size + 2, 2, none⟩ = some (.slice none 0 0) := HT2.out.r.c2; have g0 := HT2.out.r.fz 0; have g1 := HT2.out.r.fz 1; have g2 := HT2.out.r.fz 2; obtain ⟨s0, s1, s2, s3, s4, s5, s6, s7⟩ := HT2.out.s.at; have k0 := HT2.out.s.fz 0; have k1 := HT2.out.s.fz 1; have k2 := HT2.out.s.fz 2; have k3 := HT2.out.s.fz 3; have k4 := HT2.out.s.fz 4; have k5 := HT2.out.s.fz 5; have k6 := HT2.out.s.fz 6; have k7 := HT2.out.s.fz 7; clear hz)
              | fail)
          all_goals
            have hn : Off (fun i => i < w.heap.size + 4) z.o (wts (woP p 0).l) := off_less HZ.out.new hlw
            have HF := hid (ans4 (q := woP p 0) (v := v) HT2.out HZ.out.has hn)
            go_wp2_with fail
            refine bodyPost_ret (v := .tuple #[(.agg #[.int .i64 (woP p 0).k, .int .i64 (woP p 0).w, .slice z.o z.n z.c]), (.agg #[.int .i64 v.c, .int .i64 v.v, .int .i64 v.b, .bool v.h, .int .i64 v.o, .int .i64 v.s, .int .i64 v.g, .bool v.t]), .bool true, .int .i64 0]) (by simp [results, Try.results39, go_sem, *]) rfl ⟨z, ret4 HE.out.1 HE.out.2.1 HE.out.2.2 HR.out, ?_⟩
            rw [HE.out.1]
            exact HF.out.plain
        · have HE := hid (cm_wait (own := 1) HR.out hk)
          have hk1 : (p.k == 2) = false := by simp [hk]
          clear hk
          have f0 := HT.out.a.fz 0
          go_upto_region 8 with fail
          replace HT := hid (HT.out.setK 1)
          generalize w2.setCell ⟨w.heap.size, 0, none⟩ (.int .i64 1) = W2 at HT ⊢
          clear c0 c1 c2 f0 hlw
          obtain ⟨m, hm⟩ : ∃ m : Nat, y.n + 1 = m := ⟨_, rfl⟩
          have HM0 := hid hm
          have hm4 : m ≤ 5000 := by omega
          clear hm
          have hW := hid HT.out.lt
          have c2 := HT.out.a.c2
          obtain ⟨x0, x1, x2, x3, x4, x5, x6, x7⟩ := HT.out.b.at
          have HQ : Hid (∀ W', Below W2.heap.size W2 W' → (W'.cell? ⟨w.heap.size, 2, none⟩ = some (.slice y.o y.n y.c)) ∧ W'.frozen? ⟨w.heap.size, 2, none⟩ = false ∧ AtW W' ⟨w.heap.size + 1, 0, none⟩ x) := fun W' b => ⟨(HT.out.a.below b).c2, (HT.out.a.below b).fz 2, (HT.out.b.below b).at⟩
          have hlg : w.heap.size < W2.heap.size := HT.out.a.lt
          have hl4 : w.heap.size + 3 < W2.heap.size := HT.out.lt
          have hl5 : w.heap.size + 1 < W2.heap.size := HT.out.b.lt
          have HY2 := hid (HH.out.below HT.out.low)
          have HRw := hid (HY2.out.row.below (Below.refl _ W2).drew)
          go_cut [47] from 41 to 48 (fun s47 wx => ∃ (ao : Option Addr) (cap : Nat), s47 = .slice ao m cap ∧ Hid (B4 w wx ⟨1, p.w, p.l ++ [x]⟩ p0 ⟨ao, m, cap⟩ nilH x z0) ∧ Hid (HasQ wx ⟨ao, m, cap⟩ (p.l ++ [x])) ∧ Hid (Off (fun i => i < w.heap.size + 4) ao (wts (p.l ++ [x]))))
          case first =>
            go_region_law
              (first
                | (refine step_ws _ (by rfl) (.tmp 41) (.tmp 43) (by rfl) W2.heap.size _ 0 [] (by rfl) (by first | exact own0 W2.drew 28 8 | exact (own0 W2.drew 28 8).alloc _ | exact own1W x W2.drew) y.o y.n y.c p.l (by rfl) HY2.out.len HY2.out.nil (by first | exact (HRw.out.below (alloc_below W2.drew _)) | exact (HRw.out.below (q_alloc (alloc_below W2.drew _) _))) y.n (Nat.zero_add _) p.l (List.nil_append _) (by omega) (by first | exact (alloc_below W2.drew _).size | exact (q_alloc (alloc_below W2.drew _) _).size) ?_; intro ao5 cap5 w5 own5 grow5; have b5 : Hid (Below W2.heap.size W2 w5) := (by first | exact q_trans (Below.refl _ W2).drew (app_below (w := W2.drew) grow5) | exact q_trans (Below.refl _ W2).drew (app_below2 (w := W2.drew) grow5) | exact q_trans (Below.refl _ W2).drew (app_below3 (w := W2.drew) grow5)); (try (have HK5 : Hid (Row w5 (some ⟨W2.heap.size + 1, 0, none⟩) (wts [x])) := (row_off (wt_at1 x W2.drew) grow5 (by simp)))); (try (have HK5 : Hid (Row w5 (some ⟨W2.heap.size, 0, none⟩) (wts [x])) := (row_off ((one_wt W2.drew x 28).below (alloc_below _ _)) grow5 (by simp)))); obtain ⟨u0, u1, u2, u3, u4, u5, u6, u7⟩ := (HQ.out _ b5.out).2.2)
                | (refine step_ws _ (by rfl) (.tmp 44) (.tmp 46) (by rfl) W2.heap.size _ y.n p.l (by rfl) (by first | exact own5 | exact own5.alloc _) _ 1 1 [x] (by rfl) rfl (fun h => by cases h) (by first | exact HK5.out | exact one_wt w5 x 28) m HM0.out (p.l ++ [x]) rfl (by omega) (by first | exact b5.out.size | exact (q_alloc b5.out _).size) ?_; intro ao6 cap6 w6 own6 grow6; have b6 : Hid (Below W2.heap.size W2 w6) := (by first | exact b5.out.grown grow6 b5.out.size (fun k e => (World.ownsRow.lt own5 k e).1) | exact (q_alloc b5.out _).grown grow6 (q_alloc b5.out _).size (fun k e => (World.ownsRow.lt own5 k e).1)); have q3 := (HQ.out _ b6.out).1; have q4 := (HQ.out _ b6.out).2.1)
                | fail)
            all_goals (try go_wp2_with fail)
            all_goals go_meet
            all_goals
              have hM6 : MineQ w6 W2.heap.size ⟨ao6, m, cap6⟩ (p.l ++ [x]) := ⟨by have := HM0.out; have := HN.out; simp; omega, own6⟩
              have hn := hM6.new
              exact ⟨ao6, cap6, rfl, (HT.out.below b6.out).setQ (p.l ++ [x]) ⟨ao6, m, cap6⟩, hM6.has.set hn (p := ⟨w.heap.size, 2, none⟩) hlg _, off_less hn hW.out⟩
          case rest =>
            obtain ⟨ao, cap, rfl, HB, HA, HO⟩ := hcut
            clear HT HQ c2 hlg hl4 hl5 hW HRw x0 x1 x2 x3 x4 x5 x6 x7 HY2
            have c0 : wc.cell? ⟨w.heap.size, 0, none⟩ = some (.int .i64 1) := HB.out.a.c0
            have c1 : wc.cell? ⟨w.heap.size, 1, none⟩ = some (.int .i64 p.w) := HB.out.a.c1
            have c2 : wc.cell? ⟨w.heap.size, 2, none⟩ = some (.slice ao m cap) := HB.out.a.c2
            have r0 : wc.cell? ⟨w.heap.size + 2, 0, none⟩ = some (.int .i64 0) := HB.out.r.c0
            have r1 : wc.cell? ⟨w.heap.size + 2, 1, none⟩ = some (.int .i64 0) := HB.out.r.c1
            have r2 : wc.cell? ⟨w.heap.size + 2, 2, none⟩ = some (.slice none 0 0) := HB.out.r.c2
            have g0 := HB.out.r.fz 0
            have g1 := HB.out.r.fz 1
            have g2 := HB.out.r.fz 2
            obtain ⟨s0, s1, s2, s3, s4, s5, s6, s7⟩ := HB.out.s.at
            have k0 := HB.out.s.fz 0
            have k1 := HB.out.s.fz 1
            have k2 := HB.out.s.fz 2
            have k3 := HB.out.s.fz 3
            have k4 := HB.out.s.fz 4
            have k5 := HB.out.s.fz 5
            have k6 := HB.out.s.fz 6
            have k7 := HB.out.s.fz 7
            have hl2 : w.heap.size + 3 < wc.heap.size := HB.out.lt
            have HF := hid (ans4 (q := ⟨1, p.w, []⟩) (v := z0) HB.out HA.out HO.out)
            go_wp2_with fail
            refine bodyPost_ret (v := .tuple #[.agg #[.int .i64 1, .int .i64 p.w, .slice ao m cap], .agg #[.int .i64 0, .int .i64 0, .int .i64 0, .bool false, .int .i64 0, .int .i64 0, .int .i64 0, .bool false], .bool false, .int .i64 0]) (by simp [results, Try.results39, go_sem, *]) rfl ⟨⟨ao, m, cap⟩, ret4 (q := wiP p 1 x) (z := ⟨ao, m, cap⟩) HE.out.1 HE.out.2.1 HE.out.2.2 HR.out, ?_⟩
            rw [HE.out.1]
            exact HF.out.plain
end Go.Proofs.Ytpcdjpcdmnjdfaa.Po
