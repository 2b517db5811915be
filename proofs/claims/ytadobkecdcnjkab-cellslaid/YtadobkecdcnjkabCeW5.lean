/- What the reference's Apply does. -/
import Derived.Test.YtadobkecdcnjkabCeW4
namespace Go.Proofs.Ytadobkecdcnjkab.Ce
open Go.RowKit

/-- The ways of a step. -/
theorem legs (k j a v ww got : Int) (hk : 1 ≤ k ∧ k ≤ 5) :
    (k = 1 ∧ got = stV got ⟨k, j, a, v, ww⟩ ∧ true = stB got ⟨k, j, a, v, ww⟩) ∨
    (k = 2 ∧ v = stV got ⟨k, j, a, v, ww⟩ ∧ true = stB got ⟨k, j, a, v, ww⟩) ∨
    (k = 3 ∧ (got == a) = true ∧ v = stV got ⟨k, j, a, v, ww⟩ ∧ true = stB got ⟨k, j, a, v, ww⟩) ∨
    (k = 3 ∧ (got == a) = false ∧ got = stV got ⟨k, j, a, v, ww⟩ ∧ false = stB got ⟨k, j, a, v, ww⟩) ∨
    (k = 4 ∧ (got == 0) = true ∧ ww = stV got ⟨k, j, a, v, ww⟩ ∧ true = stB got ⟨k, j, a, v, ww⟩) ∨
    (k = 4 ∧ (got == 0) = false ∧ got = stV got ⟨k, j, a, v, ww⟩ ∧ false = stB got ⟨k, j, a, v, ww⟩) ∨
    (k = 5 ∧ (got == ww) = true ∧ 0 = stV got ⟨k, j, a, v, ww⟩ ∧ true = stB got ⟨k, j, a, v, ww⟩) ∨
    (k = 5 ∧ (got == ww) = false ∧ got = stV got ⟨k, j, a, v, ww⟩ ∧ false = stB got ⟨k, j, a, v, ww⟩) := by
  have : k = 1 ∨ k = 2 ∨ k = 3 ∨ k = 4 ∨ k = 5 := by omega
  rcases this with rfl | rfl | rfl | rfl | rfl
  · simp [stV, stB]
  · simp [stV, stB]
  · by_cases h : got = a <;> simp [stV, stB, h]
  · by_cases h : got = 0 <;> simp [stV, stB, h]
  · by_cases h : got = ww <;> simp [stV, stB, h]

set_option maxRecDepth 100000 in
set_option maxHeartbeats 1000000 in
theorem rapply_no (ao : Option Addr) (n cap : Nat) (o : O) (w : World) (hok : Hid (okO o n = false)) :
    Calls Try.prog 17 #[.slice ao n cap, (.agg #[.int .i64 o.k, .int .i64 o.c, .int .i64 o.a, .int .i64 o.v, .int .i64 o.w])] w fun e w' => e = .returned (.tuple #[.slice ao n cap, .agg #[.int .i64 0, .int .i64 0, .int .i64 0, .int .i64 0, .int .i64 0, .int .i64 0, .bool false]]) ∧ Below w.heap.size w w' := by
  obtain ⟨T1, T2, T3, T4⟩ := two_new w o
  have HR0 : Hid _ := T2
  have HB0 : Hid _ := T3
  clear T1 T2 T3 T4
  go_enter Try.func17, Try.ntmps17
  go_wp2_with fail
  refine (is_no o n _ hok.out).mono ?_
  rintro e w2 ⟨rfl, b2⟩
  obtain ⟨r0, r1, r2, r3, r4, r5, r6, rf⟩ := HR0.out.below b2
  have HB2 : Hid _ := b2
  clear b2
  go_wp2_with fail
  refine bodyPost_ret (v := .tuple #[.slice ao n cap, .agg #[.int .i64 0, .int .i64 0, .int .i64 0, .int .i64 0, .int .i64 0, .int .i64 0, .bool false]]) (by simp [results, Try.results17, go_sem, r0, r1, r2, r3, r4, r5, r6]) rfl ⟨rfl, ?_⟩
  refine (q_trans HB0.out HB2.out).trans ((kept7 w2 (w.heap.size + 1) _ _ _ _ _ _ _).below _ ?_ (fun i e => by omega))
  exact (q_trans HB0.out HB2.out).size

set_option maxRecDepth 100000 in
set_option maxHeartbeats 2000000 in
theorem rapply_1 (ad : Addr) (n cap j : Nat) (l : List Int) (a v ww got : Int) (w : World) (HN : Hid (n = l.length)) (hs : n ≤ 5000) (hj : j < n) (HR : Hid (Row w (some ad) (vals l)))
    (hg : Hid (l.getD j 0 = got)) (hok : Hid (okO ⟨1, j, a, v, ww⟩ n = true))
     :
    Calls Try.prog 17 #[.slice (some ad) n cap, .agg #[.int .i64 1, .int .i64 j, .int .i64 a, .int .i64 v, .int .i64 ww]] w fun e w' => ∃ ao' cap', e = .returned (.tuple #[.slice ao' n cap', .agg #[.int .i64 1, .int .i64 j, .int .i64 a, .int .i64 v, .int .i64 ww, .int .i64 got, .bool true]]) ∧ w'.ownsRow w.heap.size 2 1 (.slice ao' n cap') n (vals (l.set j got)) ∧ Below w.heap.size w w' := by
  have i1 : (0 : Int) ≤ (j : Int) := by omega
  have i2 : (j : Int) < (n : Int) := by omega
  obtain ⟨T1, T2, T3, T4⟩ := two_new w ⟨1, j, a, v, ww⟩
  have HI : Hid _ := T1
  have HR0 : Hid _ := T2
  have HB0 : Hid _ := T3
  have HZ : Hid _ := T4
  have HJ : Hid (j < n) := hj
  clear T1 T2 T3 T4 hj
  go_enter Try.func17, Try.ntmps17
  go_wp2_with fail
  refine (is_yes ⟨1, j, a, v, ww⟩ n _ hok.out).mono ?_
  rintro e w1 ⟨rfl, b1⟩
  have HI1 : Hid _ := HI.out.below b1
  obtain ⟨c0, c1, c2, c3, c4⟩ := HI1.out
  have HB1 : Hid _ := q_trans HB0.out b1
  have HR1 : Hid _ := HR.out.below HB1.out
  have HQ1 : Hid _ := HR0.out.below b1
  have hz1 : w.heap.size + 2 ≤ w1.heap.size := by have := b1.size; have := HZ.out; omega
  have gc : w1.cell? (ad.add j) = some (.int .i64 got) := by
    obtain ⟨a', e, hc⟩ := HR1.out.cell j _ (vals_at l j (by have := HN.out; have := HJ.out; omega))
    cases e
    rw [hc, hg.out]
  have HZ1 : Hid _ := hz1
  clear b1 hz1
  go_wp2_with (at_builtin; refine wpList_append_row _ rfl (.tmp 52) (.tmp 53) 22 2 _ 1 8 rfl Try.underlying22 infoI rfl (by decide) (by decide) w1.heap.size _ 0 [] rfl (own0 w1 2 1) (some ad) n cap (vals l) rfl (by have := HN.out; simp; omega) (fun h => by cases h) (HR1.out.below (alloc_below w1 _)) (vals_one l) (by omega) (alloc_below w1 _).size ?_; intro ao1 cap1 w2 own2 grow2; apply Hid.out)
  have HB2 : Hid _ := app_below grow2
  rw [Nat.zero_add, List.nil_append] at own2
  obtain ⟨g2, cap2, e2, hge, hlt2⟩ := own2.form (by have := HJ.out; omega)
  cases e2
  have HO2 : Hid _ := own2
  have hz1 := HZ1.out
  have HI2 := (HI1.out.below HB2.out)
  have HQ2 := (HQ1.out.below HB2.out)
  have n1 : ¬ g2 = w.heap.size := by omega
  have n2 : ¬ w.heap.size = g2 := by omega
  have n3 : ¬ g2 = w.heap.size + 1 := by omega
  have n4 : ¬ w.heap.size + 1 = g2 := by omega
  have gf := own_frozen (j := j) own2
  obtain ⟨gc2, hgc2⟩ : ∃ u, w2.cell? ⟨g2, j, none⟩ = some u := by
    obtain ⟨a', e, hc⟩ := (own_row own2).1.cell j _ (vals_at l j (by have := HN.out; have := HJ.out; omega))
    cases e
    rw [Addr.add_lit, Nat.zero_add] at hc
    exact ⟨_, hc⟩
  have HGE : Hid _ := hge
  obtain ⟨d0, d1, d2, d3, d4⟩ := HI2
  have HQ2' : Hid _ := HQ2
  clear own2 grow2 hge hlt2 c0 c1 c2 c3 c4 gc hz1 HQ2
  unfold Hid
  go_wp2_with fail
  obtain ⟨W, hW⟩ : ∃ W, w2.setCell ⟨g2, j, none⟩ (.int .i64 got) = W := ⟨_, rfl⟩
  rw [hW]
  have HW : Hid _ := hW
  have kW : Kept (fun i => i = g2) w2 W := hW ▸ kept_set _ w2 ⟨g2, j, none⟩ _ rfl
  have HIW : InO W w.heap.size ⟨1, j, a, v, ww⟩ := InO.kept (o := ⟨1, j, a, v, ww⟩) ⟨d0, d1, d2, d3, d4⟩ kW n2
  have HQW := HQ2'.out.kept kW n4
  clear hW d0 d1 d2 d3 d4 gf hgc2
  obtain ⟨d0, d1, d2, d3, d4⟩ := HIW
  obtain ⟨r0, r1, r2, r3, r4, r5, r6, rf⟩ := HQW
  have HKW : Hid _ := kW
  clear kW
  go_region_held3 (fun w' => w'.cell? ⟨w.heap.size, 0, none⟩ = some (.int .i64 1) ∧ w'.cell? ⟨w.heap.size, 1, none⟩ = some (.int .i64 j) ∧ w'.cell? ⟨w.heap.size, 2, none⟩ = some (.int .i64 a) ∧ w'.cell? ⟨w.heap.size, 3, none⟩ = some (.int .i64 v) ∧ w'.cell? ⟨w.heap.size, 4, none⟩ = some (.int .i64 ww)) (go_keep) (fail)
  all_goals go_wp2_with fail
  refine bodyPost_ret (v := .tuple #[.slice (some ⟨g2, 0, none⟩) n cap1, .agg #[.int .i64 1, .int .i64 j, .int .i64 a, .int .i64 v, .int .i64 ww, .int .i64 got, .bool true]]) (by simp [results, Try.results17, go_sem, r0, r1, r2, r3, r4, r5, r6]) rfl ⟨some ⟨g2, 0, none⟩, cap1, rfl, ?_, ?_⟩
  · have o1 := own_set (j := j) (.int .i64 got) HO2.out
    rw [HW.out] at o1
    have hge := HGE.out
    have hz1 := HZ1.out
    exact own_base (own_kept o1 (kept7 W (w.heap.size + 1) _ _ _ _ _ _ _).drew (fun i e => by cases e; exact n3)) (fun i e => by cases e; show w.heap.size ≤ g2; omega)
  · have b := q_trans HB1.out HB2.out
    have hge := HGE.out
    have hz1 := HZ1.out
    have b3 := b.trans (HKW.out.below _ b.size (fun i e => by omega))
    exact b3.trans ((kept7 W (w.heap.size + 1) _ _ _ _ _ _ _).drew.below _ b3.size (fun i e => by omega))

set_option maxRecDepth 100000 in
set_option maxHeartbeats 2000000 in
theorem rapply_2 (ad : Addr) (n cap j : Nat) (l : List Int) (a v ww got : Int) (w : World) (HN : Hid (n = l.length)) (hs : n ≤ 5000) (hj : j < n) (HR : Hid (Row w (some ad) (vals l)))
    (hg : Hid (l.getD j 0 = got)) (hok : Hid (okO ⟨2, j, a, v, ww⟩ n = true))
     :
    Calls Try.prog 17 #[.slice (some ad) n cap, .agg #[.int .i64 2, .int .i64 j, .int .i64 a, .int .i64 v, .int .i64 ww]] w fun e w' => ∃ ao' cap', e = .returned (.tuple #[.slice ao' n cap', .agg #[.int .i64 2, .int .i64 j, .int .i64 a, .int .i64 v, .int .i64 ww, .int .i64 got, .bool true]]) ∧ w'.ownsRow w.heap.size 2 1 (.slice ao' n cap') n (vals (l.set j v)) ∧ Below w.heap.size w w' := by
  have i1 : (0 : Int) ≤ (j : Int) := by omega
  have i2 : (j : Int) < (n : Int) := by omega
  obtain ⟨T1, T2, T3, T4⟩ := two_new w ⟨2, j, a, v, ww⟩
  have HI : Hid _ := T1
  have HR0 : Hid _ := T2
  have HB0 : Hid _ := T3
  have HZ : Hid _ := T4
  have HJ : Hid (j < n) := hj
  clear T1 T2 T3 T4 hj
  go_enter Try.func17, Try.ntmps17
  go_wp2_with fail
  refine (is_yes ⟨2, j, a, v, ww⟩ n _ hok.out).mono ?_
  rintro e w1 ⟨rfl, b1⟩
  have HI1 : Hid _ := HI.out.below b1
  obtain ⟨c0, c1, c2, c3, c4⟩ := HI1.out
  have HB1 : Hid _ := q_trans HB0.out b1
  have HR1 : Hid _ := HR.out.below HB1.out
  have HQ1 : Hid _ := HR0.out.below b1
  have hz1 : w.heap.size + 2 ≤ w1.heap.size := by have := b1.size; have := HZ.out; omega
  have gc : w1.cell? (ad.add j) = some (.int .i64 got) := by
    obtain ⟨a', e, hc⟩ := HR1.out.cell j _ (vals_at l j (by have := HN.out; have := HJ.out; omega))
    cases e
    rw [hc, hg.out]
  have HZ1 : Hid _ := hz1
  clear b1 hz1
  go_wp2_with (at_builtin; refine wpList_append_row _ rfl (.tmp 52) (.tmp 53) 22 2 _ 1 8 rfl Try.underlying22 infoI rfl (by decide) (by decide) w1.heap.size _ 0 [] rfl (own0 w1 2 1) (some ad) n cap (vals l) rfl (by have := HN.out; simp; omega) (fun h => by cases h) (HR1.out.below (alloc_below w1 _)) (vals_one l) (by omega) (alloc_below w1 _).size ?_; intro ao1 cap1 w2 own2 grow2; apply Hid.out)
  have HB2 : Hid _ := app_below grow2
  rw [Nat.zero_add, List.nil_append] at own2
  obtain ⟨g2, cap2, e2, hge, hlt2⟩ := own2.form (by have := HJ.out; omega)
  cases e2
  have HO2 : Hid _ := own2
  have hz1 := HZ1.out
  have HI2 := (HI1.out.below HB2.out)
  have HQ2 := (HQ1.out.below HB2.out)
  have n1 : ¬ g2 = w.heap.size := by omega
  have n2 : ¬ w.heap.size = g2 := by omega
  have n3 : ¬ g2 = w.heap.size + 1 := by omega
  have n4 : ¬ w.heap.size + 1 = g2 := by omega
  have gf := own_frozen (j := j) own2
  obtain ⟨gc2, hgc2⟩ : ∃ u, w2.cell? ⟨g2, j, none⟩ = some u := by
    obtain ⟨a', e, hc⟩ := (own_row own2).1.cell j _ (vals_at l j (by have := HN.out; have := HJ.out; omega))
    cases e
    rw [Addr.add_lit, Nat.zero_add] at hc
    exact ⟨_, hc⟩
  have HGE : Hid _ := hge
  obtain ⟨d0, d1, d2, d3, d4⟩ := HI2
  have HQ2' : Hid _ := HQ2
  clear own2 grow2 hge hlt2 c0 c1 c2 c3 c4 gc hz1 HQ2
  unfold Hid
  go_wp2_with fail
  obtain ⟨W, hW⟩ : ∃ W, w2.setCell ⟨g2, j, none⟩ (.int .i64 v) = W := ⟨_, rfl⟩
  rw [hW]
  have HW : Hid _ := hW
  have kW : Kept (fun i => i = g2) w2 W := hW ▸ kept_set _ w2 ⟨g2, j, none⟩ _ rfl
  have HIW : InO W w.heap.size ⟨2, j, a, v, ww⟩ := InO.kept (o := ⟨2, j, a, v, ww⟩) ⟨d0, d1, d2, d3, d4⟩ kW n2
  have HQW := HQ2'.out.kept kW n4
  clear hW d0 d1 d2 d3 d4 gf hgc2
  obtain ⟨d0, d1, d2, d3, d4⟩ := HIW
  obtain ⟨r0, r1, r2, r3, r4, r5, r6, rf⟩ := HQW
  have HKW : Hid _ := kW
  clear kW
  go_region_held3 (fun w' => w'.cell? ⟨w.heap.size, 0, none⟩ = some (.int .i64 2) ∧ w'.cell? ⟨w.heap.size, 1, none⟩ = some (.int .i64 j) ∧ w'.cell? ⟨w.heap.size, 2, none⟩ = some (.int .i64 a) ∧ w'.cell? ⟨w.heap.size, 3, none⟩ = some (.int .i64 v) ∧ w'.cell? ⟨w.heap.size, 4, none⟩ = some (.int .i64 ww)) (go_keep) (fail)
  all_goals go_wp2_with fail
  refine bodyPost_ret (v := .tuple #[.slice (some ⟨g2, 0, none⟩) n cap1, .agg #[.int .i64 2, .int .i64 j, .int .i64 a, .int .i64 v, .int .i64 ww, .int .i64 got, .bool true]]) (by simp [results, Try.results17, go_sem, r0, r1, r2, r3, r4, r5, r6]) rfl ⟨some ⟨g2, 0, none⟩, cap1, rfl, ?_, ?_⟩
  · have o1 := own_set (j := j) (.int .i64 v) HO2.out
    rw [HW.out] at o1
    have hge := HGE.out
    have hz1 := HZ1.out
    exact own_base (own_kept o1 (kept7 W (w.heap.size + 1) _ _ _ _ _ _ _).drew (fun i e => by cases e; exact n3)) (fun i e => by cases e; show w.heap.size ≤ g2; omega)
  · have b := q_trans HB1.out HB2.out
    have hge := HGE.out
    have hz1 := HZ1.out
    have b3 := b.trans (HKW.out.below _ b.size (fun i e => by omega))
    exact b3.trans ((kept7 W (w.heap.size + 1) _ _ _ _ _ _ _).drew.below _ b3.size (fun i e => by omega))

set_option maxRecDepth 100000 in
set_option maxHeartbeats 2000000 in
theorem rapply_3t (ad : Addr) (n cap j : Nat) (l : List Int) (a v ww got : Int) (w : World) (HN : Hid (n = l.length)) (hs : n ≤ 5000) (hj : j < n) (HR : Hid (Row w (some ad) (vals l)))
    (hg : Hid (l.getD j 0 = got)) (hok : Hid (okO ⟨3, j, a, v, ww⟩ n = true))
    (hq : (got == a) = true) :
    Calls Try.prog 17 #[.slice (some ad) n cap, .agg #[.int .i64 3, .int .i64 j, .int .i64 a, .int .i64 v, .int .i64 ww]] w fun e w' => ∃ ao' cap', e = .returned (.tuple #[.slice ao' n cap', .agg #[.int .i64 3, .int .i64 j, .int .i64 a, .int .i64 v, .int .i64 ww, .int .i64 got, .bool true]]) ∧ w'.ownsRow w.heap.size 2 1 (.slice ao' n cap') n (vals (l.set j v)) ∧ Below w.heap.size w w' := by
  have i1 : (0 : Int) ≤ (j : Int) := by omega
  have i2 : (j : Int) < (n : Int) := by omega
  obtain ⟨T1, T2, T3, T4⟩ := two_new w ⟨3, j, a, v, ww⟩
  have HI : Hid _ := T1
  have HR0 : Hid _ := T2
  have HB0 : Hid _ := T3
  have HZ : Hid _ := T4
  have HJ : Hid (j < n) := hj
  clear T1 T2 T3 T4 hj
  go_enter Try.func17, Try.ntmps17
  go_wp2_with fail
  refine (is_yes ⟨3, j, a, v, ww⟩ n _ hok.out).mono ?_
  rintro e w1 ⟨rfl, b1⟩
  have HI1 : Hid _ := HI.out.below b1
  obtain ⟨c0, c1, c2, c3, c4⟩ := HI1.out
  have HB1 : Hid _ := q_trans HB0.out b1
  have HR1 : Hid _ := HR.out.below HB1.out
  have HQ1 : Hid _ := HR0.out.below b1
  have hz1 : w.heap.size + 2 ≤ w1.heap.size := by have := b1.size; have := HZ.out; omega
  have gc : w1.cell? (ad.add j) = some (.int .i64 got) := by
    obtain ⟨a', e, hc⟩ := HR1.out.cell j _ (vals_at l j (by have := HN.out; have := HJ.out; omega))
    cases e
    rw [hc, hg.out]
  have HZ1 : Hid _ := hz1
  clear b1 hz1
  go_wp2_with (at_builtin; refine wpList_append_row _ rfl (.tmp 52) (.tmp 53) 22 2 _ 1 8 rfl Try.underlying22 infoI rfl (by decide) (by decide) w1.heap.size _ 0 [] rfl (own0 w1 2 1) (some ad) n cap (vals l) rfl (by have := HN.out; simp; omega) (fun h => by cases h) (HR1.out.below (alloc_below w1 _)) (vals_one l) (by omega) (alloc_below w1 _).size ?_; intro ao1 cap1 w2 own2 grow2; apply Hid.out)
  have HB2 : Hid _ := app_below grow2
  rw [Nat.zero_add, List.nil_append] at own2
  obtain ⟨g2, cap2, e2, hge, hlt2⟩ := own2.form (by have := HJ.out; omega)
  cases e2
  have HO2 : Hid _ := own2
  have hz1 := HZ1.out
  have HI2 := (HI1.out.below HB2.out)
  have HQ2 := (HQ1.out.below HB2.out)
  have n1 : ¬ g2 = w.heap.size := by omega
  have n2 : ¬ w.heap.size = g2 := by omega
  have n3 : ¬ g2 = w.heap.size + 1 := by omega
  have n4 : ¬ w.heap.size + 1 = g2 := by omega
  have gf := own_frozen (j := j) own2
  obtain ⟨gc2, hgc2⟩ : ∃ u, w2.cell? ⟨g2, j, none⟩ = some u := by
    obtain ⟨a', e, hc⟩ := (own_row own2).1.cell j _ (vals_at l j (by have := HN.out; have := HJ.out; omega))
    cases e
    rw [Addr.add_lit, Nat.zero_add] at hc
    exact ⟨_, hc⟩
  have HGE : Hid _ := hge
  obtain ⟨d0, d1, d2, d3, d4⟩ := HI2
  have HQ2' : Hid _ := HQ2
  clear own2 grow2 hge hlt2 c0 c1 c2 c3 c4 gc hz1 HQ2
  unfold Hid
  go_wp2_with fail
  obtain ⟨W, hW⟩ : ∃ W, w2.setCell ⟨g2, j, none⟩ (.int .i64 v) = W := ⟨_, rfl⟩
  rw [hW]
  have HW : Hid _ := hW
  have kW : Kept (fun i => i = g2) w2 W := hW ▸ kept_set _ w2 ⟨g2, j, none⟩ _ rfl
  have HIW : InO W w.heap.size ⟨3, j, a, v, ww⟩ := InO.kept (o := ⟨3, j, a, v, ww⟩) ⟨d0, d1, d2, d3, d4⟩ kW n2
  have HQW := HQ2'.out.kept kW n4
  clear hW d0 d1 d2 d3 d4 gf hgc2
  obtain ⟨d0, d1, d2, d3, d4⟩ := HIW
  obtain ⟨r0, r1, r2, r3, r4, r5, r6, rf⟩ := HQW
  have HKW : Hid _ := kW
  clear kW
  go_region_held3 (fun w' => w'.cell? ⟨w.heap.size, 0, none⟩ = some (.int .i64 3) ∧ w'.cell? ⟨w.heap.size, 1, none⟩ = some (.int .i64 j) ∧ w'.cell? ⟨w.heap.size, 2, none⟩ = some (.int .i64 a) ∧ w'.cell? ⟨w.heap.size, 3, none⟩ = some (.int .i64 v) ∧ w'.cell? ⟨w.heap.size, 4, none⟩ = some (.int .i64 ww)) (go_keep) (fail)
  all_goals go_wp2_with fail
  refine bodyPost_ret (v := .tuple #[.slice (some ⟨g2, 0, none⟩) n cap1, .agg #[.int .i64 3, .int .i64 j, .int .i64 a, .int .i64 v, .int .i64 ww, .int .i64 got, .bool true]]) (by simp [results, Try.results17, go_sem, r0, r1, r2, r3, r4, r5, r6]) rfl ⟨some ⟨g2, 0, none⟩, cap1, rfl, ?_, ?_⟩
  · have o1 := own_set (j := j) (.int .i64 v) HO2.out
    rw [HW.out] at o1
    have hge := HGE.out
    have hz1 := HZ1.out
    exact own_base (own_kept o1 (kept7 W (w.heap.size + 1) _ _ _ _ _ _ _).drew (fun i e => by cases e; exact n3)) (fun i e => by cases e; show w.heap.size ≤ g2; omega)
  · have b := q_trans HB1.out HB2.out
    have hge := HGE.out
    have hz1 := HZ1.out
    have b3 := b.trans (HKW.out.below _ b.size (fun i e => by omega))
    exact b3.trans ((kept7 W (w.heap.size + 1) _ _ _ _ _ _ _).drew.below _ b3.size (fun i e => by omega))

set_option maxRecDepth 100000 in
set_option maxHeartbeats 2000000 in
theorem rapply_3f (ad : Addr) (n cap j : Nat) (l : List Int) (a v ww got : Int) (w : World) (HN : Hid (n = l.length)) (hs : n ≤ 5000) (hj : j < n) (HR : Hid (Row w (some ad) (vals l)))
    (hg : Hid (l.getD j 0 = got)) (hok : Hid (okO ⟨3, j, a, v, ww⟩ n = true))
    (hq : (got == a) = false) :
    Calls Try.prog 17 #[.slice (some ad) n cap, .agg #[.int .i64 3, .int .i64 j, .int .i64 a, .int .i64 v, .int .i64 ww]] w fun e w' => ∃ ao' cap', e = .returned (.tuple #[.slice ao' n cap', .agg #[.int .i64 3, .int .i64 j, .int .i64 a, .int .i64 v, .int .i64 ww, .int .i64 got, .bool false]]) ∧ w'.ownsRow w.heap.size 2 1 (.slice ao' n cap') n (vals (l.set j got)) ∧ Below w.heap.size w w' := by
  have i1 : (0 : Int) ≤ (j : Int) := by omega
  have i2 : (j : Int) < (n : Int) := by omega
  obtain ⟨T1, T2, T3, T4⟩ := two_new w ⟨3, j, a, v, ww⟩
  have HI : Hid _ := T1
  have HR0 : Hid _ := T2
  have HB0 : Hid _ := T3
  have HZ : Hid _ := T4
  have HJ : Hid (j < n) := hj
  clear T1 T2 T3 T4 hj
  go_enter Try.func17, Try.ntmps17
  go_wp2_with fail
  refine (is_yes ⟨3, j, a, v, ww⟩ n _ hok.out).mono ?_
  rintro e w1 ⟨rfl, b1⟩
  have HI1 : Hid _ := HI.out.below b1
  obtain ⟨c0, c1, c2, c3, c4⟩ := HI1.out
  have HB1 : Hid _ := q_trans HB0.out b1
  have HR1 : Hid _ := HR.out.below HB1.out
  have HQ1 : Hid _ := HR0.out.below b1
  have hz1 : w.heap.size + 2 ≤ w1.heap.size := by have := b1.size; have := HZ.out; omega
  have gc : w1.cell? (ad.add j) = some (.int .i64 got) := by
    obtain ⟨a', e, hc⟩ := HR1.out.cell j _ (vals_at l j (by have := HN.out; have := HJ.out; omega))
    cases e
    rw [hc, hg.out]
  have HZ1 : Hid _ := hz1
  clear b1 hz1
  go_wp2_with (at_builtin; refine wpList_append_row _ rfl (.tmp 52) (.tmp 53) 22 2 _ 1 8 rfl Try.underlying22 infoI rfl (by decide) (by decide) w1.heap.size _ 0 [] rfl (own0 w1 2 1) (some ad) n cap (vals l) rfl (by have := HN.out; simp; omega) (fun h => by cases h) (HR1.out.below (alloc_below w1 _)) (vals_one l) (by omega) (alloc_below w1 _).size ?_; intro ao1 cap1 w2 own2 grow2; apply Hid.out)
  have HB2 : Hid _ := app_below grow2
  rw [Nat.zero_add, List.nil_append] at own2
  obtain ⟨g2, cap2, e2, hge, hlt2⟩ := own2.form (by have := HJ.out; omega)
  cases e2
  have HO2 : Hid _ := own2
  have hz1 := HZ1.out
  have HI2 := (HI1.out.below HB2.out)
  have HQ2 := (HQ1.out.below HB2.out)
  have n1 : ¬ g2 = w.heap.size := by omega
  have n2 : ¬ w.heap.size = g2 := by omega
  have n3 : ¬ g2 = w.heap.size + 1 := by omega
  have n4 : ¬ w.heap.size + 1 = g2 := by omega
  have gf := own_frozen (j := j) own2
  obtain ⟨gc2, hgc2⟩ : ∃ u, w2.cell? ⟨g2, j, none⟩ = some u := by
    obtain ⟨a', e, hc⟩ := (own_row own2).1.cell j _ (vals_at l j (by have := HN.out; have := HJ.out; omega))
    cases e
    rw [Addr.add_lit, Nat.zero_add] at hc
    exact ⟨_, hc⟩
  have HGE : Hid _ := hge
  obtain ⟨d0, d1, d2, d3, d4⟩ := HI2
  have HQ2' : Hid _ := HQ2
  clear own2 grow2 hge hlt2 c0 c1 c2 c3 c4 gc hz1 HQ2
  unfold Hid
  go_wp2_with fail
  obtain ⟨W, hW⟩ : ∃ W, w2.setCell ⟨g2, j, none⟩ (.int .i64 got) = W := ⟨_, rfl⟩
  rw [hW]
  have HW : Hid _ := hW
  have kW : Kept (fun i => i = g2) w2 W := hW ▸ kept_set _ w2 ⟨g2, j, none⟩ _ rfl
  have HIW : InO W w.heap.size ⟨3, j, a, v, ww⟩ := InO.kept (o := ⟨3, j, a, v, ww⟩) ⟨d0, d1, d2, d3, d4⟩ kW n2
  have HQW := HQ2'.out.kept kW n4
  clear hW d0 d1 d2 d3 d4 gf hgc2
  obtain ⟨d0, d1, d2, d3, d4⟩ := HIW
  obtain ⟨r0, r1, r2, r3, r4, r5, r6, rf⟩ := HQW
  have HKW : Hid _ := kW
  clear kW
  go_region_held3 (fun w' => w'.cell? ⟨w.heap.size, 0, none⟩ = some (.int .i64 3) ∧ w'.cell? ⟨w.heap.size, 1, none⟩ = some (.int .i64 j) ∧ w'.cell? ⟨w.heap.size, 2, none⟩ = some (.int .i64 a) ∧ w'.cell? ⟨w.heap.size, 3, none⟩ = some (.int .i64 v) ∧ w'.cell? ⟨w.heap.size, 4, none⟩ = some (.int .i64 ww)) (go_keep) (fail)
  all_goals go_wp2_with fail
  refine bodyPost_ret (v := .tuple #[.slice (some ⟨g2, 0, none⟩) n cap1, .agg #[.int .i64 3, .int .i64 j, .int .i64 a, .int .i64 v, .int .i64 ww, .int .i64 got, .bool false]]) (by simp [results, Try.results17, go_sem, r0, r1, r2, r3, r4, r5, r6]) rfl ⟨some ⟨g2, 0, none⟩, cap1, rfl, ?_, ?_⟩
  · have o1 := own_set (j := j) (.int .i64 got) HO2.out
    rw [HW.out] at o1
    have hge := HGE.out
    have hz1 := HZ1.out
    exact own_base (own_kept o1 (kept7 W (w.heap.size + 1) _ _ _ _ _ _ _).drew (fun i e => by cases e; exact n3)) (fun i e => by cases e; show w.heap.size ≤ g2; omega)
  · have b := q_trans HB1.out HB2.out
    have hge := HGE.out
    have hz1 := HZ1.out
    have b3 := b.trans (HKW.out.below _ b.size (fun i e => by omega))
    exact b3.trans ((kept7 W (w.heap.size + 1) _ _ _ _ _ _ _).drew.below _ b3.size (fun i e => by omega))

set_option maxRecDepth 100000 in
set_option maxHeartbeats 2000000 in
theorem rapply_4t (ad : Addr) (n cap j : Nat) (l : List Int) (a v ww got : Int) (w : World) (HN : Hid (n = l.length)) (hs : n ≤ 5000) (hj : j < n) (HR : Hid (Row w (some ad) (vals l)))
    (hg : Hid (l.getD j 0 = got)) (hok : Hid (okO ⟨4, j, a, v, ww⟩ n = true))
    (hq : (got == 0) = true) :
    Calls Try.prog 17 #[.slice (some ad) n cap, .agg #[.int .i64 4, .int .i64 j, .int .i64 a, .int .i64 v, .int .i64 ww]] w fun e w' => ∃ ao' cap', e = .returned (.tuple #[.slice ao' n cap', .agg #[.int .i64 4, .int .i64 j, .int .i64 a, .int .i64 v, .int .i64 ww, .int .i64 got, .bool true]]) ∧ w'.ownsRow w.heap.size 2 1 (.slice ao' n cap') n (vals (l.set j ww)) ∧ Below w.heap.size w w' := by
  have i1 : (0 : Int) ≤ (j : Int) := by omega
  have i2 : (j : Int) < (n : Int) := by omega
  obtain ⟨T1, T2, T3, T4⟩ := two_new w ⟨4, j, a, v, ww⟩
  have HI : Hid _ := T1
  have HR0 : Hid _ := T2
  have HB0 : Hid _ := T3
  have HZ : Hid _ := T4
  have HJ : Hid (j < n) := hj
  clear T1 T2 T3 T4 hj
  go_enter Try.func17, Try.ntmps17
  go_wp2_with fail
  refine (is_yes ⟨4, j, a, v, ww⟩ n _ hok.out).mono ?_
  rintro e w1 ⟨rfl, b1⟩
  have HI1 : Hid _ := HI.out.below b1
  obtain ⟨c0, c1, c2, c3, c4⟩ := HI1.out
  have HB1 : Hid _ := q_trans HB0.out b1
  have HR1 : Hid _ := HR.out.below HB1.out
  have HQ1 : Hid _ := HR0.out.below b1
  have hz1 : w.heap.size + 2 ≤ w1.heap.size := by have := b1.size; have := HZ.out; omega
  have gc : w1.cell? (ad.add j) = some (.int .i64 got) := by
    obtain ⟨a', e, hc⟩ := HR1.out.cell j _ (vals_at l j (by have := HN.out; have := HJ.out; omega))
    cases e
    rw [hc, hg.out]
  have HZ1 : Hid _ := hz1
  clear b1 hz1
  go_wp2_with (at_builtin; refine wpList_append_row _ rfl (.tmp 52) (.tmp 53) 22 2 _ 1 8 rfl Try.underlying22 infoI rfl (by decide) (by decide) w1.heap.size _ 0 [] rfl (own0 w1 2 1) (some ad) n cap (vals l) rfl (by have := HN.out; simp; omega) (fun h => by cases h) (HR1.out.below (alloc_below w1 _)) (vals_one l) (by omega) (alloc_below w1 _).size ?_; intro ao1 cap1 w2 own2 grow2; apply Hid.out)
  have HB2 : Hid _ := app_below grow2
  rw [Nat.zero_add, List.nil_append] at own2
  obtain ⟨g2, cap2, e2, hge, hlt2⟩ := own2.form (by have := HJ.out; omega)
  cases e2
  have HO2 : Hid _ := own2
  have hz1 := HZ1.out
  have HI2 := (HI1.out.below HB2.out)
  have HQ2 := (HQ1.out.below HB2.out)
  have n1 : ¬ g2 = w.heap.size := by omega
  have n2 : ¬ w.heap.size = g2 := by omega
  have n3 : ¬ g2 = w.heap.size + 1 := by omega
  have n4 : ¬ w.heap.size + 1 = g2 := by omega
  have gf := own_frozen (j := j) own2
  obtain ⟨gc2, hgc2⟩ : ∃ u, w2.cell? ⟨g2, j, none⟩ = some u := by
    obtain ⟨a', e, hc⟩ := (own_row own2).1.cell j _ (vals_at l j (by have := HN.out; have := HJ.out; omega))
    cases e
    rw [Addr.add_lit, Nat.zero_add] at hc
    exact ⟨_, hc⟩
  have HGE : Hid _ := hge
  obtain ⟨d0, d1, d2, d3, d4⟩ := HI2
  have HQ2' : Hid _ := HQ2
  clear own2 grow2 hge hlt2 c0 c1 c2 c3 c4 gc hz1 HQ2
  unfold Hid
  go_wp2_with fail
  obtain ⟨W, hW⟩ : ∃ W, w2.setCell ⟨g2, j, none⟩ (.int .i64 ww) = W := ⟨_, rfl⟩
  rw [hW]
  have HW : Hid _ := hW
  have kW : Kept (fun i => i = g2) w2 W := hW ▸ kept_set _ w2 ⟨g2, j, none⟩ _ rfl
  have HIW : InO W w.heap.size ⟨4, j, a, v, ww⟩ := InO.kept (o := ⟨4, j, a, v, ww⟩) ⟨d0, d1, d2, d3, d4⟩ kW n2
  have HQW := HQ2'.out.kept kW n4
  clear hW d0 d1 d2 d3 d4 gf hgc2
  obtain ⟨d0, d1, d2, d3, d4⟩ := HIW
  obtain ⟨r0, r1, r2, r3, r4, r5, r6, rf⟩ := HQW
  have HKW : Hid _ := kW
  clear kW
  go_region_held3 (fun w' => w'.cell? ⟨w.heap.size, 0, none⟩ = some (.int .i64 4) ∧ w'.cell? ⟨w.heap.size, 1, none⟩ = some (.int .i64 j) ∧ w'.cell? ⟨w.heap.size, 2, none⟩ = some (.int .i64 a) ∧ w'.cell? ⟨w.heap.size, 3, none⟩ = some (.int .i64 v) ∧ w'.cell? ⟨w.heap.size, 4, none⟩ = some (.int .i64 ww)) (go_keep) (fail)
  all_goals go_wp2_with fail
  refine bodyPost_ret (v := .tuple #[.slice (some ⟨g2, 0, none⟩) n cap1, .agg #[.int .i64 4, .int .i64 j, .int .i64 a, .int .i64 v, .int .i64 ww, .int .i64 got, .bool true]]) (by simp [results, Try.results17, go_sem, r0, r1, r2, r3, r4, r5, r6]) rfl ⟨some ⟨g2, 0, none⟩, cap1, rfl, ?_, ?_⟩
  · have o1 := own_set (j := j) (.int .i64 ww) HO2.out
    rw [HW.out] at o1
    have hge := HGE.out
    have hz1 := HZ1.out
    exact own_base (own_kept o1 (kept7 W (w.heap.size + 1) _ _ _ _ _ _ _).drew (fun i e => by cases e; exact n3)) (fun i e => by cases e; show w.heap.size ≤ g2; omega)
  · have b := q_trans HB1.out HB2.out
    have hge := HGE.out
    have hz1 := HZ1.out
    have b3 := b.trans (HKW.out.below _ b.size (fun i e => by omega))
    exact b3.trans ((kept7 W (w.heap.size + 1) _ _ _ _ _ _ _).drew.below _ b3.size (fun i e => by omega))

set_option maxRecDepth 100000 in
set_option maxHeartbeats 2000000 in
theorem rapply_4f (ad : Addr) (n cap j : Nat) (l : List Int) (a v ww got : Int) (w : World) (HN : Hid (n = l.length)) (hs : n ≤ 5000) (hj : j < n) (HR : Hid (Row w (some ad) (vals l)))
    (hg : Hid (l.getD j 0 = got)) (hok : Hid (okO ⟨4, j, a, v, ww⟩ n = true))
    (hq : (got == 0) = false) :
    Calls Try.prog 17 #[.slice (some ad) n cap, .agg #[.int .i64 4, .int .i64 j, .int .i64 a, .int .i64 v, .int .i64 ww]] w fun e w' => ∃ ao' cap', e = .returned (.tuple #[.slice ao' n cap', .agg #[.int .i64 4, .int .i64 j, .int .i64 a, .int .i64 v, .int .i64 ww, .int .i64 got, .bool false]]) ∧ w'.ownsRow w.heap.size 2 1 (.slice ao' n cap') n (vals (l.set j got)) ∧ Below w.heap.size w w' := by
  have i1 : (0 : Int) ≤ (j : Int) := by omega
  have i2 : (j : Int) < (n : Int) := by omega
  obtain ⟨T1, T2, T3, T4⟩ := two_new w ⟨4, j, a, v, ww⟩
  have HI : Hid _ := T1
  have HR0 : Hid _ := T2
  have HB0 : Hid _ := T3
  have HZ : Hid _ := T4
  have HJ : Hid (j < n) := hj
  clear T1 T2 T3 T4 hj
  go_enter Try.func17, Try.ntmps17
  go_wp2_with fail
  refine (is_yes ⟨4, j, a, v, ww⟩ n _ hok.out).mono ?_
  rintro e w1 ⟨rfl, b1⟩
  have HI1 : Hid _ := HI.out.below b1
  obtain ⟨c0, c1, c2, c3, c4⟩ := HI1.out
  have HB1 : Hid _ := q_trans HB0.out b1
  have HR1 : Hid _ := HR.out.below HB1.out
  have HQ1 : Hid _ := HR0.out.below b1
  have hz1 : w.heap.size + 2 ≤ w1.heap.size := by have := b1.size; have := HZ.out; omega
  have gc : w1.cell? (ad.add j) = some (.int .i64 got) := by
    obtain ⟨a', e, hc⟩ := HR1.out.cell j _ (vals_at l j (by have := HN.out; have := HJ.out; omega))
    cases e
    rw [hc, hg.out]
  have HZ1 : Hid _ := hz1
  clear b1 hz1
  go_wp2_with (at_builtin; refine wpList_append_row _ rfl (.tmp 52) (.tmp 53) 22 2 _ 1 8 rfl Try.underlying22 infoI rfl (by decide) (by decide) w1.heap.size _ 0 [] rfl (own0 w1 2 1) (some ad) n cap (vals l) rfl (by have := HN.out; simp; omega) (fun h => by cases h) (HR1.out.below (alloc_below w1 _)) (vals_one l) (by omega) (alloc_below w1 _).size ?_; intro ao1 cap1 w2 own2 grow2; apply Hid.out)
  have HB2 : Hid _ := app_below grow2
  rw [Nat.zero_add, List.nil_append] at own2
  obtain ⟨g2, cap2, e2, hge, hlt2⟩ := own2.form (by have := HJ.out; omega)
  cases e2
  have HO2 : Hid _ := own2
  have hz1 := HZ1.out
  have HI2 := (HI1.out.below HB2.out)
  have HQ2 := (HQ1.out.below HB2.out)
  have n1 : ¬ g2 = w.heap.size := by omega
  have n2 : ¬ w.heap.size = g2 := by omega
  have n3 : ¬ g2 = w.heap.size + 1 := by omega
  have n4 : ¬ w.heap.size + 1 = g2 := by omega
  have gf := own_frozen (j := j) own2
  obtain ⟨gc2, hgc2⟩ : ∃ u, w2.cell? ⟨g2, j, none⟩ = some u := by
    obtain ⟨a', e, hc⟩ := (own_row own2).1.cell j _ (vals_at l j (by have := HN.out; have := HJ.out; omega))
    cases e
    rw [Addr.add_lit, Nat.zero_add] at hc
    exact ⟨_, hc⟩
  have HGE : Hid _ := hge
  obtain ⟨d0, d1, d2, d3, d4⟩ := HI2
  have HQ2' : Hid _ := HQ2
  clear own2 grow2 hge hlt2 c0 c1 c2 c3 c4 gc hz1 HQ2
  unfold Hid
  go_wp2_with fail
  obtain ⟨W, hW⟩ : ∃ W, w2.setCell ⟨g2, j, none⟩ (.int .i64 got) = W := ⟨_, rfl⟩
  rw [hW]
  have HW : Hid _ := hW
  have kW : Kept (fun i => i = g2) w2 W := hW ▸ kept_set _ w2 ⟨g2, j, none⟩ _ rfl
  have HIW : InO W w.heap.size ⟨4, j, a, v, ww⟩ := InO.kept (o := ⟨4, j, a, v, ww⟩) ⟨d0, d1, d2, d3, d4⟩ kW n2
  have HQW := HQ2'.out.kept kW n4
  clear hW d0 d1 d2 d3 d4 gf hgc2
  obtain ⟨d0, d1, d2, d3, d4⟩ := HIW
  obtain ⟨r0, r1, r2, r3, r4, r5, r6, rf⟩ := HQW
  have HKW : Hid _ := kW
  clear kW
  go_region_held3 (fun w' => w'.cell? ⟨w.heap.size, 0, none⟩ = some (.int .i64 4) ∧ w'.cell? ⟨w.heap.size, 1, none⟩ = some (.int .i64 j) ∧ w'.cell? ⟨w.heap.size, 2, none⟩ = some (.int .i64 a) ∧ w'.cell? ⟨w.heap.size, 3, none⟩ = some (.int .i64 v) ∧ w'.cell? ⟨w.heap.size, 4, none⟩ = some (.int .i64 ww)) (go_keep) (fail)
  all_goals go_wp2_with fail
  refine bodyPost_ret (v := .tuple #[.slice (some ⟨g2, 0, none⟩) n cap1, .agg #[.int .i64 4, .int .i64 j, .int .i64 a, .int .i64 v, .int .i64 ww, .int .i64 got, .bool false]]) (by simp [results, Try.results17, go_sem, r0, r1, r2, r3, r4, r5, r6]) rfl ⟨some ⟨g2, 0, none⟩, cap1, rfl, ?_, ?_⟩
  · have o1 := own_set (j := j) (.int .i64 got) HO2.out
    rw [HW.out] at o1
    have hge := HGE.out
    have hz1 := HZ1.out
    exact own_base (own_kept o1 (kept7 W (w.heap.size + 1) _ _ _ _ _ _ _).drew (fun i e => by cases e; exact n3)) (fun i e => by cases e; show w.heap.size ≤ g2; omega)
  · have b := q_trans HB1.out HB2.out
    have hge := HGE.out
    have hz1 := HZ1.out
    have b3 := b.trans (HKW.out.below _ b.size (fun i e => by omega))
    exact b3.trans ((kept7 W (w.heap.size + 1) _ _ _ _ _ _ _).drew.below _ b3.size (fun i e => by omega))

set_option maxRecDepth 100000 in
set_option maxHeartbeats 2000000 in
theorem rapply_5t (ad : Addr) (n cap j : Nat) (l : List Int) (a v ww got : Int) (w : World) (HN : Hid (n = l.length)) (hs : n ≤ 5000) (hj : j < n) (HR : Hid (Row w (some ad) (vals l)))
    (hg : Hid (l.getD j 0 = got)) (hok : Hid (okO ⟨5, j, a, v, ww⟩ n = true))
    (hq : (got == ww) = true) :
    Calls Try.prog 17 #[.slice (some ad) n cap, .agg #[.int .i64 5, .int .i64 j, .int .i64 a, .int .i64 v, .int .i64 ww]] w fun e w' => ∃ ao' cap', e = .returned (.tuple #[.slice ao' n cap', .agg #[.int .i64 5, .int .i64 j, .int .i64 a, .int .i64 v, .int .i64 ww, .int .i64 got, .bool true]]) ∧ w'.ownsRow w.heap.size 2 1 (.slice ao' n cap') n (vals (l.set j 0)) ∧ Below w.heap.size w w' := by
  have i1 : (0 : Int) ≤ (j : Int) := by omega
  have i2 : (j : Int) < (n : Int) := by omega
  obtain ⟨T1, T2, T3, T4⟩ := two_new w ⟨5, j, a, v, ww⟩
  have HI : Hid _ := T1
  have HR0 : Hid _ := T2
  have HB0 : Hid _ := T3
  have HZ : Hid _ := T4
  have HJ : Hid (j < n) := hj
  clear T1 T2 T3 T4 hj
  go_enter Try.func17, Try.ntmps17
  go_wp2_with fail
  refine (is_yes ⟨5, j, a, v, ww⟩ n _ hok.out).mono ?_
  rintro e w1 ⟨rfl, b1⟩
  have HI1 : Hid _ := HI.out.below b1
  obtain ⟨c0, c1, c2, c3, c4⟩ := HI1.out
  have HB1 : Hid _ := q_trans HB0.out b1
  have HR1 : Hid _ := HR.out.below HB1.out
  have HQ1 : Hid _ := HR0.out.below b1
  have hz1 : w.heap.size + 2 ≤ w1.heap.size := by have := b1.size; have := HZ.out; omega
  have gc : w1.cell? (ad.add j) = some (.int .i64 got) := by
    obtain ⟨a', e, hc⟩ := HR1.out.cell j _ (vals_at l j (by have := HN.out; have := HJ.out; omega))
    cases e
    rw [hc, hg.out]
  have HZ1 : Hid _ := hz1
  clear b1 hz1
  go_wp2_with (at_builtin; refine wpList_append_row _ rfl (.tmp 52) (.tmp 53) 22 2 _ 1 8 rfl Try.underlying22 infoI rfl (by decide) (by decide) w1.heap.size _ 0 [] rfl (own0 w1 2 1) (some ad) n cap (vals l) rfl (by have := HN.out; simp; omega) (fun h => by cases h) (HR1.out.below (alloc_below w1 _)) (vals_one l) (by omega) (alloc_below w1 _).size ?_; intro ao1 cap1 w2 own2 grow2; apply Hid.out)
  have HB2 : Hid _ := app_below grow2
  rw [Nat.zero_add, List.nil_append] at own2
  obtain ⟨g2, cap2, e2, hge, hlt2⟩ := own2.form (by have := HJ.out; omega)
  cases e2
  have HO2 : Hid _ := own2
  have hz1 := HZ1.out
  have HI2 := (HI1.out.below HB2.out)
  have HQ2 := (HQ1.out.below HB2.out)
  have n1 : ¬ g2 = w.heap.size := by omega
  have n2 : ¬ w.heap.size = g2 := by omega
  have n3 : ¬ g2 = w.heap.size + 1 := by omega
  have n4 : ¬ w.heap.size + 1 = g2 := by omega
  have gf := own_frozen (j := j) own2
  obtain ⟨gc2, hgc2⟩ : ∃ u, w2.cell? ⟨g2, j, none⟩ = some u := by
    obtain ⟨a', e, hc⟩ := (own_row own2).1.cell j _ (vals_at l j (by have := HN.out; have := HJ.out; omega))
    cases e
    rw [Addr.add_lit, Nat.zero_add] at hc
    exact ⟨_, hc⟩
  have HGE : Hid _ := hge
  obtain ⟨d0, d1, d2, d3, d4⟩ := HI2
  have HQ2' : Hid _ := HQ2
  clear own2 grow2 hge hlt2 c0 c1 c2 c3 c4 gc hz1 HQ2
  unfold Hid
  go_wp2_with fail
  obtain ⟨W, hW⟩ : ∃ W, w2.setCell ⟨g2, j, none⟩ (.int .i64 0) = W := ⟨_, rfl⟩
  rw [hW]
  have HW : Hid _ := hW
  have kW : Kept (fun i => i = g2) w2 W := hW ▸ kept_set _ w2 ⟨g2, j, none⟩ _ rfl
  have HIW : InO W w.heap.size ⟨5, j, a, v, ww⟩ := InO.kept (o := ⟨5, j, a, v, ww⟩) ⟨d0, d1, d2, d3, d4⟩ kW n2
  have HQW := HQ2'.out.kept kW n4
  clear hW d0 d1 d2 d3 d4 gf hgc2
  obtain ⟨d0, d1, d2, d3, d4⟩ := HIW
  obtain ⟨r0, r1, r2, r3, r4, r5, r6, rf⟩ := HQW
  have HKW : Hid _ := kW
  clear kW
  go_region_held3 (fun w' => w'.cell? ⟨w.heap.size, 0, none⟩ = some (.int .i64 5) ∧ w'.cell? ⟨w.heap.size, 1, none⟩ = some (.int .i64 j) ∧ w'.cell? ⟨w.heap.size, 2, none⟩ = some (.int .i64 a) ∧ w'.cell? ⟨w.heap.size, 3, none⟩ = some (.int .i64 v) ∧ w'.cell? ⟨w.heap.size, 4, none⟩ = some (.int .i64 ww)) (go_keep) (fail)
  all_goals go_wp2_with fail
  refine bodyPost_ret (v := .tuple #[.slice (some ⟨g2, 0, none⟩) n cap1, .agg #[.int .i64 5, .int .i64 j, .int .i64 a, .int .i64 v, .int .i64 ww, .int .i64 got, .bool true]]) (by simp [results, Try.results17, go_sem, r0, r1, r2, r3, r4, r5, r6]) rfl ⟨some ⟨g2, 0, none⟩, cap1, rfl, ?_, ?_⟩
  · have o1 := own_set (j := j) (.int .i64 0) HO2.out
    rw [HW.out] at o1
    have hge := HGE.out
    have hz1 := HZ1.out
    exact own_base (own_kept o1 (kept7 W (w.heap.size + 1) _ _ _ _ _ _ _).drew (fun i e => by cases e; exact n3)) (fun i e => by cases e; show w.heap.size ≤ g2; omega)
  · have b := q_trans HB1.out HB2.out
    have hge := HGE.out
    have hz1 := HZ1.out
    have b3 := b.trans (HKW.out.below _ b.size (fun i e => by omega))
    exact b3.trans ((kept7 W (w.heap.size + 1) _ _ _ _ _ _ _).drew.below _ b3.size (fun i e => by omega))

set_option maxRecDepth 100000 in
set_option maxHeartbeats 2000000 in
theorem rapply_5f (ad : Addr) (n cap j : Nat) (l : List Int) (a v ww got : Int) (w : World) (HN : Hid (n = l.length)) (hs : n ≤ 5000) (hj : j < n) (HR : Hid (Row w (some ad) (vals l)))
    (hg : Hid (l.getD j 0 = got)) (hok : Hid (okO ⟨5, j, a, v, ww⟩ n = true))
    (hq : (got == ww) = false) :
    Calls Try.prog 17 #[.slice (some ad) n cap, .agg #[.int .i64 5, .int .i64 j, .int .i64 a, .int .i64 v, .int .i64 ww]] w fun e w' => ∃ ao' cap', e = .returned (.tuple #[.slice ao' n cap', .agg #[.int .i64 5, .int .i64 j, .int .i64 a, .int .i64 v, .int .i64 ww, .int .i64 got, .bool false]]) ∧ w'.ownsRow w.heap.size 2 1 (.slice ao' n cap') n (vals (l.set j got)) ∧ Below w.heap.size w w' := by
  have i1 : (0 : Int) ≤ (j : Int) := by omega
  have i2 : (j : Int) < (n : Int) := by omega
  obtain ⟨T1, T2, T3, T4⟩ := two_new w ⟨5, j, a, v, ww⟩
  have HI : Hid _ := T1
  have HR0 : Hid _ := T2
  have HB0 : Hid _ := T3
  have HZ : Hid _ := T4
  have HJ : Hid (j < n) := hj
  clear T1 T2 T3 T4 hj
  go_enter Try.func17, Try.ntmps17
  go_wp2_with fail
  refine (is_yes ⟨5, j, a, v, ww⟩ n _ hok.out).mono ?_
  rintro e w1 ⟨rfl, b1⟩
  have HI1 : Hid _ := HI.out.below b1
  obtain ⟨c0, c1, c2, c3, c4⟩ := HI1.out
  have HB1 : Hid _ := q_trans HB0.out b1
  have HR1 : Hid _ := HR.out.below HB1.out
  have HQ1 : Hid _ := HR0.out.below b1
  have hz1 : w.heap.size + 2 ≤ w1.heap.size := by have := b1.size; have := HZ.out; omega
  have gc : w1.cell? (ad.add j) = some (.int .i64 got) := by
    obtain ⟨a', e, hc⟩ := HR1.out.cell j _ (vals_at l j (by have := HN.out; have := HJ.out; omega))
    cases e
    rw [hc, hg.out]
  have HZ1 : Hid _ := hz1
  clear b1 hz1
  go_wp2_with (at_builtin; refine wpList_append_row _ rfl (.tmp 52) (.tmp 53) 22 2 _ 1 8 rfl Try.underlying22 infoI rfl (by decide) (by decide) w1.heap.size _ 0 [] rfl (own0 w1 2 1) (some ad) n cap (vals l) rfl (by have := HN.out; simp; omega) (fun h => by cases h) (HR1.out.below (alloc_below w1 _)) (vals_one l) (by omega) (alloc_below w1 _).size ?_; intro ao1 cap1 w2 own2 grow2; apply Hid.out)
  have HB2 : Hid _ := app_below grow2
  rw [Nat.zero_add, List.nil_append] at own2
  obtain ⟨g2, cap2, e2, hge, hlt2⟩ := own2.form (by have := HJ.out; omega)
  cases e2
  have HO2 : Hid _ := own2
  have hz1 := HZ1.out
  have HI2 := (HI1.out.below HB2.out)
  have HQ2 := (HQ1.out.below HB2.out)
  have n1 : ¬ g2 = w.heap.size := by omega
  have n2 : ¬ w.heap.size = g2 := by omega
  have n3 : ¬ g2 = w.heap.size + 1 := by omega
  have n4 : ¬ w.heap.size + 1 = g2 := by omega
  have gf := own_frozen (j := j) own2
  obtain ⟨gc2, hgc2⟩ : ∃ u, w2.cell? ⟨g2, j, none⟩ = some u := by
    obtain ⟨a', e, hc⟩ := (own_row own2).1.cell j _ (vals_at l j (by have := HN.out; have := HJ.out; omega))
    cases e
    rw [Addr.add_lit, Nat.zero_add] at hc
    exact ⟨_, hc⟩
  have HGE : Hid _ := hge
  obtain ⟨d0, d1, d2, d3, d4⟩ := HI2
  have HQ2' : Hid _ := HQ2
  clear own2 grow2 hge hlt2 c0 c1 c2 c3 c4 gc hz1 HQ2
  unfold Hid
  go_wp2_with fail
  obtain ⟨W, hW⟩ : ∃ W, w2.setCell ⟨g2, j, none⟩ (.int .i64 got) = W := ⟨_, rfl⟩
  rw [hW]
  have HW : Hid _ := hW
  have kW : Kept (fun i => i = g2) w2 W := hW ▸ kept_set _ w2 ⟨g2, j, none⟩ _ rfl
  have HIW : InO W w.heap.size ⟨5, j, a, v, ww⟩ := InO.kept (o := ⟨5, j, a, v, ww⟩) ⟨d0, d1, d2, d3, d4⟩ kW n2
  have HQW := HQ2'.out.kept kW n4
  clear hW d0 d1 d2 d3 d4 gf hgc2
  obtain ⟨d0, d1, d2, d3, d4⟩ := HIW
  obtain ⟨r0, r1, r2, r3, r4, r5, r6, rf⟩ := HQW
  have HKW : Hid _ := kW
  clear kW
  go_region_held3 (fun w' => w'.cell? ⟨w.heap.size, 0, none⟩ = some (.int .i64 5) ∧ w'.cell? ⟨w.heap.size, 1, none⟩ = some (.int .i64 j) ∧ w'.cell? ⟨w.heap.size, 2, none⟩ = some (.int .i64 a) ∧ w'.cell? ⟨w.heap.size, 3, none⟩ = some (.int .i64 v) ∧ w'.cell? ⟨w.heap.size, 4, none⟩ = some (.int .i64 ww)) (go_keep) (fail)
  all_goals go_wp2_with fail
  refine bodyPost_ret (v := .tuple #[.slice (some ⟨g2, 0, none⟩) n cap1, .agg #[.int .i64 5, .int .i64 j, .int .i64 a, .int .i64 v, .int .i64 ww, .int .i64 got, .bool false]]) (by simp [results, Try.results17, go_sem, r0, r1, r2, r3, r4, r5, r6]) rfl ⟨some ⟨g2, 0, none⟩, cap1, rfl, ?_, ?_⟩
  · have o1 := own_set (j := j) (.int .i64 got) HO2.out
    rw [HW.out] at o1
    have hge := HGE.out
    have hz1 := HZ1.out
    exact own_base (own_kept o1 (kept7 W (w.heap.size + 1) _ _ _ _ _ _ _).drew (fun i e => by cases e; exact n3)) (fun i e => by cases e; show w.heap.size ≤ g2; omega)
  · have b := q_trans HB1.out HB2.out
    have hge := HGE.out
    have hz1 := HZ1.out
    have b3 := b.trans (HKW.out.below _ b.size (fun i e => by omega))
    exact b3.trans ((kept7 W (w.heap.size + 1) _ _ _ _ _ _ _).drew.below _ b3.size (fun i e => by omega))

/-- THE REFERENCE's Apply. -/
theorem rapply_yes (ao : Option Addr) (n cap : Nat) (l : List Int) (o : O) (w : World) (hn : n = l.length) (hs : n ≤ 5000) (hr : Row w ao (vals l)) (hok : okO o n = true) :
    Calls Try.prog 17 #[.slice ao n cap, (.agg #[.int .i64 o.k, .int .i64 o.c, .int .i64 o.a, .int .i64 o.v, .int .i64 o.w])] w fun e w' => ∃ ao' cap', e = .returned (.tuple #[.slice ao' n cap', (.agg #[.int .i64 (apR l o).o.k, .int .i64 (apR l o).o.c, .int .i64 (apR l o).o.a, .int .i64 (apR l o).o.v, .int .i64 (apR l o).o.w, .int .i64 (apR l o).got, .bool (apR l o).ok])]) ∧ w'.ownsRow w.heap.size 2 1 (.slice ao' n cap') n (vals (apV l o)) ∧ Below w.heap.size w w' := by
  have hk := okO_iff.1 hok
  have hok' : okO o l.length = true := hn ▸ hok
  rw [apR_yes hok', apV_yes hok']
  obtain ⟨k, c, a, v, ww⟩ := o
  obtain ⟨j, rfl⟩ := Int.eq_ofNat_of_zero_le hk.2.1
  have hj : j < n := by have := hk.2.2; dsimp only at this; omega
  obtain ⟨ad, rfl, _⟩ := hr.lt (by rw [len_vals]; omega)
  have e1 : at0 l ⟨k, j, a, v, ww⟩ = l.getD j 0 := rfl
  have e2 : (⟨k, j, a, v, ww⟩ : O).c.toNat = j := rfl
  rw [e1, e2]
  rcases legs k j a v ww (l.getD j 0) ⟨hk.1.1, hk.1.2.1⟩ with ⟨rfl, h1, h2⟩ | ⟨rfl, h1, h2⟩ | ⟨rfl, hq, h1, h2⟩ | ⟨rfl, hq, h1, h2⟩ | ⟨rfl, hq, h1, h2⟩ | ⟨rfl, hq, h1, h2⟩ | ⟨rfl, hq, h1, h2⟩ | ⟨rfl, hq, h1, h2⟩
  all_goals rw [← h1, ← h2]
  · exact rapply_1 ad n cap j l a v ww _ w hn hs hj hr rfl hok
  · exact rapply_2 ad n cap j l a v ww _ w hn hs hj hr rfl hok
  · exact rapply_3t ad n cap j l a v ww _ w hn hs hj hr rfl hok hq
  · exact rapply_3f ad n cap j l a v ww _ w hn hs hj hr rfl hok hq
  · exact rapply_4t ad n cap j l a v ww _ w hn hs hj hr rfl hok hq
  · exact rapply_4f ad n cap j l a v ww _ w hn hs hj hr rfl hok hq
  · exact rapply_5t ad n cap j l a v ww _ w hn hs hj hr rfl hok hq
  · exact rapply_5f ad n cap j l a v ww _ w hn hs hj hr rfl hok hq
/-- A slice where it was, or in a block that is new. -/
def NewOr (w w' : World) (ao ao' : Option Addr) (cap cap' : Nat) : Prop := (ao' = ao ∧ cap' = cap) ∨ ∀ a, ao' = some a → w.heap.size ≤ a.block ∧ a.block < w'.heap.size
theorem rapply_any (ao : Option Addr) (n cap : Nat) (l : List Int) (o : O) (w : World) (hn : n = l.length) (hs : n ≤ 5000) (hc : ao = none → cap = 0) (hr : Row w ao (vals l)) :
    Calls Try.prog 17 #[.slice ao n cap, (.agg #[.int .i64 o.k, .int .i64 o.c, .int .i64 o.a, .int .i64 o.v, .int .i64 o.w])] w fun e w' => ∃ ao' cap', e = .returned (.tuple #[.slice ao' n cap', (.agg #[.int .i64 (apR l o).o.k, .int .i64 (apR l o).o.c, .int .i64 (apR l o).o.a, .int .i64 (apR l o).o.v, .int .i64 (apR l o).o.w, .int .i64 (apR l o).got, .bool (apR l o).ok])]) ∧ Row w' ao' (vals (apV l o)) ∧ (ao' = none → cap' = 0) ∧ NewOr w w' ao ao' cap cap' ∧ Below w.heap.size w w' := by
  cases hok : okO o n with
  | true =>
    refine (rapply_yes ao n cap l o w hn hs hr hok).mono ?_
    rintro e w' ⟨ao', cap', rfl, h1, h2⟩
    have := own_row h1
    exact ⟨ao', cap', rfl, this.1, this.2.2.1, .inr this.2.2.2, h2⟩
  | false =>
    rw [apV_no (hn ▸ hok), apR_no (hn ▸ hok)]
    refine (rapply_no ao n cap o w hok).mono ?_
    rintro e w' ⟨rfl, h2⟩
    exact ⟨ao, cap, rfl, hr.below h2, hc, .inl ⟨rfl, rfl⟩, h2⟩
end Go.Proofs.Ytadobkecdcnjkab.Ce
