/- What the document's Retire does. -/
import Derived.Test.YtejghoncihdfkaaEpApp
namespace Go.Proofs.Ytejghoncihdfkaa.Ep
open Go.RowKit

/-- What the last row reads. -/
abbrev SR (b0 : Nat) (n : Int) (po lo : Option Addr) (P L pc lc : Nat) (q : Addr) (o : Option Addr) (m c : Nat) (w : World) : Prop :=
  w.cell? ⟨b0, 0, none⟩ = some (.int .i64 n) ∧ w.cell? ⟨b0, 1, none⟩ = some (.slice po P pc) ∧ w.cell? ⟨b0, 2, none⟩ = some (.slice lo L lc) ∧ w.cell? q = some (.slice o m c)
section
variable {b0 : Nat} {n : Int} {po lo : Option Addr} {P L pc lc : Nat} {q : Addr} {o : Option Addr} {m c : Nat} {w w' : World}
theorem sr_keep (hb : Below w.heap.size w w') (h : SR b0 n po lo P L pc lc q o m c w) : SR b0 n po lo P L pc lc q o m c w' :=
  ⟨(hb.cell (World.block_lt_of_cell? w _ h.1)).trans h.1, (hb.cell (World.block_lt_of_cell? w _ h.2.1)).trans h.2.1, (hb.cell (World.block_lt_of_cell? w _ h.2.2.1)).trans h.2.2.1, (hb.cell (World.block_lt_of_cell? w _ h.2.2.2)).trans h.2.2.2⟩
theorem sr_drew (h : SR b0 n po lo P L pc lc q o m c w) : SR b0 n po lo P L pc lc q o m c w.drew := h
theorem sr_alloc {x : Obj} (h : SR b0 n po lo P L pc lc q o m c w) : SR b0 n po lo P L pc lc q o m c (w.alloc x) := sr_keep (alloc_below _ _) h
theorem sr_put {d i : Nat} {u : Value} (h : SR b0 n po lo P L pc lc q o m c w) (h1 : b0 ≠ d) (h2 : q.block ≠ d) : SR b0 n po lo P L pc lc q o m c (w.setCell ⟨d, i, none⟩ u) := by
  have k := fun (j : Nat) => World.cell?_setCell_other w ⟨d, i, none⟩ ⟨b0, j, none⟩ u (by intro e; exact h1 (congrArg Addr.block e).symm)
  exact ⟨(k 0).trans h.1, (k 1).trans h.2.1, (k 2).trans h.2.2.1, (World.cell?_setCell_other w ⟨d, i, none⟩ q u (by intro e; exact h2 (congrArg Addr.block e).symm)).trans h.2.2.2⟩
theorem sr_three {d : Nat} {u v x : Value} (h : SR b0 n po lo P L pc lc q o m c w) (h1 : b0 ≠ d) (h2 : q.block ≠ d) : SR b0 n po lo P L pc lc q o m c (((w.setCell ⟨d, 0, none⟩ u).setCell ⟨d, 1, none⟩ v).setCell ⟨d, 2, none⟩ x) := sr_put (sr_put (sr_put h h1 h2) h1 h2) h1 h2
end
theorem reE_arg {e : E} {c o : Int} (h : (coB e c && (decide (0 ≤ o) && decide (o ≤ 63))) = false) : reE e c o = 2 ∧ reA e c o = e := by
  have h2 : reE e c o = 2 := by unfold reE; rw [h]; rfl
  exact ⟨h2, re_same (by rw [h2]; decide)⟩
theorem reE_full {e : E} {c o : Int} (h : (coB e c && (decide (0 ≤ o) && decide (o ≤ 63))) = true) (k : ¬ (limOf e c).length < 8) : reE e c o = 5 ∧ reA e c o = e := by
  have h2 : reE e c o = 5 := by unfold reE; rw [h, if_neg k]; rfl
  exact ⟨h2, re_same (by rw [h2]; decide)⟩
theorem reE_ok {e : E} {c o : Int} (h : (coB e c && (decide (0 ≤ o) && decide (o ≤ 63))) = true) (k : (limOf e c).length < 8) : reE e c o = 0 ∧ reA e c o = setL e c (limOf e c ++ [(o, e.now)]) := by
  have h2 : reE e c o = 0 := by unfold reE; rw [h, if_pos k]; rfl
  exact ⟨h2, by unfold reA; rw [if_pos h2]⟩
set_option maxRecDepth 100000 in
set_option maxHeartbeats 4000000 in
theorem rRet_any (y : WE) (e : E) (c ob : Int) (Av : Nat → Prop) (w : World) (hA : Hid (∀ i, Av i → i < w.heap.size)) (HS : Hid (Sm e)) (HE : Hid (HasE w Av y e)) :
    Calls Try.prog 28 #[(.agg #[.int .i64 e.now, .slice y.p.o y.p.n y.p.c, .slice y.l.o y.l.n y.l.c]), .int .i64 c, .int .i64 ob] w fun r w' => ∃ z : WE, r = .returned (.tuple #[(.agg #[.int .i64 e.now, .slice z.p.o z.p.n z.p.c, .slice z.l.o z.l.n z.l.c]), .int .i64 (reE e c ob)]) ∧ HasE w' Av z (reA e c ob) ∧ Below w.heap.size w w' := by
  obtain ⟨⟨po, P, pc⟩, ⟨lo, L, lc⟩⟩ := y
  have HP : Hid (L = e.lim.length) := HE.out.ln
  cases hco : coB e c with
  | false =>
    have HR := hid (reE_arg (e := e) (c := c) (o := ob) (by rw [hco]; rfl))
    have HI := hid (fun (W : World) (h : HasE W Av ⟨⟨po, P, pc⟩, ⟨lo, L, lc⟩⟩ e) => is_rcore HS.out h hco)
    clear hco
    generalize e.now = n at HI ⊢
    go_enter Try.func28, Try.ntmps28
    go_wp2_with fail
    have HB : Hid (B2 w ((w.alloc (.cells #[.int .i64 n, .slice po P pc, .slice lo L lc] 25)).alloc (.cells #[.int .i64 0, .slice none 0 0, .slice none 0 0] 25)) n 0 ⟨⟨po, P, pc⟩, ⟨lo, L, lc⟩⟩ WE.zero) := b2_start w n 0 ⟨⟨po, P, pc⟩, ⟨lo, L, lc⟩⟩ WE.zero 25
    refine (HI.out _ (HE.out.below HB.out.low)).mono ?_
    rintro r w1 ⟨rfl, b1⟩
    replace HB := hid (HB.out.below b1)
    clear b1
    obtain ⟨x0, x1, x2, xf⟩ := HB.out.a
    obtain ⟨z0, z1, z2, zf⟩ := HB.out.b
    have hb1 : w.heap.size < w1.heap.size := HB.out.a.lt
    have hb2 : w.heap.size + 1 < w1.heap.size := HB.out.b.lt
    go_wp2_with fail
    refine bodyPost_ret (v := .tuple #[.agg #[.int .i64 n, .slice po P pc, .slice lo L lc], .int .i64 2]) (by simp [results, Try.results28, go_sem, *]) rfl ⟨⟨⟨po, P, pc⟩, ⟨lo, L, lc⟩⟩, ret_ep HR.out.1.symm, ?_, fin_low HB.out.low _ _ _⟩
    rw [HR.out.2]
    exact fin_has (arg_has HE.out HB.out.low) _ _ _
  | true =>
    obtain ⟨hok, c0, c1⟩ := co_iff.1 hco
    have HLe := hid hok.len
    obtain ⟨k, rfl⟩ : ∃ k : Nat, c = (k : Int) := ⟨c.toNat, by omega⟩
    have hkL : k < L := by have := HP.out; have := HLe.out; omega
    have i1 : (0 : Int) ≤ (k : Int) := by omega
    have i2 : (k : Int) < (L : Int) := by omega
    have HI := hid (fun (W : World) (h : HasE W Av ⟨⟨po, P, pc⟩, ⟨lo, L, lc⟩⟩ e) => is_rcore HS.out h hco)
    by_cases ho : 0 ≤ ob ∧ ob ≤ 63
    · have hc2 : (coB e (k : Int) && (decide (0 ≤ ob) && decide (ob ≤ 63))) = true := by simp [hco, ho]
      obtain ⟨o1, o2⟩ := ho
      have HLi := hid (fun (W : World) (h : HasE W Av ⟨⟨po, P, pc⟩, ⟨lo, L, lc⟩⟩ e) => h.list k (by have := HP.out; omega))
      obtain ⟨l, hl⟩ : ∃ l, e.lim.getD k [] = l := ⟨_, rfl⟩
      have HLf : Hid (limOf e (k : Int) = l) := by unfold Hid limOf; simpa using hl
      have hl30 : l.length ≤ 30 := by rw [← hl]; exact HS.out.each k (by have := HP.out; omega)
      rw [hl] at HLi
      clear hl
      by_cases h8 : l.length < 8
      · have HR := hid (reE_ok hc2 (by rw [HLf.out]; exact h8))
        rw [HLf.out] at HR
        have HLm := hid (fun (W : World) (Av' : Nat → Prop) (hA' : ∀ i, Av' i → i < W.heap.size) (x : Hd) (h : HasE W Av' ⟨⟨po, P, pc⟩, ⟨lo, L, lc⟩⟩ e) (hx : HasW W x.o x.n x.c (l ++ [(ob, e.now)])) (hxo : Off Av' x.o (wts (l ++ [(ob, e.now)]))) => rlimbo_any po lo P L pc lc k e x (l ++ [(ob, e.now)]) Av' W hA' HS h hkL hx hxo)
        clear hco hc2 hok
        generalize e.now = n at HI HR HLm ⊢
        go_enter Try.func28, Try.ntmps28
        go_wp2_with fail
        have HB : Hid (B2 w ((w.alloc (.cells #[.int .i64 n, .slice po P pc, .slice lo L lc] 25)).alloc (.cells #[.int .i64 0, .slice none 0 0, .slice none 0 0] 25)) n 0 ⟨⟨po, P, pc⟩, ⟨lo, L, lc⟩⟩ WE.zero) := b2_start w n 0 ⟨⟨po, P, pc⟩, ⟨lo, L, lc⟩⟩ WE.zero 25
        refine (HI.out _ (HE.out.below HB.out.low)).mono ?_
        rintro r w1 ⟨rfl, b1⟩
        replace HB := hid (HB.out.below b1)
        clear b1
        obtain ⟨x0, x1, x2, xf⟩ := HB.out.a
        obtain ⟨z0, z1, z2, zf⟩ := HB.out.b
        have hb1 : w.heap.size < w1.heap.size := HB.out.a.lt
        have hb2 : w.heap.size + 1 < w1.heap.size := HB.out.b.lt
        obtain ⟨b, lo', m, lc', eb, cb, hw, _⟩ := HLi.out _ (HE.out.below HB.out.low)
        obtain rfl : lo = some b := eb
        have HWk := hid hw
        have hm : m = l.length := hw.len
        have hm8 : m < 8 := by omega
        have HM := hid hm
        clear hw hm h8 hl30
        go_wp2_with fail
        have hS : SR w.heap.size n po (some b) P L pc lc (b.add k) lo' m lc' w1 := ⟨x0, x1, x2, cb⟩
        have HNB : Hid (w.heap.size ≠ w.heap.size + 1 ∧ (b.add k).block ≠ w.heap.size + 1) := by
          refine ⟨by omega, ?_⟩
          obtain ⟨_, hsl⟩ := (HE.out.new).l
          obtain ⟨a2, ea2, hlt2⟩ := hsl.row.lt (by rw [len_hds, hsl.hl]; have := HP.out; omega)
          cases ea2
          rw [add_block]
          omega
        clear x0 x1 x2 xf z0 z1 z2 zf cb hb1 hb2
        have b1 := Below.refl w1.heap.size w1
        go_region_held3 (SR w.heap.size n po (some b) P L pc lc (b.add k) lo' m lc') (first | with_reducible assumption | with_reducible exact sr_three HS5.out HNB.out.1 HNB.out.2 | with_reducible exact HS5.out | with_reducible exact sr_keep b4 hS | with_reducible exact sr_alloc (sr_keep b3 hS) | with_reducible exact sr_keep b3 hS | with_reducible exact sr_drew hS | with_reducible exact sr_alloc (sr_drew hS) | with_reducible exact sr_alloc (sr_alloc (sr_drew hS)) | with_reducible exact sr_drew (sr_alloc hS) | with_reducible exact sr_drew (sr_alloc (sr_alloc hS)) | with_reducible exact sr_alloc hS | with_reducible exact sr_alloc (sr_alloc hS) | fail)
          (first
            | (refine step_wts _ (by rfl) (.tmp 31) (.tmp 36) (by rfl) w1.heap.size (.slice (some ⟨w1.heap.size, 0, none⟩) 0 0) 0 [] (by rfl) ((own0 w1 51 2).drew) lo' m lc' l (by rfl) HM.out HWk.out.nil (HWk.out.row.below ((alloc_below w1 _).drew)) m (by omega) l (by rfl) (by omega) (by simp) ?_; intro ao3 cap3 w3 own3 grow3; have b3 := grow_below ((alloc_below w1 _).drew) grow3 (Nat.le_refl _))
            | (refine step_wts _ (by rfl) (.tmp 31) (.tmp 36) (by rfl) w1.heap.size (.slice (some ⟨w1.heap.size, 0, none⟩) 0 0) 0 [] (by rfl) (((own0 w1 51 2).alloc (.cells #[.int .i64 ob, .int .i64 n] 51)).drew) lo' m lc' l (by rfl) HM.out HWk.out.nil (HWk.out.row.below ((q_alloc (alloc_below w1 _) _).drew)) m (by omega) l (by rfl) (by omega) (by simp; omega) ?_; intro ao3 cap3 w3 own3 grow3; have b3 := grow_below ((q_alloc (alloc_below w1 _) _).drew) grow3 (Nat.le_refl _); have HX3 := hid (row_grown ((waste_at1 (ob, n) w1).below (Below.refl _ _).drew) grow3 (by omega)))
            | (refine step_wts _ (by rfl) (.tmp 31) (.tmp 36) (by rfl) w1.heap.size (.slice (some ⟨w1.heap.size + 1, 0, none⟩) 0 0) 0 [] (by rfl) ((own1 (ob, n) w1).drew) lo' m lc' l (by rfl) HM.out HWk.out.nil (HWk.out.row.below ((q_alloc (alloc_below w1 _) _).drew)) m (by omega) l (by rfl) (by omega) (by simp; omega) ?_; intro ao3 cap3 w3 own3 grow3; have b3 := grow_below ((q_alloc (alloc_below w1 _) _).drew) grow3 (by omega); have HX3 := hid (row_grown (((one_waste w1 (ob, n) 51).below (alloc_below _ _)).below (Below.refl _ _).drew) grow3 (by omega)))
            | (refine step_wts _ (by rfl) (.tmp 37) (.tmp 42) (by rfl) w1.heap.size _ _ _ (by rfl) (own3.alloc _) (some ⟨w3.heap.size, 0, none⟩) 1 1 [(ob, n)] (by rfl) (by rfl) (fun h => by cases h) (one_waste w3 (ob, n) 51) (m + 1) (by omega) (l ++ [(ob, n)]) (by rfl) (by omega) (q_alloc b3 _).size ?_; intro ao4 cap4 w4 own4 grow4; have b4 := (q_alloc b3 _).grown grow4 (q_alloc b3 _).size (fun k e => (own3.lt k e).1))
            | (refine step_wts _ (by rfl) (.tmp 37) (.tmp 42) (by rfl) w1.heap.size _ _ _ (by rfl) own3 (some ⟨w1.heap.size + 1, 0, none⟩) 1 1 [(ob, n)] (by rfl) (by rfl) (fun h => by cases h) HX3.out (m + 1) (by omega) (l ++ [(ob, n)]) (by rfl) (by omega) b3.size ?_; intro ao4 cap4 w4 own4 grow4; have b4 := b3.grown grow4 b3.size (fun k e => (own3.lt k e).1))
            | (refine step_wts _ (by rfl) (.tmp 37) (.tmp 42) (by rfl) w1.heap.size _ _ _ (by rfl) own3 (some ⟨w1.heap.size, 0, none⟩) 1 1 [(ob, n)] (by rfl) (by rfl) (fun h => by cases h) HX3.out (m + 1) (by omega) (l ++ [(ob, n)]) (by rfl) (by omega) b3.size ?_; intro ao4 cap4 w4 own4 grow4; have b4 := b3.grown grow4 b3.size (fun k e => (own3.lt k e).1))
            | (go_at_call 43; refine (HLm.out _ (fun i => Av i ∨ i = w.heap.size + 1) (arg_lt hA.out (Nat.lt_of_lt_of_le HB.out.b.lt b4.size)) ⟨ao4, m + 1, cap4⟩ (arg_has HE.out (q_trans HB.out.low b4)) (own_hasW own4 (by simp; exact HM.out)) (own_off own4 (arg_lt hA.out HB.out.b.lt))).mono ?_; rintro r w5 ⟨z, rfl, hz, b5⟩; have HZ := hid hz; have HS5 : Hid (SR w.heap.size n po (some b) P L pc lc (b.add k) lo' m lc' w5) := (sr_keep (q_trans b4 b5) hS); have HB5 := hid (HB.out.below (q_trans b4 b5)); obtain ⟨y0, y1, y2, yf⟩ := HB5.out.b)
            | fail)
        all_goals go_wp2_with fail
        all_goals refine bodyPost_ret (v := .tuple #[(.agg #[.int .i64 n, .slice z.p.o z.p.n z.p.c, .slice z.l.o z.l.n z.l.c]), .int .i64 0]) (by simp [results, Try.results28, go_sem, *]) rfl ⟨z, ret_ep HR.out.1.symm, ?_, ?_⟩
        all_goals first | exact fin_low HB5.out.low _ _ _ | (rw [HR.out.2]; exact fin_has HZ.out _ _ _)
      · have HR := hid (reE_full hc2 (by rw [HLf.out]; exact h8))
        clear hco hc2 hok
        generalize e.now = n at HI ⊢
        go_enter Try.func28, Try.ntmps28
        go_wp2_with fail
        have HB : Hid (B2 w ((w.alloc (.cells #[.int .i64 n, .slice po P pc, .slice lo L lc] 25)).alloc (.cells #[.int .i64 0, .slice none 0 0, .slice none 0 0] 25)) n 0 ⟨⟨po, P, pc⟩, ⟨lo, L, lc⟩⟩ WE.zero) := b2_start w n 0 ⟨⟨po, P, pc⟩, ⟨lo, L, lc⟩⟩ WE.zero 25
        refine (HI.out _ (HE.out.below HB.out.low)).mono ?_
        rintro r w1 ⟨rfl, b1⟩
        replace HB := hid (HB.out.below b1)
        clear b1
        obtain ⟨x0, x1, x2, xf⟩ := HB.out.a
        obtain ⟨z0, z1, z2, zf⟩ := HB.out.b
        have hb1 : w.heap.size < w1.heap.size := HB.out.a.lt
        have hb2 : w.heap.size + 1 < w1.heap.size := HB.out.b.lt
        obtain ⟨b, lo', m, lc', eb, cb, hw, _⟩ := HLi.out _ (HE.out.below HB.out.low)
        obtain rfl : lo = some b := eb
        have hm : m = l.length := hw.len
        have hm8 : ¬ m < 8 := by omega
        have hm30 : m ≤ 30 := by omega
        clear hm h8 hl30 hw
        go_wp2_with fail
        refine bodyPost_ret (v := .tuple #[.agg #[.int .i64 n, .slice po P pc, .slice (some b) L lc], .int .i64 5]) (by simp [results, Try.results28, go_sem, *]) rfl ⟨⟨⟨po, P, pc⟩, ⟨(some b), L, lc⟩⟩, ret_ep HR.out.1.symm, ?_, fin_low HB.out.low _ _ _⟩
        rw [HR.out.2]
        exact fin_has (arg_has HE.out HB.out.low) _ _ _
    · have HR := hid (reE_arg (e := e) (c := (k : Int)) (o := ob) (by rw [hco]; simp; omega))
      clear hco hok
      generalize e.now = n at HI ⊢
      by_cases h0 : 0 ≤ ob
      · have h63 : ¬ ob ≤ 63 := fun h => ho ⟨h0, h⟩
        clear ho
        go_enter Try.func28, Try.ntmps28
        go_wp2_with fail
        have HB : Hid (B2 w ((w.alloc (.cells #[.int .i64 n, .slice po P pc, .slice lo L lc] 25)).alloc (.cells #[.int .i64 0, .slice none 0 0, .slice none 0 0] 25)) n 0 ⟨⟨po, P, pc⟩, ⟨lo, L, lc⟩⟩ WE.zero) := b2_start w n 0 ⟨⟨po, P, pc⟩, ⟨lo, L, lc⟩⟩ WE.zero 25
        refine (HI.out _ (HE.out.below HB.out.low)).mono ?_
        rintro r w1 ⟨rfl, b1⟩
        replace HB := hid (HB.out.below b1)
        clear b1
        obtain ⟨x0, x1, x2, xf⟩ := HB.out.a
        obtain ⟨z0, z1, z2, zf⟩ := HB.out.b
        have hb1 : w.heap.size < w1.heap.size := HB.out.a.lt
        have hb2 : w.heap.size + 1 < w1.heap.size := HB.out.b.lt
        go_wp2_with fail
        refine bodyPost_ret (v := .tuple #[.agg #[.int .i64 n, .slice po P pc, .slice lo L lc], .int .i64 2]) (by simp [results, Try.results28, go_sem, *]) rfl ⟨⟨⟨po, P, pc⟩, ⟨lo, L, lc⟩⟩, ret_ep HR.out.1.symm, ?_, fin_low HB.out.low _ _ _⟩
        rw [HR.out.2]
        exact fin_has (arg_has HE.out HB.out.low) _ _ _
      · clear ho
        go_enter Try.func28, Try.ntmps28
        go_wp2_with fail
        have HB : Hid (B2 w ((w.alloc (.cells #[.int .i64 n, .slice po P pc, .slice lo L lc] 25)).alloc (.cells #[.int .i64 0, .slice none 0 0, .slice none 0 0] 25)) n 0 ⟨⟨po, P, pc⟩, ⟨lo, L, lc⟩⟩ WE.zero) := b2_start w n 0 ⟨⟨po, P, pc⟩, ⟨lo, L, lc⟩⟩ WE.zero 25
        refine (HI.out _ (HE.out.below HB.out.low)).mono ?_
        rintro r w1 ⟨rfl, b1⟩
        replace HB := hid (HB.out.below b1)
        clear b1
        obtain ⟨x0, x1, x2, xf⟩ := HB.out.a
        obtain ⟨z0, z1, z2, zf⟩ := HB.out.b
        have hb1 : w.heap.size < w1.heap.size := HB.out.a.lt
        have hb2 : w.heap.size + 1 < w1.heap.size := HB.out.b.lt
        go_wp2_with fail
        refine bodyPost_ret (v := .tuple #[.agg #[.int .i64 n, .slice po P pc, .slice lo L lc], .int .i64 2]) (by simp [results, Try.results28, go_sem, *]) rfl ⟨⟨⟨po, P, pc⟩, ⟨lo, L, lc⟩⟩, ret_ep HR.out.1.symm, ?_, fin_low HB.out.low _ _ _⟩
        rw [HR.out.2]
        exact fin_has (arg_has HE.out HB.out.low) _ _ _
end Go.Proofs.Ytejghoncihdfkaa.Ep
