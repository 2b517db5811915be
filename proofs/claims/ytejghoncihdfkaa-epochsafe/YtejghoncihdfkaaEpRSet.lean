/- What the document's core, pin, limbo do. -/
import Derived.Test.YtejghoncihdfkaaEpRSame
namespace Go.Proofs.Ytejghoncihdfkaa.Ep
open Go.RowKit

theorem infoS : (Try.prog.info? 49).map (fun i => (i.zero, i.size, i.bytes)) = some (some (.slice none 0 0), 1, 24) := by kernel_rfl
theorem own_setS {w : World} {B n cap g j size : Nat} {e : TypeId} {cs : List Value} (u : Value) (h : w.ownsRow B e size (.slice (some ⟨g, 0, none⟩) n cap) n cs) :
    (w.setCell ⟨g, j, none⟩ u).ownsRow B e size (.slice (some ⟨g, 0, none⟩) n cap) n (cs.set j u) := by
  refine ⟨by simpa using h.1, ?_⟩
  rcases h.2 with ⟨e, _⟩ | ⟨g', cap', cur, e, hb, hg, h1, h2, h3, h4⟩
  · cases e
  · cases e
    refine .inr ⟨g, cap, cur.setIfInBounds j u, rfl, hb, ?_, h1, h2, by simpa using h3, ?_⟩
    · have hlt := (Array.getElem?_eq_some_iff.1 hg).1
      simp [World.setCell, Array.getElem?_modify, hg]
    · rw [← h4]
      simp [List.take_set]
theorem own_head {w : World} {B n size : Nat} {e : TypeId} {ao : Option Addr} {c : Nat} {cs : List Value} (h : w.ownsRow B e size (.slice ao n c) n cs) (hn : 0 < n) : ∃ g, ao = some ⟨g, 0, none⟩ ∧ B ≤ g ∧ g < w.heap.size := by
  rcases h.2 with ⟨_, e2⟩ | ⟨g, c, cur, e, hb, hg, _⟩
  · omega
  · injection e with e1 e2 e3
    exact ⟨g, e1, hb, (Array.getElem?_eq_some_iff.1 hg).1⟩
/-- A row of one's own from B on lies in none of the blocks ahead. -/
theorem own_off {w : World} {B n cap size : Nat} {e : TypeId} {ao : Option Addr} {cs ds : List Value} {Av : Nat → Prop} (h : w.ownsRow B e size (.slice ao n cap) n cs) (hA : ∀ i, Av i → i < B) : Off Av ao ds := by
  intro _ a ea s
  have := (own_row h).2.2.2 a ea
  have := hA _ s
  omega
theorem vals_set (l : List Int) (j : Nat) (t : Int) : (vals l).set j (.int .i64 t) = vals (l.set j t) := by simp [vals, List.map_set]
theorem add0 (g k : Nat) : (⟨g, 0, none⟩ : Addr).add k = ⟨g, k, none⟩ := by cases k <;> simp [Addr.add]
set_option maxRecDepth 100000 in
set_option maxHeartbeats 2000000 in
theorem rcore_any (y : WE) (e : E) (c : Int) (Av : Nat → Prop) (w : World) (HS : Hid (Sm e)) (HE : Hid (HasE w Av y e)) :
    Calls Try.prog 41 #[(.agg #[.int .i64 e.now, .slice y.p.o y.p.n y.p.c, .slice y.l.o y.l.n y.l.c]), .int .i64 c] w fun r w' => r = .returned (.bool (coB e c)) ∧ Below w.heap.size w w' := by
  obtain ⟨⟨po, P, pc⟩, ⟨lo, L, lc⟩⟩ := y
  have HP : Hid (P = e.pins.length) := HE.out.pn
  have p70 : P ≤ 70 := by have := HS.out.p; have := HP.out; omega
  cases ho : okE e with
  | false =>
    have HC : Hid (coB e c = false) := by simp [Hid, coB, ho]
    have HI := hid (fun (W : World) (h : HasE W Av ⟨⟨po, P, pc⟩, ⟨lo, L, lc⟩⟩ e) => is_ris HS.out h ho)
    generalize e.now = n at HI ⊢
    clear ho
    go_enter Try.func41, Try.ntmps41
    go_wp2_with fail
    refine (HI.out _ (HE.out.below (alloc_below _ _))).mono ?_
    rintro r w1 ⟨rfl, b1⟩
    have B1 := hid (q_trans (alloc_below _ _) b1)
    clear b1
    go_wp2_with fail
    go_ret
    exact ⟨ret_bool HC.out.symm, B1.out⟩
  | true =>
    have HI := hid (fun (W : World) (h : HasE W Av ⟨⟨po, P, pc⟩, ⟨lo, L, lc⟩⟩ e) => is_ris HS.out h ho)
    have HC : Hid (coB e c = (decide (0 ≤ c) && decide (c < (P : Int)))) := by simp [Hid, coB, ho, HP.out]
    generalize e.now = n at HI ⊢
    clear ho
    by_cases h0 : 0 ≤ c
    · have d0 : decide (0 ≤ c) = true := by simp [h0]
      by_cases h1 : c < (P : Int)
      · have d1 : decide (c < (P : Int)) = true := by simp [h1]
        rw [d0, d1] at HC
        go_enter Try.func41, Try.ntmps41
        go_wp2_with fail
        refine (HI.out _ (HE.out.below (alloc_below _ _))).mono ?_
        rintro r w1 ⟨rfl, b1⟩
        have B1 := hid (bw_start w n ⟨⟨po, P, pc⟩, ⟨lo, L, lc⟩⟩ 25)
        replace B1 := hid (B1.out.below b1)
        obtain ⟨x0, x1, x2, xf⟩ := B1.out.box
        clear b1
        go_wp2_with fail
        go_ret
        exact ⟨ret_bool HC.out.symm, B1.out.low⟩
      · have d1 : decide (c < (P : Int)) = false := by simp; omega
        rw [d0, d1] at HC
        clear h1
        go_enter Try.func41, Try.ntmps41
        go_wp2_with fail
        refine (HI.out _ (HE.out.below (alloc_below _ _))).mono ?_
        rintro r w1 ⟨rfl, b1⟩
        have B1 := hid (bw_start w n ⟨⟨po, P, pc⟩, ⟨lo, L, lc⟩⟩ 25)
        replace B1 := hid (B1.out.below b1)
        obtain ⟨x0, x1, x2, xf⟩ := B1.out.box
        clear b1
        go_wp2_with fail
        go_ret
        exact ⟨ret_bool HC.out.symm, B1.out.low⟩
    · have d0 : decide (0 ≤ c) = false := by simp; omega
      rw [d0] at HC
      go_enter Try.func41, Try.ntmps41
      go_wp2_with fail
      refine (HI.out _ (HE.out.below (alloc_below _ _))).mono ?_
      rintro r w1 ⟨rfl, b1⟩
      have B1 := hid (q_trans (alloc_below _ _) b1)
      clear b1
      go_wp2_with fail
      go_ret
      exact ⟨ret_bool HC.out.symm, B1.out⟩
theorem is_rcore {y : WE} {e : E} {c : Int} {Av : Nat → Prop} {w : World} {r : Bool} (hs : Sm e) (h : HasE w Av y e) (hr : coB e c = r) : Calls Try.prog 41 #[(.agg #[.int .i64 e.now, .slice y.p.o y.p.n y.p.c, .slice y.l.o y.l.n y.l.c]), .int .i64 c] w fun v w' => v = .returned (.bool r) ∧ Below w.heap.size w w' := hr ▸ rcore_any y e c Av w hs h
set_option maxRecDepth 100000 in
set_option maxHeartbeats 2000000 in
theorem rpin_any (po lo : Option Addr) (P L pc lc k : Nat) (e : E) (t : Int) (Av : Nat → Prop) (w : World) (hA : Hid (∀ i, Av i → i < w.heap.size)) (HS : Hid (Sm e)) (HE : Hid (HasE w Av ⟨⟨po, P, pc⟩, ⟨lo, L, lc⟩⟩ e)) (hk : k < P) :
    Calls Try.prog 42 #[(.agg #[.int .i64 e.now, .slice (⟨⟨po, P, pc⟩, ⟨lo, L, lc⟩⟩ : WE).p.o (⟨⟨po, P, pc⟩, ⟨lo, L, lc⟩⟩ : WE).p.n (⟨⟨po, P, pc⟩, ⟨lo, L, lc⟩⟩ : WE).p.c, .slice (⟨⟨po, P, pc⟩, ⟨lo, L, lc⟩⟩ : WE).l.o (⟨⟨po, P, pc⟩, ⟨lo, L, lc⟩⟩ : WE).l.n (⟨⟨po, P, pc⟩, ⟨lo, L, lc⟩⟩ : WE).l.c]), .int .i64 (k : Int), .int .i64 t] w fun r w' => ∃ z : WE, r = .returned (.agg #[.int .i64 e.now, .slice z.p.o z.p.n z.p.c, .slice z.l.o z.l.n z.l.c]) ∧ HasE w' Av z (setP e (k : Int) t) ∧ Below w.heap.size w w' := by
  have HP : Hid (P = e.pins.length) := HE.out.pn
  have p70 : P ≤ 70 := by have := HS.out.p; have := HP.out; omega
  have HN := hid (rfl : (setP e (k : Int) t).now = e.now)
  generalize e.now = n at HN ⊢
  have i1 : (0 : Int) ≤ (k : Int) := by omega
  have i2 : (k : Int) < (P : Int) := by omega
  have NP := hid HE.out.p.nil
  have KP : Hid ((vals e.pins).length = P * 1) := by unfold Hid; rw [len_vals, ← HP.out]; omega
  go_enter Try.func42, Try.ntmps42
  go_upto_region 1 with fail
  have HB : Hid (B2 w ((w.alloc (.cells #[.int .i64 n, .slice po P pc, .slice lo L lc] 25)).alloc (.cells #[.int .i64 0, .slice none 0 0, .slice none 0 0] 25)) n 0 ⟨⟨po, P, pc⟩, ⟨lo, L, lc⟩⟩ WE.zero) := b2_start w n 0 ⟨⟨po, P, pc⟩, ⟨lo, L, lc⟩⟩ WE.zero 25
  generalize ((w.alloc (.cells #[.int .i64 n, .slice po P pc, .slice lo L lc] 25)).alloc (.cells #[.int .i64 0, .slice none 0 0, .slice none 0 0] 25)) = W at HB ⊢
  obtain ⟨x0, x1, x2, xf⟩ := HB.out.a
  have HR := hid ((HE.out.p.row.below HB.out.low).below (alloc_below W (.cells #[] 2)))
  have hlt0 : w.heap.size < W.heap.size := HB.out.a.lt
  have hlt1 : w.heap.size + 1 < W.heap.size := HB.out.b.lt
  go_wp2_with (at_builtin; go_loud (refine wpList_append_row _ rfl (.tmp 8) (.tmp 10) 22 2 _ 1 8 rfl Try.underlying22 infoI rfl (by decide) (by decide) W.heap.size _ 0 [] rfl (own0 W 2 1) po P pc (vals e.pins) rfl KP.out NP.out HR.out (vals_one _) (by omega) (alloc_below W _).size ?_; intro ao1 cap1 w1 own1 grow1; apply Hid.out))
  rw [Nat.zero_add, List.nil_append] at own1
  obtain ⟨g, rfl, hg1, hg2⟩ := own_head own1 (by omega)
  have B1 := hid (app_below grow1)
  have HB1 := hid (HB.out.below B1.out)
  have O1 := hid own1
  obtain ⟨_, cz, hcz, cc⟩ : ∃ (_ : Unit) (cz : Value), (vals e.pins)[k]? = some cz ∧ w1.cell? ⟨g, k, none⟩ = some cz := by
    refine ⟨(), _, vals_at e.pins k (by have := HP.out; omega), ?_⟩
    obtain ⟨a', e', h'⟩ := (own_row own1).1.cell k _ (vals_at e.pins k (by have := HP.out; omega))
    cases e'
    rwa [add0] at h'
  have cf : w1.frozen? ⟨g, k, none⟩ = false := own_frozen own1
  clear own1 grow1 x0 x1 x2 xf HR hcz
  obtain ⟨x0, x1, x2, xf⟩ := HB1.out.a
  obtain ⟨z0, z1, z2, zf⟩ := HB1.out.b
  have hne0 : w.heap.size ≠ g := by omega
  have hne1 : w.heap.size + 1 ≠ g := by omega
  have hne2 : g ≠ w.heap.size := by omega
  have hne3 : g ≠ w.heap.size + 1 := by omega
  unfold Hid
  go_upto_region 3 with fail
  have O2 := hid (own_setS (j := k) (.int .i64 t) O1.out)
  rw [vals_set] at O2
  have B2' := hid (q_set B1.out (p := ⟨g, k, none⟩) hg1 (.int .i64 t))
  generalize w1.setCell ⟨g, k, none⟩ (.int .i64 t) = W2 at O2 B2' ⊢
  clear x0 x1 x2 xf z0 z1 z2 zf cc cf
  replace HB1 := hid (HB.out.below B2'.out)
  obtain ⟨x0, x1, x2, xf⟩ := HB1.out.a
  obtain ⟨z0, z1, z2, zf⟩ := HB1.out.b
  have hb1 : w.heap.size < W2.heap.size := HB1.out.a.lt
  have hb2 : w.heap.size + 1 < W2.heap.size := HB1.out.b.lt
  go_wp2_with fail
  have BF := hid (q_set (q_set (q_set (q_set (q_trans HB.out.low B2'.out) (p := ⟨w.heap.size, 1, none⟩) (Nat.le_refl _) (.slice (some ⟨g, 0, none⟩) P cap1)) (p := ⟨w.heap.size + 1, 0, none⟩) (Nat.le_succ _) (.int .i64 n)) (p := ⟨w.heap.size + 1, 1, none⟩) (Nat.le_succ _) (.slice (some ⟨g, 0, none⟩) P cap1)) (p := ⟨w.heap.size + 1, 2, none⟩) (Nat.le_succ _) (.slice lo L lc))
  have KF : Hid (Kept (fun i => i = w.heap.size ∨ i = w.heap.size + 1) W2 ((((W2.setCell ⟨w.heap.size, 1, none⟩ (.slice (some ⟨g, 0, none⟩) P cap1)).setCell ⟨w.heap.size + 1, 0, none⟩ (.int .i64 n)).setCell ⟨w.heap.size + 1, 1, none⟩ (.slice (some ⟨g, 0, none⟩) P cap1)).setCell ⟨w.heap.size + 1, 2, none⟩ (.slice lo L lc))) := by
    unfold Hid
    refine Kept.setCell ?_ _ _ (fun _ => .inr rfl)
    refine Kept.setCell ?_ _ _ (fun _ => .inr rfl)
    refine Kept.setCell ?_ _ _ (fun _ => .inr rfl)
    refine Kept.setCell ?_ _ _ (fun _ => .inl rfl)
    exact Kept.refl _ _
  refine bodyPost_ret (v := .agg #[.int .i64 n, .slice (some ⟨g, 0, none⟩) P cap1, .slice lo L lc]) (by simp [results, Try.results42, go_sem, *]) rfl ⟨⟨⟨some ⟨g, 0, none⟩, P, cap1⟩, ⟨lo, L, lc⟩⟩, rfl, ?_, ?_⟩
  · have hown := own_kept O2.out KF.out (fun i ei si => by have e2 : g = i := Option.some.inj ei; rcases si with si | si <;> omega)
    have hm := own_mine hown
    have e1 : (setP e (k : Int) t).pins = e.pins.set k t := by simp [setP]
    refine ⟨by rw [e1]; exact hm.has, by rw [e1]; exact own_off hown (fun i hi => Nat.lt_of_lt_of_le (hA.out i hi) HB.out.low.size), (HE.out.below BF.out).l⟩
  · exact BF.out
set_option maxRecDepth 100000 in
set_option maxHeartbeats 2000000 in
theorem rlimbo_any (po lo : Option Addr) (P L pc lc k : Nat) (e : E) (x : Hd) (l : List W) (Av : Nat → Prop) (w : World) (hA : Hid (∀ i, Av i → i < w.heap.size)) (HS : Hid (Sm e)) (HE : Hid (HasE w Av ⟨⟨po, P, pc⟩, ⟨lo, L, lc⟩⟩ e)) (hk : k < L) (HX : Hid (HasW w x.o x.n x.c l)) (HO : Hid (Off Av x.o (wts l))) :
    Calls Try.prog 43 #[(.agg #[.int .i64 e.now, .slice (⟨⟨po, P, pc⟩, ⟨lo, L, lc⟩⟩ : WE).p.o (⟨⟨po, P, pc⟩, ⟨lo, L, lc⟩⟩ : WE).p.n (⟨⟨po, P, pc⟩, ⟨lo, L, lc⟩⟩ : WE).p.c, .slice (⟨⟨po, P, pc⟩, ⟨lo, L, lc⟩⟩ : WE).l.o (⟨⟨po, P, pc⟩, ⟨lo, L, lc⟩⟩ : WE).l.n (⟨⟨po, P, pc⟩, ⟨lo, L, lc⟩⟩ : WE).l.c]), .int .i64 (k : Int), .slice x.o x.n x.c] w fun r w' => ∃ z : WE, r = .returned (.agg #[.int .i64 e.now, .slice z.p.o z.p.n z.p.c, .slice z.l.o z.l.n z.l.c]) ∧ HasE w' Av z (setL e (k : Int) l) ∧ Below w.heap.size w w' := by
  have HP : Hid (L = e.lim.length) := HE.out.ln
  have p70 : L ≤ 70 := by have := HS.out.l; have := HP.out; omega
  have HN := hid (rfl : (setL e (k : Int) l).now = e.now)
  generalize e.now = n at HN ⊢
  have i1 : (0 : Int) ≤ (k : Int) := by omega
  have i2 : (k : Int) < (L : Int) := by omega
  obtain ⟨hs, hL0⟩ := HE.out.l
  have HL0 := hid hL0
  clear hL0
  have NP := hid HL0.out.nil
  have KP : Hid ((hds hs).length = L * 1) := by unfold Hid; rw [len_hds, HL0.out.hl, ← HP.out]; omega
  go_enter Try.func43, Try.ntmps43
  go_upto_region 1 with fail
  have HB : Hid (B2 w ((w.alloc (.cells #[.int .i64 n, .slice po P pc, .slice lo L lc] 25)).alloc (.cells #[.int .i64 0, .slice none 0 0, .slice none 0 0] 25)) n 0 ⟨⟨po, P, pc⟩, ⟨lo, L, lc⟩⟩ WE.zero) := b2_start w n 0 ⟨⟨po, P, pc⟩, ⟨lo, L, lc⟩⟩ WE.zero 25
  generalize ((w.alloc (.cells #[.int .i64 n, .slice po P pc, .slice lo L lc] 25)).alloc (.cells #[.int .i64 0, .slice none 0 0, .slice none 0 0] 25)) = W at HB ⊢
  obtain ⟨x0, x1, x2, xf⟩ := HB.out.a
  have HR := hid ((HL0.out.row.below HB.out.low).below (alloc_below W (.cells #[] 49)))
  have hlt0 : w.heap.size < W.heap.size := HB.out.a.lt
  have hlt1 : w.heap.size + 1 < W.heap.size := HB.out.b.lt
  go_wp2_with (at_builtin; go_loud (refine wpList_append_row _ rfl (.tmp 8) (.tmp 10) 23 49 _ 1 24 rfl Try.underlying23 infoS rfl (by decide) (by decide) W.heap.size _ 0 [] rfl (own0 W 49 1) lo L lc (hds hs) rfl KP.out NP.out HR.out (hds_one _) (by omega) (alloc_below W _).size ?_; intro ao1 cap1 w1 own1 grow1; apply Hid.out))
  rw [Nat.zero_add, List.nil_append] at own1
  obtain ⟨g, rfl, hg1, hg2⟩ := own_head own1 (by omega)
  have B1 := hid (app_below grow1)
  have HB1 := hid (HB.out.below B1.out)
  have O1 := hid own1
  obtain ⟨_, cz, hcz, cc⟩ : ∃ (_ : Unit) (cz : Value), (hds hs)[k]? = some cz ∧ w1.cell? ⟨g, k, none⟩ = some cz := by
    refine ⟨(), _, hds_at hs k (by have := HP.out; have := HL0.out.hl; omega), ?_⟩
    obtain ⟨a', e', h'⟩ := (own_row own1).1.cell k _ (hds_at hs k (by have := HP.out; have := HL0.out.hl; omega))
    cases e'
    rwa [add0] at h'
  have cf : w1.frozen? ⟨g, k, none⟩ = false := own_frozen own1
  clear own1 grow1 x0 x1 x2 xf HR hcz
  obtain ⟨x0, x1, x2, xf⟩ := HB1.out.a
  obtain ⟨z0, z1, z2, zf⟩ := HB1.out.b
  have hne0 : w.heap.size ≠ g := by omega
  have hne1 : w.heap.size + 1 ≠ g := by omega
  have hne2 : g ≠ w.heap.size := by omega
  have hne3 : g ≠ w.heap.size + 1 := by omega
  unfold Hid
  go_upto_region 3 with fail
  have O2 := hid (own_setS (j := k) x.v O1.out)
  rw [hds_set] at O2
  have B2' := hid (q_set B1.out (p := ⟨g, k, none⟩) hg1 x.v)
  have ev : x.v = .slice x.o x.n x.c := rfl
  rw [ev] at O2 B2'
  generalize w1.setCell ⟨g, k, none⟩ (.slice x.o x.n x.c) = W2 at O2 B2' ⊢
  clear x0 x1 x2 xf z0 z1 z2 zf cc cf
  replace HB1 := hid (HB.out.below B2'.out)
  obtain ⟨x0, x1, x2, xf⟩ := HB1.out.a
  obtain ⟨z0, z1, z2, zf⟩ := HB1.out.b
  have hb1 : w.heap.size < W2.heap.size := HB1.out.a.lt
  have hb2 : w.heap.size + 1 < W2.heap.size := HB1.out.b.lt
  go_wp2_with fail
  have BF := hid (q_set (q_set (q_set (q_set (q_trans HB.out.low B2'.out) (p := ⟨w.heap.size, 2, none⟩) (Nat.le_refl _) (.slice (some ⟨g, 0, none⟩) L cap1)) (p := ⟨w.heap.size + 1, 0, none⟩) (Nat.le_succ _) (.int .i64 n)) (p := ⟨w.heap.size + 1, 1, none⟩) (Nat.le_succ _) (.slice po P pc)) (p := ⟨w.heap.size + 1, 2, none⟩) (Nat.le_succ _) (.slice (some ⟨g, 0, none⟩) L cap1))
  have KF : Hid (Kept (fun i => i = w.heap.size ∨ i = w.heap.size + 1) W2 ((((W2.setCell ⟨w.heap.size, 2, none⟩ (.slice (some ⟨g, 0, none⟩) L cap1)).setCell ⟨w.heap.size + 1, 0, none⟩ (.int .i64 n)).setCell ⟨w.heap.size + 1, 1, none⟩ (.slice po P pc)).setCell ⟨w.heap.size + 1, 2, none⟩ (.slice (some ⟨g, 0, none⟩) L cap1))) := by
    unfold Hid
    refine Kept.setCell ?_ _ _ (fun _ => .inr rfl)
    refine Kept.setCell ?_ _ _ (fun _ => .inr rfl)
    refine Kept.setCell ?_ _ _ (fun _ => .inr rfl)
    refine Kept.setCell ?_ _ _ (fun _ => .inl rfl)
    exact Kept.refl _ _
  refine bodyPost_ret (v := .agg #[.int .i64 n, .slice po P pc, .slice (some ⟨g, 0, none⟩) L cap1]) (by simp [results, Try.results43, go_sem, *]) rfl ⟨⟨⟨po, P, pc⟩, ⟨some ⟨g, 0, none⟩, L, cap1⟩⟩, rfl, ?_, ?_⟩
  · have hown := own_kept O2.out KF.out (fun i ei si => by have e2 : g = i := Option.some.inj ei; rcases si with si | si <;> omega)
    obtain ⟨r1, r2, r3, r4⟩ := own_row hown
    have e1 : (setL e (k : Int) l).lim = e.lim.set k l := by simp [setL]
    refine ⟨(HE.out.below BF.out).p, HE.out.offP, hs.set k x, ?_⟩
    rw [e1]
    exact HL0.out.set k x l BF.out r3 r2 r1 (own_off hown (fun i hi => Nat.lt_of_lt_of_le (hA.out i hi) HB.out.low.size)) (HX.out.below BF.out) HO.out
  · exact BF.out
end Go.Proofs.Ytejghoncihdfkaa.Ep
