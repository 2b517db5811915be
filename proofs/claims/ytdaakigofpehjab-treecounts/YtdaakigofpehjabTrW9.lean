/- What the program's Parent does. -/
import Derived.Test.YtdaakigofpehjabTrW8
namespace Go.Proofs.Ytdaakigofpehjab.Tr
open Go.RowKit Go.Shelf
attribute [local go_sem] Oper.semAt_some

theorem four2 (w : World) (k : P) (ao : Option Addr) (n cap : Nat) (W0 : World) (h : (((w.alloc (.cells #[.slice ao n cap] 26)).alloc (.cells #[.int .i64 k.1, .int .i64 k.2] 24)).alloc (.cells #[.int .i64 0, .int .i64 0] 24)).alloc (.cells #[.bool false] 4) = W0) :
    Below w.heap.size w W0 ∧ B1 W0 w.heap.size (.slice ao n cap) ∧ Bp W0 (w.heap.size + 1 + 1) (0, 0) ∧ B1 W0 (w.heap.size + 1 + 1 + 1) (.bool false) := by
  subst h
  refine ⟨q_alloc (q_alloc (q_alloc (alloc_below w _) _) _) _, ?_, ?_, ?_⟩
  · exact (((b1_new w (.slice ao n cap) 26).below (alloc_below _ _)).below (alloc_below _ _)).below (alloc_below _ _)
  · have := bp_new ((w.alloc (.cells #[.slice ao n cap] 26)).alloc (.cells #[.int .i64 k.1, .int .i64 k.2] 24)) (0, 0) 24
    simp only [World.size_alloc] at this
    exact this.below (alloc_below _ _)
  · have := b1_new (((w.alloc (.cells #[.slice ao n cap] 26)).alloc (.cells #[.int .i64 k.1, .int .i64 k.2] 24)).alloc (.cells #[.int .i64 0, .int .i64 0] 24)) (.bool false) 4
    simp only [World.size_alloc] at this
    exact this
/-- A key and a bool are stored. -/
theorem put3 {w : World} {b : Nat} {k : P} {v : Value} (h : Bp w b k) (h2 : B1 w (b + 1) v) (x : P) (u : Value) : Bp (((w.setCell ⟨b, 0, none⟩ (.int .i64 x.1)).setCell ⟨b, 1, none⟩ (.int .i64 x.2)).setCell ⟨b + 1, 0, none⟩ u) b x ∧ B1 (((w.setCell ⟨b, 0, none⟩ (.int .i64 x.1)).setCell ⟨b, 1, none⟩ (.int .i64 x.2)).setCell ⟨b + 1, 0, none⟩ u) (b + 1) u :=
  ⟨(bp_put h x).other _ (by omega), b1_put ((h2.other _ (by omega)).other _ (by omega)) u⟩
theorem take_get {t : List Br} {i m : Nat} (h : m < i) : (t.take i).getD m zB = t.getD m zB := by simp [List.getD, h]
theorem bp_grown {W W' : World} {row : Option Nat} {b : Nat} {k : P} (h : Bp W b k) (hg : W.grownBy W' row) (hr : ∀ r, row = some r → ∃ o : Obj, W.heap[r]? = some o ∧ o.isCells = false) : Bp W' b k := ⟨cell_kept h.c0 hg hr, cell_kept h.c1 hg hr, (frozen_kept h.c0 hg hr).trans h.f0, (frozen_kept h.c1 hg hr).trans h.f1⟩
theorem atB_grown {W W' : World} {row : Option Nat} {a : Addr} {k : Br} (h : AtB W a k) (hg : W.grownBy W' row) (hr : ∀ r, row = some r → ∃ o : Obj, W.heap[r]? = some o ∧ o.isCells = false) : AtB W' a k := ⟨cell_kept h.c0 hg hr, cell_kept h.c1 hg hr, cell_kept h.c2 hg hr, cell_kept h.c3 hg hr⟩
set_option maxRecDepth 100000 in
set_option maxHeartbeats 2000000 in
theorem parent_any (ao : Option Addr) (n cap : Nat) (t : List Br) (k : P) (w : World) (hs : n ≤ 1000) (HH : Hid (HasB w ao n cap t)) :
    Calls Try.prog 9 #[.slice ao n cap, (.agg #[.int .i64 k.1, .int .i64 k.2])] w fun e w' => e = .returned (.tuple #[(.agg #[.int .i64 (prK t k).1, .int .i64 (prK t k).2]), .bool (prB t k)]) ∧ Below w.heap.size w w' := by
  have HN := hid HH.out.len
  refine (callsIn_wide (n := 5)).1 ?_
  refine callsIn_of_wp_marks Try.func9 rfl trivial ?_ rfl
  simp only [Try.ntmps9, List.size_toArray, List.length_cons, List.length_nil, Nat.reduceAdd, Nat.reduceSub, Array.replicate_succ, Array.replicate_zero, List.push_toArray, List.append_toArray, List.nil_append, List.cons_append]
  obtain ⟨W0, hW0⟩ : ∃ W0, (((w.alloc (.cells #[.slice ao n cap] 26)).alloc (.cells #[.int .i64 k.1, .int .i64 k.2] 24)).alloc (.cells #[.int .i64 0, .int .i64 0] 24)).alloc (.cells #[.bool false] 4) = W0 := ⟨_, rfl⟩
  obtain ⟨hb0, ht0, hp0, hr0⟩ := four2 w k ao n cap W0 hW0
  have HB0 := hid hb0
  have HT0 := hid ht0
  have HP0 := hid hp0
  have HR0 := hid hr0
  have HW0 := hid hW0
  clear hb0 ht0 hp0 hr0 hW0
  gi_wp2_with (refine ⟨trivial, ?_⟩; gi_at_call 7; rw [HW0.out]; refine (callsIn_wide.2 (find_any ao n cap t k W0 (by omega) (HH.out.below HB0.out))).mono ?_; rintro e w1 ⟨rfl, b1⟩; apply Hid.out)
  have HB1 := hid (q_trans HB0.out b1)
  have HT1 := hid (HT0.out.below b1)
  have HP1 := hid (HP0.out.below b1)
  have HR1 := hid (HR0.out.below b1)
  clear b1 HB0 HT0 HP0 HR0
  cases h3 : hasK t k with
  | false =>
    have HE := hid (pr_nk h3)
    clear h3
    have HP2 := hid (HP1.out.below (alloc_below w1 (.cells #[.int .i64 (plc t k : Nat)] 3)))
    have HR2 := hid (HR1.out.below (alloc_below w1 (.cells #[.int .i64 (plc t k : Nat)] 3)))
    have HB2 := hid (q_alloc HB1.out (.cells #[.int .i64 (plc t k : Nat)] 3))
    obtain ⟨p0, p1, p2, p3⟩ := HP2.out
    obtain ⟨r0, r1⟩ := HR2.out
    have Z := put3 HP2.out HR2.out (0, 0) (.bool false)
    have z0 := Z.1.c0
    have z1 := Z.1.c1
    have z2 := Z.2.c
    unfold Hid
    gi_wp2
    refine ⟨.tuple #[.agg #[.int .i64 0, .int .i64 0], .bool false], ?_, by rw [HE.out.1, HE.out.2], q_set (q_set (q_set HB2.out (by simp; omega) _) (by simp; omega) _) (by simp; omega) _⟩
    simp [results, Try.f9, go_sem, z0, z1, z2]
  | true =>
    obtain ⟨i, hi⟩ := has_fd h3
    have HF := hid hi
    have hin : i < n := by have := (fd_some.1 hi).1; have := HN.out; omega
    have hi1 : (i : Int) ≤ 1000 := by omega
    have hi0 : (i : Int) < (n : Int) := by omega
    have hi2 : (0 : Int) ≤ (i : Int) := by omega
    obtain ⟨d, hd⟩ : ∃ d, D t i = d := ⟨_, rfl⟩
    have HD := hid hd
    rw [plc_of hi]
    clear h3 hi hd
    have rt := run_to ao i n cap (by have := HH.out.cap; omega)
    have HT2 := hid (HT1.out.below (alloc_below w1 (.cells #[.int .i64 (i : Nat)] 3)))
    have HP2 := hid (HP1.out.below (alloc_below w1 (.cells #[.int .i64 (i : Nat)] 3)))
    have HR2 := hid (HR1.out.below (alloc_below w1 (.cells #[.int .i64 (i : Nat)] 3)))
    have HB2 := hid (q_alloc HB1.out (.cells #[.int .i64 (i : Nat)] 3))
    have HI2 := hid (b1_new w1 (.int .i64 (i : Nat)) 3)
    have HS2 := hid (World.size_alloc w1 (.cells #[.int .i64 (i : Nat)] 3))
    have c1 := HT2.out.c
    have c2 := HI2.out.c
    unfold Hid
    gi_wp2_with (refine ⟨trivial, ?_⟩; gi_at_call 23; refine (callsIn_wide.2 (backward_any ao i cap _)).mono ?_; rintro e w' ⟨rfl, rfl⟩)
    clear c1 c2 rt
    obtain ⟨X, hX⟩ : ∃ X, w1.alloc (.cells #[.int .i64 (i : Nat)] 3) = X := ⟨_, rfl⟩
    rw [hX] at HT2 HP2 HR2 HB2 HI2 HS2
    rw [hX]
    obtain ⟨W2, hW2⟩ : ∃ W2, X.alloc (.cells #[.slice ao i cap] 26) = W2 := ⟨_, rfl⟩
    have hs3 : W2.heap.size = w1.heap.size + 2 := by rw [← hW2, World.size_alloc, HS2.out]
    have hb3 : Below X.heap.size X W2 := by rw [← hW2]; exact alloc_below _ _
    have hc3 : W2.cell? ⟨w1.heap.size + 1, 0, none⟩ = some (.slice ao i cap) := by
      have := (b1_new X (.slice ao i cap) 26).c
      rw [hW2, HS2.out] at this
      exact this
    have hlw : w.heap.size + 4 ≤ w1.heap.size := HR1.out.lt
    rw [hW2]
    clear hX hW2
    have hbw := q_trans HB2.out hb3
    refine wpIn_rangeFunc_ownH (n := 5) rfl (by decide) (gf := 36) (lb := #[.pointer (some ⟨w1.heap.size + 1, 0, none⟩)]) rfl trivial (enters_of Try.func36 (by kernel_rfl) rfl)
      (backward_stops 4 (by decide) (w1.heap.size + 1) ao i cap (t.take i) w W2 (by omega) (HH.out.take i (by omega)) hbw hc3) kb_t (kb_b (by omega)) (Below.refl _ _) (fun _ => rfl)
      (fun pre W => ((∀ y ∈ pre, d ≤ y.2.2.1) ∧ B1 W w.heap.size (.slice ao n cap) ∧ B1 W w1.heap.size (.int .i64 (i : Nat)) ∧ Bp W (w.heap.size + 1 + 1) (0, 0) ∧ B1 W (w.heap.size + 1 + 1 + 1) (.bool false)) ∧ Below w.heap.size w W)
      (fun c pre W => (c = .ret ∧ (∃ q x, pre = q ++ [x] ∧ (∀ y ∈ q, d ≤ y.2.2.1) ∧ x.2.2.1 < d ∧ Bp W (w.heap.size + 1 + 1) x.2.1) ∧ B1 W (w.heap.size + 1 + 1 + 1) (.bool true)) ∧ Below w.heap.size w W)
      (OwnFrom.and (Own.from (fun s A B row hs hg hr => ⟨hs.1, own_b1 (β := Unit) _ _ () A B row hs.2.1 hg hr, own_b1 (β := Unit) _ _ () A B row hs.2.2.1 hg hr, bp_grown hs.2.2.2.1 hg hr, own_b1 (β := Unit) _ _ () A B row hs.2.2.2.2 hg hr⟩) _) (ownFrom_below (Nat.le_refl _) (by omega)))
      (fun c => OwnFrom.and (Own.from (fun s A B row hs hg hr => by obtain ⟨e1, ⟨q, x, e2, e3, e4, e5⟩, e6⟩ := hs; exact ⟨e1, ⟨q, x, e2, e3, e4, bp_grown e5 hg hr⟩, own_b1 (β := Unit) _ _ () A B row e6 hg hr⟩) _) (ownFrom_below (Nat.le_refl _) (by omega)))
      ⟨⟨by simp, HT2.out.below hb3, HI2.out.below hb3, HP2.out.below hb3, HR2.out.below hb3⟩, hbw⟩
      (fun x a' W => ∃ Bx : Nat, AtB W ⟨Bx, 0, none⟩ x.2 ∧ a' = { tmps := #[.slice ao n cap, (.agg #[.int .i64 k.1, .int .i64 k.2]), .pointer (some ⟨w.heap.size, 0, none⟩), .pointer (some ⟨w.heap.size + 1, 0, none⟩), .pointer (some ⟨w.heap.size + 1 + 1, 0, none⟩), .pointer (some ⟨w.heap.size + 1 + 1 + 1, 0, none⟩), .pointer (some ⟨w1.heap.size, 0, none⟩), .bool true, undef, .pointer (some ⟨Bx, 0, none⟩), .tuple #[.int .i64 i, .bool true], .slice ao n cap, (.agg #[.int .i64 k.1, .int .i64 k.2]), .tuple #[.int .i64 i, .bool true], .int .i64 i, .bool true, .bool true, .bool false, undef, .slice ao n cap, .int .i64 i, .slice ao i cap, .func (.func 36) #[] #[.pointer (some ⟨w1.heap.size + 1, 0, none⟩)], .int .i64 x.1, (.agg #[.int .i64 x.2.1.1, .int .i64 x.2.1.2, .int .i64 x.2.2.1, .bool x.2.2.2]), undef, undef, undef, undef, undef, undef, undef, undef, undef, undef, undef], defers := [] })
      (fun x a' => Own.from (fun s A B row hs hg hr => by obtain ⟨Bx, h2, h3⟩ := hs; exact ⟨Bx, atB_grown h2 hg hr, h3⟩) _) ?assign ?body ?done ?stop
    case assign =>
      rintro l pre x W K ⟨⟨h1, h2, h3, h4, h5⟩, hB⟩ hK
      have hsW := hB.size
      gi_wp2
      exact hK _ _ ((keeps_below (alloc_below _ _)).from _) (kb_below hsW (alloc_below _ _)) ⟨⟨h1, h2.below (alloc_below _ _), h3.below (alloc_below _ _), h4.below (alloc_below _ _), h5.below (alloc_below _ _)⟩, q_alloc hB _⟩ ⟨W.heap.size, atB_new W x.2 35, rfl⟩
    case body =>
      rintro l pre x a' W hl ⟨r, hr⟩ ⟨⟨h1, hT, hI, hP, hR⟩, hB⟩ ⟨Bx, hA, rfl⟩ _
      obtain ⟨a, rfl, ca⟩ := (HH.out.below hB).at i hin
      obtain ⟨_, _, g2, _⟩ := ca
      rw [show (t.getD i zB).2.1 = d from HD.out] at g2
      have c1 := hT.c
      have c2 := hI.c
      obtain ⟨x0, x1, x2, x3⟩ := hA
      have H1 := hid h1
      have HP := hid hP
      have HR := hid hR
      have HT := hid hT
      have HI := hid hI
      have HB := hid hB
      obtain ⟨p0, p1, p2, p3⟩ := hP
      obtain ⟨r0, r1⟩ := hR
      clear h1 hl hr hT hI hB
      by_cases hd : x.2.2.1 < d
      · have HFin : Hid (KeepsFrom W2.heap.size W (((W.setCell ⟨w.heap.size + 1 + 1, 0, none⟩ (.int .i64 x.2.1.1)).setCell ⟨w.heap.size + 1 + 1, 1, none⟩ (.int .i64 x.2.1.2)).setCell ⟨w.heap.size + 1 + 1 + 1, 0, none⟩ (.bool true)).drew ∧ (((∃ q y, pre ++ [x] = q ++ [y] ∧ (∀ z ∈ q, d ≤ z.2.2.1) ∧ y.2.2.1 < d ∧ Bp (((W.setCell ⟨w.heap.size + 1 + 1, 0, none⟩ (.int .i64 x.2.1.1)).setCell ⟨w.heap.size + 1 + 1, 1, none⟩ (.int .i64 x.2.1.2)).setCell ⟨w.heap.size + 1 + 1 + 1, 0, none⟩ (.bool true)).drew (w.heap.size + 1 + 1) y.2.1) ∧ B1 (((W.setCell ⟨w.heap.size + 1 + 1, 0, none⟩ (.int .i64 x.2.1.1)).setCell ⟨w.heap.size + 1 + 1, 1, none⟩ (.int .i64 x.2.1.2)).setCell ⟨w.heap.size + 1 + 1 + 1, 0, none⟩ (.bool true)).drew (w.heap.size + 1 + 1 + 1) (.bool true)) ∧ Below w.heap.size w (((W.setCell ⟨w.heap.size + 1 + 1, 0, none⟩ (.int .i64 x.2.1.1)).setCell ⟨w.heap.size + 1 + 1, 1, none⟩ (.int .i64 x.2.1.2)).setCell ⟨w.heap.size + 1 + 1 + 1, 0, none⟩ (.bool true)).drew)) := by
          have Z := put3 HP.out HR.out x.2.1 (.bool true)
          refine ⟨((((KeepsOthers.setCell _ _ _).trans (KeepsOthers.setCell _ _ _)).trans (KeepsOthers.setCell _ _ _)).trans (KeepsOthers.drew _)).from _, ⟨⟨pre, x, rfl, H1.out, hd, Z.1.below (Below.refl _ _).drew⟩, Z.2.below (Below.refl _ _).drew⟩, (q_set (q_set (q_set HB.out (by simp; omega) _) (by simp; omega) _) (by simp; omega) _).drew⟩
        gi_wp2
        gi_region
        all_goals gi_wp2
        all_goals exact ⟨HFin.out.1, ⟨rfl, HFin.out.2.1⟩, HFin.out.2.2⟩
      · have HFin : Hid (KeepsFrom W2.heap.size W W.drew ∧ KB w.heap.size (w1.heap.size + 1) W W.drew ∧ (((∀ y ∈ pre ++ [x], d ≤ y.2.2.1) ∧ B1 W.drew w.heap.size (.slice (some a) n cap) ∧ B1 W.drew w1.heap.size (.int .i64 (i : Nat)) ∧ Bp W.drew (w.heap.size + 1 + 1) (0, 0) ∧ B1 W.drew (w.heap.size + 1 + 1 + 1) (.bool false)) ∧ Below w.heap.size w W.drew)) := by
          have bd : Below W.heap.size W W.drew := (Below.refl _ _).drew
          refine ⟨(KeepsOthers.drew _).from _, kb_below HB.out.size bd, ⟨fun y hy => ?_, HT.out.below bd, HI.out.below bd, HP.out.below bd, HR.out.below bd⟩, HB.out.drew⟩
          rcases List.mem_append.1 hy with h | h
          · exact H1.out y h
          · obtain rfl := List.mem_singleton.1 h
            omega
        gi_wp2
        gi_region
        all_goals gi_wp2
        all_goals exact HFin.out
    case done =>
      rintro Dd ys W hD rfl ⟨⟨h1, hT, hI, hP, hR⟩, hB⟩ hK
      have HE := hid (pr_no HF.out (fun m hm => by
        have h := h1 _ (bw_mem (u := t.take i) hm)
        rw [take_get hm] at h
        have h' : d ≤ (t.getD m zB).2.1 := h
        have e := HD.out
        show ¬ (t.getD m zB).2.1 < D t i
        omega))
      have HP := hid hP
      have HR := hid hR
      obtain ⟨p0, p1, p2, p3⟩ := hP
      obtain ⟨r0, r1⟩ := hR
      gi_wp2
      have Z := put3 HP.out HR.out (0, 0) (.bool false)
      have hK' := (((KeepsOthers.setCell W ⟨w.heap.size + 1 + 1, 0, none⟩ (.int .i64 0)).trans (KeepsOthers.setCell _ ⟨w.heap.size + 1 + 1, 1, none⟩ (.int .i64 0))).trans (KeepsOthers.setCell _ ⟨w.heap.size + 1 + 1 + 1, 0, none⟩ (.bool false))).same Dd _ hK rfl
      refine ⟨by simp, .inl ⟨_, _, rfl, run_takeDeferred hK', ?_⟩⟩
      have z0 := cell_kept Z.1.c0 (grownBy_putObj' _ Dd (.deferred none)) (fun r e => by cases e; exact ⟨_, hK', rfl⟩)
      have z1 := cell_kept Z.1.c1 (grownBy_putObj' _ Dd (.deferred none)) (fun r e => by cases e; exact ⟨_, hK', rfl⟩)
      have z2 := cell_kept Z.2.c (grownBy_putObj' _ Dd (.deferred none)) (fun r e => by cases e; exact ⟨_, hK', rfl⟩)
      refine ⟨.tuple #[.agg #[.int .i64 0, .int .i64 0], .bool false], ?_, by rw [HE.out.1, HE.out.2], (q_set (q_set (q_set hB (by simp; omega) _) (by simp; omega) _) (by simp; omega) _).trans (belowK_b (w := w) (Nat.le_refl _) _ Dd _ _ (by omega) hK' rfl rfl)⟩
      simp [results, Try.f9, go_sem, z0, z1, z2]
    case stop =>
      rintro Dd c pre W hD hS ⟨⟨rfl, ⟨q, x, rfl, h1, h2, hP⟩, hR⟩, hB⟩ hK
      obtain ⟨e1, e2, e3⟩ := bw_at hS
      have HE : Hid (prB t k = true ∧ prK t k = x.2.1) := by
        have hp : i - 1 - q.length < i := by omega
        have e4 : x.2 = t.getD (i - 1 - q.length) zB := by rw [e2]; exact take_get hp
        have hdx : D t (i - 1 - q.length) < D t i := by rw [HD.out]; show (t.getD (i - 1 - q.length) zB).2.1 < d; rw [← e4]; exact h2
        have h := pr_yes HF.out hp hdx (fun m a b => by
          have h := h1 _ (e3 m a b)
          rw [take_get b] at h
          have h' : d ≤ (t.getD m zB).2.1 := h
          have e := HD.out
          show ¬ (t.getD m zB).2.1 < D t i
          omega)
        refine ⟨h.1, ?_⟩
        rw [h.2, e4]
      clear e1 e2 e3 hS
      gi_wp2
      refine ⟨by simp, .inl ⟨_, _, rfl, run_takeDeferred hK, ?_⟩⟩
      have z0 := cell_kept hP.c0 (grownBy_putObj' _ Dd (.deferred none)) (fun r e => by cases e; exact ⟨_, hK, rfl⟩)
      have z1 := cell_kept hP.c1 (grownBy_putObj' _ Dd (.deferred none)) (fun r e => by cases e; exact ⟨_, hK, rfl⟩)
      have z2 := cell_kept hR.c (grownBy_putObj' _ Dd (.deferred none)) (fun r e => by cases e; exact ⟨_, hK, rfl⟩)
      refine ⟨.tuple #[.agg #[.int .i64 x.2.1.1, .int .i64 x.2.1.2], .bool true], ?_, by rw [HE.out.1, HE.out.2], hB.trans (belowK_b (w := w) (Nat.le_refl _) _ Dd _ _ (by omega) hK rfl rfl)⟩
      simp [results, Try.f9, go_sem, z0, z1, z2]
end Go.Proofs.Ytdaakigofpehjab.Tr
