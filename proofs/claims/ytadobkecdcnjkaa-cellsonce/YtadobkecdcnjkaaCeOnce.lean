/- The walk of CellsOnce: it answers true. -/
import Derived.Test.YtadobkecdcnjkaaCeApply
namespace Go.Proofs.Ytadobkecdcnjkaa.Ce
open Go.RowKit

/-! ### What follows, of lists -/
theorem getD_set (l : List Int) (j i : Nat) (x : Int) (h : j < l.length) : (l.set j x).getD i 0 = if i = j then x else l.getD i 0 := by
  by_cases e : i = j
  · subst e
    simp [List.getD, h]
  · have e' : ¬ j = i := fun h1 => e h1.symm
    simp [List.getD, e, e']
theorem ap_far {l : List Int} {o : O} (hok : okO o l.length = true) (i : Nat) (h : (i : Int) ≠ o.c) : (apV l o).getD i 0 = l.getD i 0 := by
  have hk := okO_iff.1 hok
  rw [apV_yes hok, getD_set _ _ _ _ (by omega), if_neg (by omega)]
theorem ap_at {l : List Int} {o : O} (hok : okO o l.length = true) : (apV l o).getD o.c.toNat 0 = stV (at0 l o) o := by
  have hk := okO_iff.1 hok
  rw [apV_yes hok, getD_set _ _ _ _ (by omega), if_pos rfl]
theorem set_same (l : List Int) (j : Nat) (h : j < l.length) : l.set j (l.getD j 0) = l := by
  apply List.ext_getElem?
  intro i
  by_cases e : j = i
  · subst e
    simp [List.getD, h]
  · simp [e]
/-- What was not done as meant changes nothing, and is not done as meant again. -/
theorem ap_fail {l : List Int} {o : O} (hok : okO o l.length = true) (h : (apR l o).ok = false) : apV l o = l := by
  have hk := okO_iff.1 hok
  rw [apR_yes hok] at h
  rw [apV_yes hok, stV_no h]
  exact set_same l _ (by omega)
theorem ap_got {l : List Int} {o : O} (hok : okO o l.length = true) : (apR l o).got = l.getD o.c.toNat 0 := by rw [apR_yes hok]; rfl
/-- A load and a store, done twice, change nothing more. -/
theorem ap_twice {l : List Int} {o : O} (hok : okO o l.length = true) (h : o.k = 1 ∨ o.k = 2) : apV (apV l o) o = apV l o := by
  have hk := okO_iff.1 hok
  have hok2 : okO o (apV l o).length = true := by rw [apV_len]; exact hok
  rw [apV_yes hok2]
  have e : stV (at0 (apV l o) o) o = (apV l o).getD o.c.toNat 0 := by
    have : at0 (apV l o) o = (apV l o).getD o.c.toNat 0 := rfl
    rw [this, ap_at hok]
    have hb : ∀ x, stB x o = true := fun x => stB_iff.2 (by omega)
    simp only [stV, hb, if_true]
    rcases h with h | h <;> simp [h]
  rw [e]
  exact set_same _ _ (by rw [apV_len]; omega)

set_option maxRecDepth 100000 in
set_option maxHeartbeats 1000000 in
theorem conce_long (ao : Option Addr) (n cap : Nat) (o : O) (w : World) (hn : 100 < n) (hn2 : n ≤ 9223372036854775807) :
    Calls Try.prog 7 #[.slice ao n cap, (.agg #[.int .i64 o.k, .int .i64 o.c, .int .i64 o.a, .int .i64 o.v, .int .i64 o.w])] w fun e w' => e = .returned (.bool true) ∧ Below w.heap.size w w' := by
  go_enter Try.func7, Try.ntmps7
  go_wp2_with fail
  refine (live_any _).mono ?_
  rintro e w6 ⟨rfl, b6⟩
  have HB := hid (q_trans (alloc_below w _) b6)
  clear b6
  go_wp2_with fail
  go_ret
  exact ⟨rfl, HB.out⟩
set_option maxRecDepth 100000 in
set_option maxHeartbeats 1000000 in
theorem conce_no (ao : Option Addr) (n cap : Nat) (o : O) (w : World) (hn : n ≤ 100) (hok : Hid (okO o n = false)) :
    Calls Try.prog 7 #[.slice ao n cap, (.agg #[.int .i64 o.k, .int .i64 o.c, .int .i64 o.a, .int .i64 o.v, .int .i64 o.w])] w fun e w' => e = .returned (.bool true) ∧ Below w.heap.size w w' := by
  go_enter Try.func7, Try.ntmps7
  go_wp2_with fail
  refine (check_no o n _ hok.out).mono ?_
  rintro e w1 ⟨rfl, b1⟩
  have HB1 := hid (q_trans (alloc_below w _) b1)
  clear b1
  go_wp2_with (go_at_call 12; refine (num_any _ _).mono ?_; rintro e w' ⟨rfl, rfl⟩)
  refine (live_any _).mono ?_
  rintro e w6 ⟨rfl, b6⟩
  have HB := hid (q_trans HB1.out b6)
  clear b6
  go_wp2_with fail
  go_ret
  exact ⟨rfl, HB.out⟩

theorem ap_fail2 {l : List Int} {o : O} (hok : okO o l.length = true) (h : (apR l o).ok = false) : (apR (apV l o) o).ok = false ∧ ¬ o.k = 1 ∧ ¬ o.k = 2 := by
  rw [ap_fail hok h]
  refine ⟨h, ?_⟩
  rw [apR_yes hok] at h
  have := stB_not.1 h
  exact ⟨fun e => this (.inl e), fun e => this (.inr (.inl e))⟩

set_option maxRecDepth 100000 in
set_option maxHeartbeats 4000000 in
theorem conce_yes (ad : Addr) (n cap j : Nat) (l : List Int) (k a v ww : Int) (r s : Rc) (l1 l2 : List Int) (w : World) (hn : n ≤ 100) (hj : j < n) (HN : Hid (n = l.length)) (HR : Hid (Row w (some ad) (vals l))) (hok : Hid (okO ⟨k, j, a, v, ww⟩ n = true))
    (HA1 : Hid (apR l ⟨k, j, a, v, ww⟩ = r)) (HV1 : Hid (apV l ⟨k, j, a, v, ww⟩ = l1)) (HA2 : Hid (apR l1 ⟨k, j, a, v, ww⟩ = s)) (HV2 : Hid (apV l1 ⟨k, j, a, v, ww⟩ = l2)) (HL1 : Hid (n = l1.length)) (HL2 : Hid (n = l2.length))
    (hleg : (r.ok = false ∧ l1 = l ∧ s.ok = false ∧ (k == 1) = false ∧ (k == 2) = false) ∨ (r.ok = true ∧ k = 1 ∧ l2 = l1) ∨ (r.ok = true ∧ k = 2 ∧ l2 = l1) ∨ (r.ok = true ∧ (k == 1) = false ∧ (k == 2) = false))
    (HFAR : Hid (∀ i : Nat, i ≠ j → l1.getD i 0 = l.getD i 0)) (HG1 : Hid (r.got = l.getD j 0)) (HG2 : Hid (s.got = l1.getD j 0)) :
    Calls Try.prog 7 #[.slice (some ad) n cap, .agg #[.int .i64 k, .int .i64 j, .int .i64 a, .int .i64 v, .int .i64 ww]] w fun e w' => e = .returned (.bool true) ∧ Below w.heap.size w w' := by
  have HLEG := hid hleg
  clear hleg
  go_enter Try.func7, Try.ntmps7
  have HB0 := hid (alloc_below w (.cells #[.int .i64 k, .int .i64 j, .int .i64 a, .int .i64 v, .int .i64 ww] 36))
  have HI0 := hid (inO_new w ⟨k, j, a, v, ww⟩ 36)
  go_wp2_with fail
  refine (check_yes ⟨k, j, a, v, ww⟩ n _ hok.out).mono ?_
  rintro e w1 ⟨rfl, b1⟩
  have HB1 := hid (q_trans HB0.out b1)
  have HI1 := hid (HI0.out.below b1)
  obtain ⟨c0, c1, c2, c3, c4⟩ := HI1.out
  clear b1
  go_wp2_with (go_at_call 12; refine (num_any _ _).mono ?_; rintro e w' ⟨rfl, rfl⟩)
  have ap := apply_any (some ad) n cap l ⟨k, j, a, v, ww⟩ _ HN.out (by omega) (fun h => by cases h) (HR.out.below HB1.out)
  rw [HA1.out, HV1.out] at ap
  refine ap.mono ?_
  rintro e w2 ⟨ao2, cap2, rfl, own2, b2⟩
  obtain ⟨R2, -, N2, -⟩ := own_row own2
  have al2 := alloc_below w2 (.cells #[.int .i64 r.o.k, .int .i64 r.o.c, .int .i64 r.o.a, .int .i64 r.o.v, .int .i64 r.o.w, .int .i64 r.got, .bool r.ok] 38)
  have HR2 := hid (R2.below al2)
  have HN2 := hid N2
  have HB2 := hid (q_trans (q_trans HB1.out b2) al2)
  have HI2 := hid ((HI1.out.below b2).below al2)
  have HQ2 := hid (inR_new w2 r 38)
  clear own2 R2 N2 ap b2 al2 c0 c1 c2 c3 c4
  obtain ⟨c0, c1, c2, c3, c4⟩ := HI2.out
  go_wp2_with fail
  have ap := apply_any ao2 n cap2 l1 ⟨k, j, a, v, ww⟩ _ HL1.out (by omega) HN2.out HR2.out
  rw [HA2.out, HV2.out] at ap
  refine ap.mono ?_
  rintro e w3 ⟨ao3, cap3, rfl, own3, b3⟩
  obtain ⟨R3, -, N3, -⟩ := own_row own3
  generalize hW : w3.alloc (.cells #[.int .i64 s.o.k, .int .i64 s.o.c, .int .i64 s.o.a, .int .i64 s.o.v, .int .i64 s.o.w, .int .i64 s.got, .bool s.ok] 38) = W
  have al3 : Below w3.heap.size w3 W := hW ▸ alloc_below w3 _
  have HR3 := hid (R3.below al3)
  have HB3 := hid (q_trans (q_trans HB2.out b3) al3)
  have HI3 := hid ((HI2.out.below b3).below al3)
  have HQ3 := hid ((HQ2.out.below b3).below al3)
  have HP3 : Hid (InR W w3.heap.size s) := hW ▸ inR_new w3 s 38
  have HG3 := hid ((HR2.out.below b3).below al3)
  have HL3 := hid (HR.out.below HB3.out)
  clear own3 R3 N3 ap b3 al3 c0 c1 c2 c3 c4
  go_wp2_with fail
  clear hW
  obtain ⟨a2, rfl, -⟩ := HG3.out.lt (by rw [len_vals]; have := HL1.out; omega)
  go_loopw [9] (fun i wr => ∃ q : Nat, q ≤ n ∧ i = .int .i64 q ∧ ∃ nd, wr = W.drewN nd) (fun i _ => n - (intOf i).toNat)
  case atStart => exact ⟨0, Nat.zero_le _, rfl, 0, rfl⟩
  case round =>
    obtain ⟨q, hq, rfl, nd, rfl⟩ := hrel
    obtain ⟨c0, c1, c2, c3, c4⟩ := HI3.out
    by_cases hlt : q < n
    · have i1 : (0 : Int) ≤ (q : Int) := by omega
      have i2 : (q : Int) < (n : Int) := by omega
      by_cases hqj : q = j
      · have hne : ((q : Int) != (j : Int)) = false := by simp [hqj]
        clear hqj
        go_wp2_with fail
        go_quiet (fail)
        go_wp2_with fail
        go_roundw
        case rel => exact ⟨q + 1, by omega, by go_num, _, rfl⟩
        case measure => simp [intOf]; omega
      · have hne : ((q : Int) != (j : Int)) = true := by simp; omega
        obtain ⟨x, hx⟩ : ∃ x, l.getD q 0 = x := ⟨_, rfl⟩
        have ca : W.cell? (a2.add q) = some (.int .i64 x) := by
          obtain ⟨_, e, h⟩ := HG3.out.cell q _ (vals_at l1 q (by have := HL1.out; omega))
          cases e
          rw [h, HFAR.out q hqj, hx]
        have cb : W.cell? (ad.add q) = some (.int .i64 x) := by
          obtain ⟨_, e, h⟩ := HL3.out.cell q _ (vals_at l q (by have := HN.out; omega))
          cases e
          rw [h, hx]
        clear hx hqj
        go_wp2_with fail
        go_quiet (fail)
        go_wp2_with fail
        go_roundw
        case rel => exact ⟨q + 1, by omega, by go_num, _, rfl⟩
        case measure => simp [intOf]; omega
    · obtain rfl : q = n := by omega
      have i1 : (0 : Int) ≤ (j : Int) := by omega
      have i2 : (j : Int) < (q : Int) := by omega
      obtain ⟨r0, r1, r2, r3, r4, r5, r6, -⟩ := HQ3.out
      obtain ⟨s0, s1, s2, s3, s4, s5, s6, -⟩ := HP3.out
      have ca : W.cell? (a2.add j) = some (.int .i64 s.got) := by
        obtain ⟨_, e, h⟩ := HG3.out.cell j _ (vals_at l1 j (by have := HL1.out; omega))
        cases e
        rw [h, HG2.out]
      have cb : W.cell? (ad.add j) = some (.int .i64 r.got) := by
        obtain ⟨_, e, h⟩ := HL3.out.cell j _ (vals_at l j (by have := HN.out; omega))
        cases e
        rw [h, HG1.out]
      have HCA := hid ca
      have HCB := hid cb
      have HC1 := hid c1
      have HS5 := hid s5
      have HR5 := hid r5
      clear ca cb
      have HTAIL : Hid (∀ nd, Below w.heap.size w (W.drewN nd)) := fun nd => q_trans HB3.out (drewN_below _ nd)
      rcases HLEG.out with ⟨ho, hl, hs, hk1, hk2⟩ | ⟨ho, hk, hl⟩ | ⟨ho, hk, hl⟩ | ⟨ho, hk1, hk2⟩
      · rw [ho] at r6
        rw [hs] at s6
        have HL := hid hl
        clear ho hl hs
        go_wp2_with fail
        refine (values_true (some a2) (some ad) q cap2 cap l _ (by omega) HN.out (by have := HG3.out.below (drewN_below _ nd); rw [HL.out] at this; exact this) (HL3.out.below (drewN_below _ nd))).mono ?_
        rintro e w4 ⟨rfl, nd2, rfl⟩
        go_wp2_with fail
        generalize hX : World.drewN W _ = X
        have key : ∀ {q : Addr} {u : Value}, W.cell? q = some u → ∀ x : Later X, x.now.cell? q = some u := fun h x => x.cell (by rw [← hX]; exact h)
        have f1 := key HR5.out
        have f2 := key HS5.out
        have f3 := key HC1.out
        have f4 := key HCA.out
        have f5 := key HCB.out
        have hne : Nonempty (Later X) := ⟨⟨X, Below.refl _ _⟩⟩
        have HBX : Hid (Below w.heap.size w X) := by rw [← hX]; exact HTAIL.out _
        clear hX key r0 r1 r2 r3 r4 r5 r6 s0 s1 s2 s3 s4 s5 s6 c0 c1 c2 c3 c4
        refine wp_region_later (by kernel_rfl) (by kernel_rfl) ?_
        repeat (go_big_quiet_step ((go_at_call 10; exact later_call (live_any _))))
        refine wpQuiet_nil ?_
        rintro w9 ⟨⟨_, b9⟩, rfl⟩
        have HBE := hid (q_trans HBX.out b9)
        clear f1 f2 f3 f4 f5 hne b9
        go_wp2_with fail
        go_ret
        exact ⟨rfl, HBE.out⟩
      · rw [ho] at r6
        have HL := hid hl
        have HK := hid hk
        rw [hk] at c0
        clear ho hl hk
        go_wp2_with fail
        refine (values_true (some a2) ao3 q cap2 cap3 l1 _ (by omega) HL1.out (HG3.out.below (drewN_below _ nd)) (by have := HR3.out.below (drewN_below _ nd); rw [HL.out] at this; exact this)).mono ?_
        rintro e w4 ⟨rfl, nd2, rfl⟩
        go_wp2_with fail
        generalize hX : World.drewN W _ = X
        have key : ∀ {q : Addr} {u : Value}, W.cell? q = some u → ∀ x : Later X, x.now.cell? q = some u := fun h x => x.cell (by rw [← hX]; exact h)
        have f1 := key HR5.out
        have f2 := key HS5.out
        have f3 := key HC1.out
        have f4 := key HCA.out
        have f5 := key HCB.out
        have hne : Nonempty (Later X) := ⟨⟨X, Below.refl _ _⟩⟩
        have HBX : Hid (Below w.heap.size w X) := by rw [← hX]; exact HTAIL.out _
        clear hX key r0 r1 r2 r3 r4 r5 r6 s0 s1 s2 s3 s4 s5 s6 c0 c1 c2 c3 c4
        refine wp_region_later (by kernel_rfl) (by kernel_rfl) ?_
        repeat (go_big_quiet_step ((go_at_call 10; exact later_call (live_any _))))
        refine wpQuiet_nil ?_
        rintro w9 ⟨⟨_, b9⟩, rfl⟩
        have HBE := hid (q_trans HBX.out b9)
        clear f1 f2 f3 f4 f5 hne b9
        go_wp2_with fail
        go_ret
        exact ⟨rfl, HBE.out⟩
      · rw [ho] at r6
        have HL := hid hl
        have HK := hid hk
        rw [hk] at c0
        clear ho hl hk
        go_wp2_with fail
        refine (values_true (some a2) ao3 q cap2 cap3 l1 _ (by omega) HL1.out (HG3.out.below (drewN_below _ nd)) (by have := HR3.out.below (drewN_below _ nd); rw [HL.out] at this; exact this)).mono ?_
        rintro e w4 ⟨rfl, nd2, rfl⟩
        go_wp2_with fail
        generalize hX : World.drewN W _ = X
        have key : ∀ {q : Addr} {u : Value}, W.cell? q = some u → ∀ x : Later X, x.now.cell? q = some u := fun h x => x.cell (by rw [← hX]; exact h)
        have f1 := key HR5.out
        have f2 := key HS5.out
        have f3 := key HC1.out
        have f4 := key HCA.out
        have f5 := key HCB.out
        have hne : Nonempty (Later X) := ⟨⟨X, Below.refl _ _⟩⟩
        have HBX : Hid (Below w.heap.size w X) := by rw [← hX]; exact HTAIL.out _
        clear hX key r0 r1 r2 r3 r4 r5 r6 s0 s1 s2 s3 s4 s5 s6 c0 c1 c2 c3 c4
        refine wp_region_later (by kernel_rfl) (by kernel_rfl) ?_
        repeat (go_big_quiet_step ((go_at_call 10; exact later_call (live_any _))))
        refine wpQuiet_nil ?_
        rintro w9 ⟨⟨_, b9⟩, rfl⟩
        have HBE := hid (q_trans HBX.out b9)
        clear f1 f2 f3 f4 f5 hne b9
        go_wp2_with fail
        go_ret
        exact ⟨rfl, HBE.out⟩
      · rw [ho] at r6
        clear ho
        go_wp2_with fail
        generalize hX : World.drewN W _ = X
        have key : ∀ {q : Addr} {u : Value}, W.cell? q = some u → ∀ x : Later X, x.now.cell? q = some u := fun h x => x.cell (by rw [← hX]; exact h)
        have f1 := key HR5.out
        have f2 := key HS5.out
        have f3 := key HC1.out
        have f4 := key HCA.out
        have f5 := key HCB.out
        have hne : Nonempty (Later X) := ⟨⟨X, Below.refl _ _⟩⟩
        have HBX : Hid (Below w.heap.size w X) := by rw [← hX]; exact HTAIL.out _
        clear hX key r0 r1 r2 r3 r4 r5 r6 s0 s1 s2 s3 s4 s5 s6 c0 c1 c2 c3 c4
        refine wp_region_later (by kernel_rfl) (by kernel_rfl) ?_
        repeat (go_big_quiet_step ((go_at_call 10; exact later_call (live_any _))))
        refine wpQuiet_nil ?_
        rintro w9 ⟨⟨_, b9⟩, rfl⟩
        have HBE := hid (q_trans HBX.out b9)
        clear f1 f2 f3 f4 f5 hne b9
        go_wp2_with fail
        go_ret
        exact ⟨rfl, HBE.out⟩

theorem conce_any (ao : Option Addr) (l : List Int) (n cap : Nat) (o : O) (w : World) (hl : n = l.length) (hn : n ≤ 9223372036854775807) (_ : ao = none → cap = 0) (hr : Row w ao (vals l)) :
    Calls Try.prog 7 #[.slice ao n cap, (.agg #[.int .i64 o.k, .int .i64 o.c, .int .i64 o.a, .int .i64 o.v, .int .i64 o.w])] w fun e w' => e = .returned (.bool true) ∧ Below w.heap.size w w' := by
  by_cases h : n ≤ 100
  · cases hok : okO o n with
    | false => exact conce_no ao n cap o w h hok
    | true =>
      have hok' : okO o l.length = true := hl ▸ hok
      have hk := okO_iff.1 hok
      have leg : ((apR l o).ok = false ∧ apV l o = l ∧ (apR (apV l o) o).ok = false ∧ (o.k == 1) = false ∧ (o.k == 2) = false) ∨ ((apR l o).ok = true ∧ o.k = 1 ∧ apV (apV l o) o = apV l o) ∨ ((apR l o).ok = true ∧ o.k = 2 ∧ apV (apV l o) o = apV l o) ∨ ((apR l o).ok = true ∧ (o.k == 1) = false ∧ (o.k == 2) = false) := by
        cases hb : (apR l o).ok with
        | false =>
          have h2 := ap_fail2 hok' hb
          exact .inl ⟨rfl, ap_fail hok' hb, h2.1, by simp [h2.2.1], by simp [h2.2.2]⟩
        | true =>
          by_cases k1 : o.k = 1
          · exact .inr (.inl ⟨rfl, k1, ap_twice hok' (.inl k1)⟩)
          · by_cases k2 : o.k = 2
            · exact .inr (.inr (.inl ⟨rfl, k2, ap_twice hok' (.inr k2)⟩))
            · exact .inr (.inr (.inr ⟨rfl, by simp [k1], by simp [k2]⟩))
      have hfar := ap_far hok'
      have hg1 := ap_got hok'
      have hg2 := ap_got (l := apV l o) (o := o) (by rw [apV_len]; exact hok')
      obtain ⟨k, c, a, v, ww⟩ := o
      obtain ⟨j, rfl⟩ := Int.eq_ofNat_of_zero_le hk.2.1
      have hj : j < n := by have := hk.2.2; dsimp only at this; omega
      obtain ⟨ad, rfl, _⟩ := hr.lt (by rw [len_vals]; omega)
      exact conce_yes ad n cap j l k a v ww _ _ _ _ w h hj hl hr hok rfl rfl rfl rfl (by rw [apV_len]; exact hl) (by rw [apV_len, apV_len]; exact hl) leg (fun i hi => hfar i (fun e => hi (by have : (i : Int) = (j : Int) := e; omega))) hg1 hg2
  · exact conce_long ao n cap o w (by omega) hn
end Go.Proofs.Ytadobkecdcnjkaa.Ce
