/- What Pending, earliest, lastStamp, refused do. -/
import Derived.Test.YtmnkbkhfonngeaaHiW6
namespace Go.Proofs.Ytmnkbkhfonngeaa.Hi
open Go.RowKit

theorem lastI_none {l : List Sp} {c : Int} (h : lastO l c = none) : lastI l c = -1 := by simp [lastI, h]
theorem lastI_some {l : List Sp} {c : Int} {i : Nat} (h : lastO l c = some i) : lastI l c = i := by simp [lastI, h]
theorem pn_none {l : List Sp} {c : Int} (h : lastO l c = none) : pnI l c = 0 ∧ pnB l c = false := by simp [pnI, pnB, pnO, h]
theorem pn_shut {l : List Sp} {c : Int} {i : Nat} (h : lastO l c = some i) (o : opB (S l i) = false) : pnI l c = 0 ∧ pnB l c = false := by simp only [pnI, pnB, pnO, h, o]; exact ⟨rfl, rfl⟩
theorem pn_open {l : List Sp} {c : Int} {i : Nat} (h : lastO l c = some i) (o : opB (S l i) = true) : pnI l c = i ∧ pnB l c = true := by simp only [pnI, pnB, pnO, h, o]; exact ⟨rfl, rfl⟩
theorem ret_pn {a b : Int} {p q : Bool} (h : a = b ∧ p = q) : Ending.returned (.tuple #[.int .i64 a, .bool p]) = .returned (.tuple #[.int .i64 b, .bool q]) := by rw [h.1, h.2]
set_option maxHeartbeats 1000000 in
/-- Pending: THE PLACE OF A CORE's OPEN SPAN. -/
theorem pending_any (x : Hh) (h : Hs) (c : Int) (w : World) (hs : x.s.n ≤ 5000) (HH : Hid (HasS w x.s h.s)) :
    Calls Try.prog 12 #[(.agg #[.slice x.s.o x.s.n x.s.c, .slice x.e.o x.e.n x.e.c]), .int .i64 c] w fun e w' => e = .returned (.tuple #[.int .i64 (pnI h.s c), .bool (pnB h.s c)]) ∧ Below w.heap.size w w' := by
  obtain ⟨⟨so, sn, sc⟩, ye⟩ := x
  have HN : Hid (sn = h.s.length) := HH.out.len
  go_enter Try.func12, Try.ntmps12
  go_upto_region 1 with fail
  have HP : Hid (Hb (w.alloc (.cells #[.slice so sn sc, .slice ye.o ye.n ye.c] 25)) w.heap.size ⟨⟨so, sn, sc⟩, ye⟩) := hb_new w ⟨⟨so, sn, sc⟩, ye⟩
  have HB := hid (alloc_below w (.cells #[.slice so sn sc, .slice ye.o ye.n ye.c] 25))
  generalize w.alloc (.cells #[.slice so sn sc, .slice ye.o ye.n ye.c] 25) = W at HP HB ⊢
  have c0 : W.cell? ⟨w.heap.size, 0, none⟩ = some (.slice so sn sc) := HP.out.c0
  have HK := hid (last_any so sn sc h.s c W hs (HH.out.below HB.out))
  cases hl : lastO h.s c with
  | none =>
    have HR := hid (pn_none hl)
    rw [lastI_none hl] at HK
    clear hl
    go_wp2_with (go_at_call 26; refine HK.out.mono ?_; rintro e w8 ⟨rfl, hw⟩; rw [hw]; clear hw w8)
    go_ret2
    exact ⟨ret_pn ⟨HR.out.1.symm, HR.out.2.symm⟩, HB.out⟩
  | some i =>
    obtain ⟨hi, _, _⟩ := lst_some hl
    rw [lastI_some hl] at HK
    have i0 : (i : Int) ≥ 0 := by omega
    have i1 : (0 : Int) ≤ (i : Int) := by omega
    have i2 : (i : Int) < (sn : Int) := by have := HN.out; omega
    obtain ⟨a, ea, ca⟩ := atS_of (HH.out.below HB.out).row i hi
    obtain rfl : so = some a := ea
    obtain ⟨s, hs9⟩ : ∃ s, h.s.getD i s0 = s := ⟨_, rfl⟩
    rw [hs9] at ca
    obtain ⟨d0, d1, d2, d3, d4, d5, d6, d7, d8, d9, d10, d11, d12, d13, d14⟩ := ca
    have HO := hid (open_any s W)
    cases ho : opB s with
    | false =>
      rw [ho] at HO
      have HR := hid (pn_shut hl (show opB (h.s.getD i s0) = false by rw [hs9]; exact ho))
      clear hl ho hs9
      go_wp2_with (first | (go_at_call 26; refine HK.out.mono ?_; rintro e w8 ⟨rfl, hw⟩; rw [hw]; clear hw w8) | (go_at_call 27; refine HO.out.mono ?_; rintro e w8 ⟨rfl, b8⟩))
      go_ret2
      exact ⟨ret_pn ⟨HR.out.1.symm, HR.out.2.symm⟩, q_trans HB.out b8⟩
    | true =>
      rw [ho] at HO
      have HR := hid (pn_open hl (show opB (h.s.getD i s0) = true by rw [hs9]; exact ho))
      clear hl ho hs9
      go_wp2_with (first | (go_at_call 26; refine HK.out.mono ?_; rintro e w8 ⟨rfl, hw⟩; rw [hw]; clear hw w8) | (go_at_call 27; refine HO.out.mono ?_; rintro e w8 ⟨rfl, b8⟩))
      go_ret2
      exact ⟨ret_pn ⟨HR.out.1.symm, HR.out.2.symm⟩, q_trans HB.out b8⟩
set_option maxHeartbeats 400000 in
theorem earliest_any (y : Hd) (l : List Sp) (w : World) (hs : y.n ≤ 5000) (HH : Hid (HasS w y l)) :
    Calls Try.prog 46 #[.slice y.o y.n y.c] w fun e w' => e = .returned (.int .i64 (lo l l.length)) ∧ w' = w := by
  obtain ⟨ao, n, cap⟩ := y
  have HN : Hid (n = l.length) := HH.out.len
  cases n with
  | zero =>
    have HR : Hid (lo l l.length = 1) := by unfold Hid; rw [← HN.out]; rfl
    go_enter Try.func46, Try.ntmps46
    go_wp2_with fail
    go_ret
    exact ⟨ret_int HR.out.symm, rfl⟩
  | succ m =>
    obtain ⟨M, hM⟩ : ∃ M, m + 1 = M := ⟨_, rfl⟩
    rw [hM] at HN HH hs ⊢
    replace hs : M ≤ 5000 := hs
    have HR : Hid (lo l l.length = (l.getD m s0).st) := by unfold Hid; rw [← HN.out, ← hM]; rfl
    have h1 : ((M : Int) == 0) = false := by simp; omega
    have h2 : (M : Int) - 1 = (m : Int) := by omega
    have h3 : IntKind.i64.wrap (m : Int) = (m : Int) := by rw [IntKind.wrap_i64] <;> omega
    have i1 : (0 : Int) ≤ (m : Int) := by omega
    have i2 : (m : Int) < (M : Int) := by omega
    obtain ⟨a, ea, ca⟩ := atS_of HH.out.row m (by have := HN.out; omega)
    obtain rfl : ao = some a := ea
    obtain ⟨s, hs9⟩ : ∃ s, l.getD m s0 = s := ⟨_, rfl⟩
    rw [hs9] at ca HR
    have d9 := ca.c9
    clear hs9 ca hM
    go_enter Try.func46, Try.ntmps46
    go_wp2_with fail
    go_ret
    exact ⟨ret_int HR.out.symm, rfl⟩
set_option maxHeartbeats 400000 in
theorem lastStamp_any (y : Hd) (l : List Ev) (w : World) (hs : y.n ≤ 5000) (HH : Hid (HasE w y l)) :
    Calls Try.prog 39 #[.slice y.o y.n y.c] w fun e w' => e = .returned (.int .i64 (lp l l.length)) ∧ w' = w := by
  obtain ⟨ao, n, cap⟩ := y
  have HN : Hid (n = l.length) := HH.out.len
  cases n with
  | zero =>
    have HR : Hid (lp l l.length = 0) := by unfold Hid; rw [← HN.out]; rfl
    go_enter Try.func39, Try.ntmps39
    go_wp2_with fail
    go_ret
    exact ⟨ret_int HR.out.symm, rfl⟩
  | succ m =>
    obtain ⟨M, hM⟩ : ∃ M, m + 1 = M := ⟨_, rfl⟩
    rw [hM] at HN HH hs ⊢
    replace hs : M ≤ 5000 := hs
    have HR : Hid (lp l l.length = (E l m).sp) := by unfold Hid; rw [← HN.out, ← hM]; rfl
    have h1 : ((M : Int) == 0) = false := by simp; omega
    have h2 : (M : Int) - 1 = (m : Int) := by omega
    have h3 : IntKind.i64.wrap (m : Int) = (m : Int) := by rw [IntKind.wrap_i64] <;> omega
    have i1 : (0 : Int) ≤ (m : Int) := by omega
    have i2 : (m : Int) < (M : Int) := by omega
    obtain ⟨xs, hxs, HX⟩ := HH.out
    have hmx : m < xs.length := by have h9 := HN.out; rw [← hxs, List.length_map] at h9; omega
    obtain ⟨a, ea, ca⟩ := atE_of HX.has.row m hmx
    obtain rfl : ao = some a := ea
    rw [← hxs, E_map hmx] at HR
    obtain ⟨s, hs9⟩ : ∃ s, xs.getD m (e0, nilH) = s := ⟨_, rfl⟩
    rw [hs9] at ca HR
    have d9 := ca.c10
    rw [hxs] at HR
    clear hs9 ca hM HX hmx hxs
    go_enter Try.func39, Try.ntmps39
    go_wp2_with fail
    go_ret
    exact ⟨ret_int HR.out.symm, rfl⟩
theorem inv_180 {h : Hs} {c now : Int} (e : okH h = false) : invE h c now = 180 := by simp [invE, e]
theorem inv_2 {h : Hs} {c now : Int} (e : okH h = true) (g : (okC c && decide (lo h.s h.s.length ≤ now)) = false) : invE h c now = 2 := by rw [invE, if_neg (by rw [e]; decide), if_pos g]
theorem inv_0 {h : Hs} {c now : Int} (e : okH h = true) (g : (okC c && decide (lo h.s h.s.length ≤ now)) = true) (k : lastO h.s c = none) : invE h c now = 0 := by rw [invE, if_neg (by rw [e]; decide), if_neg (by rw [g]; decide), k]
theorem inv_s {h : Hs} {c now : Int} {j : Nat} (e : okH h = true) (g : (okC c && decide (lo h.s h.s.length ≤ now)) = true) (k : lastO h.s c = some j) : invE h c now = if ahB (S h.s j) ⟨0, c0, now, 0, r0⟩ then 0 else 8 := by rw [invE, if_neg (by rw [e]; decide), if_neg (by rw [g]; decide), k]
theorem ck_0 {h : Hs} (e : okH h = true) : ckE h = 0 := by simp [ckE, e]
theorem ck_180 {h : Hs} (e : okH h = false) : ckE h = 180 := by simp [ckE, e]
set_option maxRecDepth 100000 in
set_option maxHeartbeats 1000000 in
/-- refused: WHAT WHO CALLS IS REFUSED FOR. -/
theorem refused_any (x : Hh) (h : Hs) (c now : Int) (w : World) (hs : x.s.n ≤ 5000) (he : x.e.n ≤ 5000) (HH : Hid (HasH w x h)) :
    Calls Try.prog 37 #[(.agg #[.slice x.s.o x.s.n x.s.c, .slice x.e.o x.e.n x.e.c]), .int .i64 c, .int .i64 now] w fun e w' => e = .returned (.int .i64 (invE h c now)) ∧ Below w.heap.size w w' := by
  obtain ⟨⟨so, sn, sc⟩, ye⟩ := x
  have HN : Hid (sn = h.s.length) := HH.out.s.len
  go_enter Try.func37, Try.ntmps37
  go_upto_region 1 with fail
  have HP : Hid (Hb (w.alloc (.cells #[.slice so sn sc, .slice ye.o ye.n ye.c] 25)) w.heap.size ⟨⟨so, sn, sc⟩, ye⟩) := hb_new w ⟨⟨so, sn, sc⟩, ye⟩
  have HB := hid (alloc_below w (.cells #[.slice so sn sc, .slice ye.o ye.n ye.c] 25))
  generalize w.alloc (.cells #[.slice so sn sc, .slice ye.o ye.n ye.c] 25) = W at HP HB ⊢
  have c0 : W.cell? ⟨w.heap.size, 0, none⟩ = some (.slice so sn sc) := HP.out.c0
  have c1 : W.cell? ⟨w.heap.size, 1, none⟩ = some (.slice ye.o ye.n ye.c) := HP.out.c1
  have HK : Hid (Calls Try.prog 16 #[.agg #[.slice so sn sc, .slice ye.o ye.n ye.c]] W fun e w' => e = .returned (.int .i64 (ckE h)) ∧ Below W.heap.size W w') := check_any ⟨⟨so, sn, sc⟩, ye⟩ h W hs he (HH.out.below HB.out)
  cases hk : okH h with
  | false =>
    rw [ck_180 hk] at HK
    have HR := hid (inv_180 (c := c) (now := now) hk)
    clear hk
    go_wp2_with (go_at_call 16; refine HK.out.mono ?_; rintro e w8 ⟨rfl, b8⟩)
    go_ret
    exact ⟨ret_int HR.out.symm, q_trans HB.out b8⟩
  | true =>
    rw [ck_0 hk] at HK
    have HO := hid hk
    clear hk
    go_upto_region 3 with (go_at_call 16; refine HK.out.mono ?_; rintro e w8 ⟨rfl, b8⟩)
    replace HP := hid (HP.out.below b8)
    replace HB := hid (q_trans HB.out b8)
    clear b8 c0 c1 HK
    have c0 : w8.cell? ⟨w.heap.size, 0, none⟩ = some (.slice so sn sc) := HP.out.c0
    have HEa : Hid (Calls Try.prog 46 #[.slice so sn sc] w8 fun e w' => e = .returned (.int .i64 (lo h.s h.s.length)) ∧ w' = w8) := earliest_any ⟨so, sn, sc⟩ h.s w8 hs (HH.out.s.below HB.out)
    cases hc : okC c with
    | false =>
      have HR : Hid (invE h c now = 2) := inv_2 HO.out (by simp [hc])
      go_wp2_with (go_at_call 41; refine (isCore_any _ _).mono ?_; rintro e w9 ⟨rfl, hw⟩; rw [hw, hc]; clear hw w9)
      go_ret
      exact ⟨ret_int HR.out.symm, HB.out⟩
    | true =>
      obtain ⟨L, hL⟩ : ∃ L, lo h.s h.s.length = L := ⟨_, rfl⟩
      rw [hL] at HEa
      by_cases hn : now < L
      · have HR : Hid (invE h c now = 2) := inv_2 HO.out (by rw [hL]; simp; intro _; omega)
        clear hL
        go_wp2_with (first | (go_at_call 41; refine (isCore_any _ _).mono ?_; rintro e w9 ⟨rfl, hw⟩; rw [hw, hc]; clear hw w9) | (go_at_call 46; refine HEa.out.mono ?_; rintro e w9 ⟨rfl, hw⟩; rw [hw]; clear hw w9))
        go_ret
        exact ⟨ret_int HR.out.symm, HB.out⟩
      · have HG : Hid ((okC c && decide (lo h.s h.s.length ≤ now)) = true) := by unfold Hid; rw [hL, hc]; simp; omega
        clear hL
        have HL := hid (last_any so sn sc h.s c w8 hs (HH.out.s.below HB.out))
        cases hl : lastO h.s c with
        | none =>
          rw [lastI_none hl] at HL
          have HR := hid (inv_0 HO.out HG.out hl)
          clear hl
          go_wp2_with (first | (go_at_call 41; refine (isCore_any _ _).mono ?_; rintro e w9 ⟨rfl, hw⟩; rw [hw, hc]; clear hw w9) | (go_at_call 46; refine HEa.out.mono ?_; rintro e w9 ⟨rfl, hw⟩; rw [hw]; clear hw w9) | (go_at_call 26; refine HL.out.mono ?_; rintro e w9 ⟨rfl, hw⟩; rw [hw]; clear hw w9))
          go_ret
          exact ⟨ret_int HR.out.symm, HB.out⟩
        | some i =>
          obtain ⟨hi, _, _⟩ := lst_some hl
          rw [lastI_some hl] at HL
          have HR := hid (inv_s HO.out HG.out hl)
          have i0 : (i : Int) ≥ 0 := by omega
          have i1 : (0 : Int) ≤ (i : Int) := by omega
          have i2 : (i : Int) < (sn : Int) := by have := HN.out; omega
          obtain ⟨a, ea, ca⟩ := atS_of (HH.out.s.below HB.out).row i hi
          obtain rfl : so = some a := ea
          obtain ⟨s, hs9⟩ : ∃ s, h.s.getD i s0 = s := ⟨_, rfl⟩
          replace HR : Hid (invE h c now = if ahB (h.s.getD i s0) ⟨0, Hi.c0, now, 0, r0⟩ then 0 else 8) := HR
          rw [hs9] at ca HR
          obtain ⟨d0, d1, d2, d3, d4, d5, d6, d7, d8, d9, d10, d11, d12, d13, d14⟩ := ca
          have HA : Hid (∀ V, Calls Try.prog 19 #[(.agg #[.int .i64 s.co, .int .i64 s.c.k, .int .u64 s.c.a, .int .u64 s.c.b, .int .i64 s.c.r, .int .i64 s.c.g, .int .i64 s.c.t, .int .i64 s.c.s, .int .i64 s.c.v, .int .i64 s.st, .int .i64 s.en, .int .i64 s.r.e, .int .i64 s.r.v, .int .i64 s.r.b, .bool s.r.t]), .agg #[.int .i64 0, .int .i64 0, .int .u64 0, .int .u64 0, .int .i64 0, .int .i64 0, .int .i64 0, .int .i64 0, .int .i64 0, .int .i64 now, .int .i64 0, .int .i64 0, .int .i64 0, .int .i64 0, .bool false]] V fun e w' => e = .returned (.bool (ahB s ⟨0, Hi.c0, now, 0, r0⟩)) ∧ Below V.heap.size V w') := fun V => ahead_any s ⟨0, Hi.c0, now, 0, r0⟩ V
          clear hl hs9
          cases ha : ahB s ⟨0, Hi.c0, now, 0, r0⟩ with
          | false =>
            rw [ha] at HA HR
            replace HR : Hid (invE h c now = 8) := HR
            go_wp2_with (first | (go_at_call 41; refine (isCore_any _ _).mono ?_; rintro e w9 ⟨rfl, hw⟩; rw [hw, hc]; clear hw w9) | (go_at_call 46; refine HEa.out.mono ?_; rintro e w9 ⟨rfl, hw⟩; rw [hw]; clear hw w9) | (go_at_call 26; refine HL.out.mono ?_; rintro e w9 ⟨rfl, hw⟩; rw [hw]; clear hw w9) | (go_at_call 19; refine (HA.out _).mono ?_; rintro e w9 ⟨rfl, b9⟩))
            go_ret
            exact ⟨ret_int HR.out.symm, q_trans HB.out b9⟩
          | true =>
            rw [ha] at HA HR
            replace HR : Hid (invE h c now = 0) := HR
            go_wp2_with (first | (go_at_call 41; refine (isCore_any _ _).mono ?_; rintro e w9 ⟨rfl, hw⟩; rw [hw, hc]; clear hw w9) | (go_at_call 46; refine HEa.out.mono ?_; rintro e w9 ⟨rfl, hw⟩; rw [hw]; clear hw w9) | (go_at_call 26; refine HL.out.mono ?_; rintro e w9 ⟨rfl, hw⟩; rw [hw]; clear hw w9) | (go_at_call 19; refine (HA.out _).mono ?_; rintro e w9 ⟨rfl, b9⟩))
            go_ret
            exact ⟨ret_int HR.out.symm, q_trans HB.out b9⟩
end Go.Proofs.Ytmnkbkhfonngeaa.Hi
