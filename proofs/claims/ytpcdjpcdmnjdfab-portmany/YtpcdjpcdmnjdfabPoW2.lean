/- What place, refused, slices.Clone, slices.Equal, Same do. -/
import Derived.Test.YtpcdjpcdmnjdfabPoW1
import Derived.Lib.SliceRun
import Derived.Deep.Cut
namespace Go.Proofs.Ytpcdjpcdmnjdfab.Po
open Go.RowKit

set_option maxHeartbeats 400000 in
theorem place1_any (b : Nat) (c : Int) (x : Wt) (w : World) (hc : w.cell? ⟨b, 0, none⟩ = some (.int .i64 c)) :
    Calls Try.prog 27 #[(.agg #[.int .i64 x.c, .int .i64 x.v, .int .i64 x.b, .bool x.h, .int .i64 x.o, .int .i64 x.s, .int .i64 x.g, .bool x.t]), .pointer (some ⟨b, 0, none⟩)] w fun e w' => e = .returned (.bool (x.c == c)) ∧ Below w.heap.size w w' := by
  have hl : b < w.heap.size := World.block_lt_of_cell? w _ hc
  go_enter Try.func27, Try.ntmps27
  go_wp2_with fail
  go_ret
  exact ⟨rfl, alloc_below _ _⟩
set_option maxRecDepth 100000 in
set_option maxHeartbeats 1000000 in
theorem indexf_any (ao : Option Addr) (n cap b : Nat) (l : List Wt) (c : Int) (w : World) (hs : n ≤ 5000) (HH : Hid (HasQ w ⟨ao, n, cap⟩ l)) (HC : Hid (w.cell? ⟨b, 0, none⟩ = some (.int .i64 c))) :
    Calls Try.prog 26 #[.slice ao n cap, .func (.func 27) #[] #[.pointer (some ⟨b, 0, none⟩)]] w fun e w' => e = .returned (.int .i64 (fI c l)) ∧ Below w.heap.size w w' := by
  have HN : Hid (n = l.length) := HH.out.len
  go_enter Try.func26, Try.ntmps26
  go_wp2_with fail
  go_loopw [8] (fun i wr => ∃ q : Nat, q ≤ n ∧ i = .int .i64 q ∧ Hid (∀ j, j < q → Cc l j ≠ c) ∧ Hid (Below w.heap.size w wr)) (fun i _ => n - (intOf i).toNat)
  case atStart => exact ⟨0, Nat.zero_le _, rfl, fun j hj => absurd hj (by omega), Below.refl _ _⟩
  case round =>
    obtain ⟨q, hq, rfl, HU, HB⟩ := hrel
    by_cases hlt : q < n
    · have i1 : (0 : Int) ≤ (q : Int) := by omega
      have i2 : (q : Int) < (n : Int) := by omega
      have HQ : Hid (q < l.length) := by have := HN.out; unfold Hid; omega
      obtain ⟨a, ea, ca⟩ := (HH.out.below HB.out).at q hlt
      obtain rfl : ao = some a := ea
      obtain ⟨x, hx⟩ : ∃ x, l.getD q z0 = x := ⟨_, rfl⟩
      have HX := hid hx
      rw [hx] at ca
      obtain ⟨c0, c1, c2, c3, c4, c5, c6, c7⟩ := ca
      clear hx
      have HK := hid (place1_any b c x wr ((HB.out.cell (World.block_lt_of_cell? w _ HC.out)).trans HC.out))
      cases he : (x.c == c) with
      | true =>
        have HR : Hid (fd c l = some q) := fd_some.2 ⟨HQ.out, by show (l.getD q z0).c = c; rw [HX.out]; simpa using he, HU.out⟩
        rw [he] at HK
        clear he
        go_wp2_with fail
        refine HK.out.mono ?_
        rintro e w1 ⟨rfl, b1⟩
        replace HB := hid (q_trans HB.out b1)
        clear b1
        go_wp2_with fail
        go_ret
        exact ⟨ret_int (fI_some HR.out).symm, HB.out⟩
      | false =>
        have HE : Hid (Cc l q ≠ c) := by show (l.getD q z0).c ≠ c; rw [HX.out]; simpa using he
        rw [he] at HK
        clear he
        go_wp2_with fail
        refine HK.out.mono ?_
        rintro e w1 ⟨rfl, b1⟩
        replace HB := hid (q_trans HB.out b1)
        clear b1
        go_wp2_with fail
        go_roundw
        case rel =>
          refine ⟨q + 1, by omega, by go_num, fun m hm => ?_, HB⟩
          rcases Nat.lt_or_ge m q with y | y
          · exact HU.out m y
          · obtain rfl : m = q := by omega
            exact HE.out
        case measure => simp [intOf]; omega
    · obtain rfl : q = n := by omega
      have HE : Hid (fd c l = none) := fd_none.2 fun j hj => HU.out j (by have := HN.out; omega)
      go_wp2_with fail
      go_ret
      exact ⟨ret_int (fI_none HE.out).symm, HB.out⟩
set_option maxHeartbeats 400000 in
theorem place_any (p : Pt) (y : Hd) (c : Int) (w : World) (hs : y.n ≤ 5000) (HH : Hid (HasQ w y p.l)) :
    Calls Try.prog 20 #[(.agg #[.int .i64 p.k, .int .i64 p.w, .slice y.o y.n y.c]), .int .i64 c] w fun e w' => e = .returned (.int .i64 (fI c p.l)) ∧ Below w.heap.size w w' := by
  go_enter Try.func20, Try.ntmps20
  go_wp2_with fail
  have HB := hid (q_alloc (alloc_below w (.cells #[.int .i64 p.k, .int .i64 p.w, .slice y.o y.n y.c] 25)) (.cells #[.int .i64 c] 3))
  have HC : Hid (((w.alloc (.cells #[.int .i64 p.k, .int .i64 p.w, .slice y.o y.n y.c] 25)).alloc (.cells #[.int .i64 c] 3)).cell? ⟨w.heap.size + 1, 0, none⟩ = some (.int .i64 c)) := by unfold Hid; simp
  generalize (w.alloc (.cells #[.int .i64 p.k, .int .i64 p.w, .slice y.o y.n y.c] 25)).alloc (.cells #[.int .i64 c] 3) = W at HB HC ⊢
  refine (indexf_any y.o y.n y.c (w.heap.size + 1) p.l c W hs (HH.out.below HB.out) HC.out).mono ?_
  rintro e w1 ⟨rfl, b1⟩
  replace HB := hid (q_trans HB.out b1)
  clear b1
  go_wp2_with fail
  go_ret
  exact ⟨rfl, HB.out⟩
theorem rf_no {p : Pt} {c : Int} (h : okP p = false) : rfE p c = 2 := by simp [rfE, h]
theorem rf_core {p : Pt} {c : Int} (h : okC c = false) : rfE p c = 2 := by simp [rfE, h]
theorem rf_there {p : Pt} {c : Int} {i : Nat} (h1 : okP p = true) (h2 : okC c = true) (h : fd c p.l = some i) : rfE p c = 8 := by simp [rfE, h1, h2, h]
theorem rf_ok {p : Pt} {c : Int} (h1 : okP p = true) (h2 : okC c = true) (h : fd c p.l = none) : rfE p c = 0 := by simp [rfE, h1, h2, h]
set_option maxHeartbeats 1000000 in
theorem refused_any (p : Pt) (y : Hd) (c : Int) (w : World) (hs : y.n ≤ 5000) (HH : Hid (HasQ w y p.l)) :
    Calls Try.prog 18 #[(.agg #[.int .i64 p.k, .int .i64 p.w, .slice y.o y.n y.c]), .int .i64 c] w fun e w' => e = .returned (.int .i64 (rfE p c)) ∧ Below w.heap.size w w' := by
  go_enter Try.func18, Try.ntmps18
  go_wp2_with fail
  have HP := hid (pb_new w p y)
  have HB := hid (alloc_below w (.cells #[.int .i64 p.k, .int .i64 p.w, .slice y.o y.n y.c] 25))
  generalize w.alloc (.cells #[.int .i64 p.k, .int .i64 p.w, .slice y.o y.n y.c] 25) = W at HP HB ⊢
  refine (pcheck_any p y W hs (HH.out.below HB.out)).mono ?_
  rintro e w1 ⟨rfl, b1⟩
  replace HP := hid (HP.out.below b1)
  replace HB := hid (q_trans HB.out b1)
  clear b1
  have c0 := HP.out.c0
  have c1 := HP.out.c1
  have c2 := HP.out.c2
  cases h1 : okP p with
  | false =>
    rw [ck_no h1]
    have HR : Hid (rfE p c = 2) := rf_no h1
    clear h1
    go_wp2_with fail
    go_ret
    exact ⟨ret_int HR.out.symm, HB.out⟩
  | true =>
    rw [ck_yes h1]
    have H1 := hid h1
    clear h1
    cases h2 : okC c with
    | false =>
      have HR : Hid (rfE p c = 2) := rf_core h2
      go_wp2_with (go_at_call 25; refine (isCore_any _ _).mono ?_; rintro e w8 ⟨rfl, hw⟩; rw [hw, h2]; clear hw w8)
      go_ret
      exact ⟨ret_int HR.out.symm, HB.out⟩
    | true =>
      have HK := hid (place_any p y c w1 hs (HH.out.below HB.out))
      cases h3 : fd c p.l with
      | some i =>
        have HR : Hid (rfE p c = 8) := rf_there H1.out h2 h3
        rw [fI_some h3] at HK
        have i1 : (i : Int) ≥ 0 := by omega
        clear h3
        go_wp2_with (first | (go_at_call 25; refine (isCore_any _ _).mono ?_; rintro e w8 ⟨rfl, hw⟩; rw [hw, h2]; clear hw w8) | (go_at_call 20; refine HK.out.mono ?_; rintro e w9 ⟨rfl, b9⟩))
        go_ret
        exact ⟨ret_int HR.out.symm, q_trans HB.out b9⟩
      | none =>
        have HR : Hid (rfE p c = 0) := rf_ok H1.out h2 h3
        rw [fI_none h3] at HK
        clear h3
        go_wp2_with (first | (go_at_call 25; refine (isCore_any _ _).mono ?_; rintro e w8 ⟨rfl, hw⟩; rw [hw, h2]; clear hw w8) | (go_at_call 20; refine HK.out.mono ?_; rintro e w9 ⟨rfl, b9⟩))
        go_ret
        exact ⟨ret_int HR.out.symm, q_trans HB.out b9⟩

/-! ### Clone, Equal, Same -/
theorem eqNW (w : World) (a : Option Addr) (n c n' c' : Nat) : (binOp .eql 23 (.slice a n c) (.slice none n' c')).run Try.prog w = .ok (.bool a.isNone) w := Lib.run_eql_slice_nil w _ _ a n c n' c' Try.underlying23
set_option maxHeartbeats 400000 in
theorem clone_nil (w : World) :
    Calls Try.prog 23 #[.slice none 0 0] w fun e w' => e = .returned (.slice none 0 0) ∧ w' = w := by
  have q := eqNW
  go_enter Try.func23, Try.ntmps23
  go_wp2
  go_ret
  exact ⟨rfl, rfl⟩
set_option maxHeartbeats 400000 in
theorem clone_some (a : Addr) (n cap : Nat) (cs : List Value) (w : World) (hn : Hid (cs.length = n * 8)) (hs : Hid (n ≤ 5000)) (hr : Hid (Row w (some a) cs)) (h1 : Hid (∀ u ∈ cs, u.oneCell' = true)) :
    Calls Try.prog 23 #[.slice (some a) n cap] w fun e w' => ∃ ao' cap', e = .returned (.slice ao' n cap') ∧ w'.ownsRow w.heap.size 30 8 (.slice ao' n cap') n cs ∧ Below w.heap.size w w' := by
  have q := eqNW
  go_enter Try.func23, Try.ntmps23
  go_wp2_with (at_builtin; refine wpList_append_row _ rfl (.tmp 5) (.tmp 6) 23 30 _ 8 64 rfl Try.underlying23 infoW rfl (by decide) (by decide) w.heap.size _ 0 [] rfl (own0 w 30 8) (some a) n cap cs rfl hn.out (fun h => by cases h) (hr.out.below (alloc_below w _)) h1.out (by have := hs.out; omega) (alloc_below w _).size ?_; intro ao1 cap1 w1 hown1 hgrow1; have b1 := app_below hgrow1; rw [Nat.zero_add, List.nil_append] at hown1; rw [Nat.zero_add]; have HO : Hid (w1.ownsRow w.heap.size 30 8 (.slice ao1 n cap1) n cs) := hown1; clear hown1 hgrow1)
  go_ret
  exact ⟨ao1, cap1, rfl, HO.out, b1⟩
/-- slices.Clone OF WAITERS. -/
theorem clone_any (y : Hd) (l : List Wt) (w : World) (hs : y.n ≤ 5000) (h : HasQ w y l) :
    Calls Try.prog 23 #[.slice y.o y.n y.c] w fun e w' => ∃ ao cap, e = .returned (.slice ao y.n cap) ∧ MineQ w' w.heap.size ⟨ao, y.n, cap⟩ l ∧ Below w.heap.size w w' := by
  obtain ⟨ao, n, cap⟩ := y
  have hlen : n = l.length := h.len
  cases ao with
  | none =>
    have h0 := row_none h.row
    have hl := len_wts l
    rw [h0] at hl
    have hn0 : n = 0 := by rw [hlen]; simp at hl; omega
    have hc : cap = 0 := h.nil rfl
    subst hn0 hc
    refine (clone_nil w).mono ?_
    rintro e w' ⟨rfl, rfl⟩
    exact ⟨none, 0, rfl, ⟨h.len, by rw [h0]; exact World.ownsRow_nil _ _ _ _⟩, Below.refl _ _⟩
  | some a =>
    refine (clone_some a n cap (wts l) w (by rw [len_wts, hlen]; exact rfl) hs h.row (wts_one l)).mono ?_
    rintro e w' ⟨ao', cap', rfl, ho, hb⟩
    exact ⟨ao', cap', rfl, ⟨h.len, ho⟩, hb⟩
theorem drewN_add (w : World) (a b : Nat) : (w.drewN a).drewN b = w.drewN (a + b) := by simp [World.drewN, Nat.add_assoc]
theorem drewN_below (w : World) (n : Nat) : Below w.heap.size w (w.drewN n) := q_drewN (Below.refl _ w) n
theorem take_snoc (l : List Wt) (k : Nat) (h : k < l.length) : l.take (k + 1) = l.take k ++ [l.getD k z0] := by
  rw [List.take_add_one]
  simp [List.getD, h]
theorem take_full {la lb : List Wt} (h : la.length = lb.length) (e : la.take la.length = lb.take la.length) : la = lb := by
  rw [List.take_length, h, List.take_length] at e
  exact e
set_option maxRecDepth 100000 in
set_option maxHeartbeats 1000000 in
theorem equal_len (ao bo : Option Addr) (n m cap cap' : Nat) (w : World) (h : ((n : Int) != (m : Int)) = true) :
    Calls Try.prog 15 #[.slice ao n cap, .slice bo m cap'] w fun e w' => e = .returned (.bool false) ∧ w' = w := by
  go_enter Try.func15, Try.ntmps15
  go_wp2
  go_ret
  exact ⟨rfl, rfl⟩
set_option maxRecDepth 100000 in
set_option maxHeartbeats 1000000 in
theorem equal_eq (ao bo : Option Addr) (n cap cap' : Nat) (la lb : List Wt) (w : World) (hs : n ≤ 9223372036854775806) (HA : Hid (n = la.length)) (HB : Hid (n = lb.length)) (RA : Hid (Row w ao (wts la))) (RB : Hid (Row w bo (wts lb))) :
    Calls Try.prog 15 #[.slice ao n cap, .slice bo n cap'] w fun e w' => e = .returned (.bool (eqL la lb)) ∧ ∃ nd, w' = w.drewN nd := by
  go_enter Try.func15, Try.ntmps15
  go_wp2
  go_loopw [13] (fun i wr => ∃ k : Nat, k ≤ n ∧ i = .int .i64 k ∧ Hid (la.take k = lb.take k) ∧ ∃ nd, wr = w.drewN nd) (fun i _ => n - (intOf i).toNat)
  case atStart => exact ⟨0, Nat.zero_le _, rfl, by simp [Hid], 0, rfl⟩
  case round =>
    obtain ⟨k, hk, rfl, HT, nd, rfl⟩ := hrel
    by_cases hlt : k < n
    · have i1 : (0 : Int) ≤ (k : Int) := by omega
      have i2 : (k : Int) < (n : Int) := by omega
      obtain ⟨a, rfl, ca⟩ := atW_of RA.out k (by have := HA.out; omega)
      obtain ⟨b, rfl, cb⟩ := atW_of RB.out k (by have := HB.out; omega)
      obtain ⟨x, hx⟩ : ∃ x, la.getD k z0 = x := ⟨_, rfl⟩
      obtain ⟨y, hy⟩ : ∃ y, lb.getD k z0 = y := ⟨_, rfl⟩
      rw [hx] at ca
      rw [hy] at cb
      have HX := hid hx
      have HY := hid hy
      clear hx hy
      obtain ⟨c0, c1, c2, c3, c4, c5, c6, c7⟩ := ca
      obtain ⟨d0, d1, d2, d3, d4, d5, d6, d7⟩ := cb
      by_cases hxy : x = y
      · have he := eqw_yes hxy
        have HXY := hid hxy
        clear hxy
        go_wp2
        go_quiet (fail)
        go_wp2
        go_roundw
        case rel => exact ⟨k + 1, by omega, by go_num, by rw [take_snoc la k (by have := HA.out; omega), take_snoc lb k (by have := HB.out; omega), HT.out, HX.out, HY.out, HXY.out]; exact rfl, _, rfl⟩
        case measure => simp [intOf]; omega
      · have he := eqw_no hxy
        have HXY := hid hxy
        clear hxy
        go_wp2
        go_quiet (fail)
        go_wp2
        go_ret
        exact ⟨ret_bool (eqL_not.2 (fun e => HXY.out (by rw [← HX.out, ← HY.out, e]))).symm, _, drewN_add _ _ _⟩
    · obtain rfl : k = n := by omega
      go_wp2
      go_ret
      exact ⟨ret_bool (eqL_iff.2 (take_full (HA.out.symm.trans HB.out) (by rw [← HA.out]; exact HT.out))).symm, _, rfl⟩
theorem equal_any (y z : Hd) (la lb : List Wt) (w : World) (hs : y.n ≤ 9223372036854775806) (hA : HasQ w y la) (hB : HasQ w z lb) :
    Calls Try.prog 15 #[.slice y.o y.n y.c, .slice z.o z.n z.c] w fun e w' => e = .returned (.bool (eqL la lb)) ∧ Below w.heap.size w w' := by
  by_cases h : y.n = z.n
  · have hB' := hB.len
    rw [← h] at hB' ⊢
    refine (equal_eq y.o z.o y.n y.c z.c la lb w hs hA.len hB' hA.row hB.row).mono ?_
    rintro e w' ⟨rfl, nd, rfl⟩
    exact ⟨rfl, drewN_below _ _⟩
  · rw [(eqL_not (l := la) (m := lb)).2 (fun e => h (by rw [hA.len, hB.len, e]))]
    refine (equal_len y.o z.o y.n z.n y.c z.c w (by simp; omega)).mono ?_
    rintro e w' ⟨rfl, rfl⟩
    exact ⟨rfl, Below.refl _ _⟩
/-- Two ports' boxes. -/
theorem two_ports (w : World) (p q : Pt) (y z : Hd) : Pb ((w.alloc (.cells #[.int .i64 p.k, .int .i64 p.w, .slice y.o y.n y.c] 25)).alloc (.cells #[.int .i64 q.k, .int .i64 q.w, .slice z.o z.n z.c] 25)) w.heap.size p y ∧ Pb ((w.alloc (.cells #[.int .i64 p.k, .int .i64 p.w, .slice y.o y.n y.c] 25)).alloc (.cells #[.int .i64 q.k, .int .i64 q.w, .slice z.o z.n z.c] 25)) (w.heap.size + 1) q z ∧ Below w.heap.size w ((w.alloc (.cells #[.int .i64 p.k, .int .i64 p.w, .slice y.o y.n y.c] 25)).alloc (.cells #[.int .i64 q.k, .int .i64 q.w, .slice z.o z.n z.c] 25)) := by
  refine ⟨(pb_new w p y).below (alloc_below _ _), ?_, q_alloc (alloc_below _ _) _⟩
  have h := pb_new (w.alloc (.cells #[.int .i64 p.k, .int .i64 p.w, .slice y.o y.n y.c] 25)) q z
  rwa [show (w.alloc (.cells #[.int .i64 p.k, .int .i64 p.w, .slice y.o y.n y.c] 25)).heap.size = w.heap.size + 1 by simp] at h
set_option maxHeartbeats 1000000 in
/-- Same: WHETHER TWO PORTS ARE THE SAME. -/
theorem psame_any (p q : Pt) (y z : Hd) (w : World) (hs : y.n ≤ 5000) (HY : Hid (HasQ w y p.l)) (HZ : Hid (HasQ w z q.l)) :
    Calls Try.prog 9 #[(.agg #[.int .i64 p.k, .int .i64 p.w, .slice y.o y.n y.c]), (.agg #[.int .i64 q.k, .int .i64 q.w, .slice z.o z.n z.c])] w fun e w' => e = .returned (.bool (eqP p q)) ∧ Below w.heap.size w w' := by
  go_enter Try.func9, Try.ntmps9
  go_upto_region 1 with fail
  have HT := hid (two_ports w p q y z)
  generalize (w.alloc (.cells #[.int .i64 p.k, .int .i64 p.w, .slice y.o y.n y.c] 25)).alloc (.cells #[.int .i64 q.k, .int .i64 q.w, .slice z.o z.n z.c] 25) = W at HT ⊢
  have HB := hid HT.out.2.2
  have c0 := HT.out.1.c0
  have c1 := HT.out.1.c1
  have c2 := HT.out.1.c2
  have d0 := HT.out.2.1.c0
  have d1 := HT.out.2.1.c1
  have d2 := HT.out.2.1.c2
  have HK := hid (equal_any y z p.l q.l W (by omega) (HY.out.below HB.out) (HZ.out.below HB.out))
  clear HT
  cases h1 : (p.k == q.k) with
  | false =>
    have HR : Hid (eqP p q = false) := by simp [Hid, eqP, h1]
    go_wp2_with fail
    go_ret
    exact ⟨ret_bool HR.out.symm, HB.out⟩
  | true =>
    cases h2 : (p.w == q.w) with
    | false =>
      have HR : Hid (eqP p q = false) := by simp [Hid, eqP, h2]
      go_wp2_with fail
      go_ret
      exact ⟨ret_bool HR.out.symm, HB.out⟩
    | true =>
      have HR : Hid (eqP p q = eqL p.l q.l) := by simp [Hid, eqP, h1, h2]
      go_wp2_with fail
      refine HK.out.mono ?_
      rintro e w1 ⟨rfl, b1⟩
      replace HB := hid (q_trans HB.out b1)
      clear b1
      go_wp2_with fail
      go_ret
      exact ⟨ret_bool HR.out.symm, HB.out⟩
end Go.Proofs.Ytpcdjpcdmnjdfab.Po
