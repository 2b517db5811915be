/- What slices.Clone, slices.Equal do (genw418.py). -/
import Derived.Test.YtmnkbkhfonngeaaHiW3
namespace Go.Proofs.Ytmnkbkhfonngeaa.Hi
open Go.RowKit

theorem drewN_add (w : World) (a b : Nat) : (w.drewN a).drewN b = w.drewN (a + b) := by simp [World.drewN, Nat.add_assoc]
theorem drewN_below (w : World) (n : Nat) : Below w.heap.size w (w.drewN n) := q_drewN (Below.refl _ w) n
theorem take_snoc {α : Type} (l : List α) (z : α) (k : Nat) (h : k < l.length) : l.take (k + 1) = l.take k ++ [l.getD k z] := by
  rw [List.take_add_one]
  simp [List.getD, h]
theorem take_full {α : Type} {la lb : List α} (h : la.length = lb.length) (e : la.take la.length = lb.take la.length) : la = lb := by
  rw [List.take_length, h, List.take_length] at e
  exact e
theorem row_nil0 {α : Type} {E : α → List Value} {m : Nat} (hm : 0 < m) (hE : ∀ a, (E a).length = m) {w : World} {l : List α} (h : Row w none (l.flatMap E)) : l = [] := by
  have h0 := row_none h
  have hl := fm_len E m hE l
  rw [h0] at hl
  cases l with
  | nil => rfl
  | cons a r => simp only [List.length_cons, List.length_nil] at hl; have := Nat.le_mul_of_pos_right (r.length + 1) hm; omega

/-! ### sp -/
set_option maxHeartbeats 400000 in
theorem clone_sp_nil (w : World) :
    Calls Try.prog 44 #[.slice none 0 0] w fun e w' => e = .returned (.slice none 0 0) ∧ w' = w := by
  have q : ∀ (w : World) (a : Option Addr) (n c n' c' : Nat), (binOp .eql 22 (.slice a n c) (.slice none n' c')).run Try.prog w = .ok (.bool a.isNone) w := fun w a n c n' c' => Lib.run_eql_slice_nil w _ _ a n c n' c' Try.underlying22
  go_enter Try.func44, Try.ntmps44
  go_wp2
  go_ret
  exact ⟨rfl, rfl⟩
set_option maxHeartbeats 400000 in
theorem clone_sp_some (a : Addr) (n cap : Nat) (cs : List Value) (w : World) (hn : Hid (cs.length = n * 15)) (hs : Hid (n ≤ 5000)) (hr : Hid (Row w (some a) cs)) (h1 : Hid (∀ u ∈ cs, u.oneCell' = true)) :
    Calls Try.prog 44 #[.slice (some a) n cap] w fun e w' => ∃ ao' cap', e = .returned (.slice ao' n cap') ∧ w'.ownsRow w.heap.size 50 15 (.slice ao' n cap') n cs ∧ Below w.heap.size w w' := by
  have q : ∀ (w : World) (a : Option Addr) (n c n' c' : Nat), (binOp .eql 22 (.slice a n c) (.slice none n' c')).run Try.prog w = .ok (.bool a.isNone) w := fun w a n c n' c' => Lib.run_eql_slice_nil w _ _ a n c n' c' Try.underlying22
  go_enter Try.func44, Try.ntmps44
  go_wp2_with (at_builtin; refine wpList_append_row _ rfl (.tmp 5) (.tmp 6) 22 50 _ 15 120 rfl Try.underlying22 infoS rfl (by decide) (by decide) w.heap.size _ 0 [] rfl (own0 w 50 15) (some a) n cap cs rfl hn.out (fun h => by cases h) (hr.out.below (alloc_below w _)) h1.out (by have := hs.out; omega) (alloc_below w _).size ?_; intro ao1 cap1 w1 hown1 hgrow1; have b1 := app_below hgrow1; rw [Nat.zero_add, List.nil_append] at hown1; rw [Nat.zero_add]; have HO : Hid (w1.ownsRow w.heap.size 50 15 (.slice ao1 n cap1) n cs) := hown1; clear hown1 hgrow1)
  go_ret
  exact ⟨ao1, cap1, rfl, HO.out, b1⟩
theorem clone_sp (y : Hd) (l : List Sp) (w : World) (hs : y.n ≤ 5000) (h : HasL spC w y l) :
    Calls Try.prog 44 #[.slice y.o y.n y.c] w fun e w' => ∃ z : Hd, e = .returned (.slice z.o z.n z.c) ∧ z.n = y.n ∧ MineL spC 50 15 w' w.heap.size z l ∧ Below w.heap.size w w' := by
  obtain ⟨ao, n, cap⟩ := y
  have hlen : n = l.length := h.len
  cases ao with
  | none =>
    have h0 := row_nil0 (by decide) spC_len h.row
    subst h0
    have hc : cap = 0 := h.nil rfl
    subst hlen hc
    refine (clone_sp_nil w).mono ?_
    rintro e w' ⟨rfl, rfl⟩
    exact ⟨nilH, rfl, rfl, mineL_nil _ _ _ _ _, Below.refl _ _⟩
  | some a =>
    refine (clone_sp_some a n cap (l.flatMap spC) w (by rw [fm_len spC 15 spC_len, hlen]; exact rfl) hs h.row (spC_one l)).mono ?_
    rintro e w' ⟨ao', cap', rfl, ho, hb⟩
    exact ⟨⟨ao', n, cap'⟩, rfl, rfl, ⟨h.len, ho⟩, hb⟩

/-! ### ev -/
set_option maxHeartbeats 400000 in
theorem clone_ev_nil (w : World) :
    Calls Try.prog 45 #[.slice none 0 0] w fun e w' => e = .returned (.slice none 0 0) ∧ w' = w := by
  have q : ∀ (w : World) (a : Option Addr) (n c n' c' : Nat), (binOp .eql 23 (.slice a n c) (.slice none n' c')).run Try.prog w = .ok (.bool a.isNone) w := fun w a n c n' c' => Lib.run_eql_slice_nil w _ _ a n c n' c' Try.underlying23
  go_enter Try.func45, Try.ntmps45
  go_wp2
  go_ret
  exact ⟨rfl, rfl⟩
set_option maxHeartbeats 400000 in
theorem clone_ev_some (a : Addr) (n cap : Nat) (cs : List Value) (w : World) (hn : Hid (cs.length = n * 12)) (hs : Hid (n ≤ 5000)) (hr : Hid (Row w (some a) cs)) (h1 : Hid (∀ u ∈ cs, u.oneCell' = true)) :
    Calls Try.prog 45 #[.slice (some a) n cap] w fun e w' => ∃ ao' cap', e = .returned (.slice ao' n cap') ∧ w'.ownsRow w.heap.size 34 12 (.slice ao' n cap') n cs ∧ Below w.heap.size w w' := by
  have q : ∀ (w : World) (a : Option Addr) (n c n' c' : Nat), (binOp .eql 23 (.slice a n c) (.slice none n' c')).run Try.prog w = .ok (.bool a.isNone) w := fun w a n c n' c' => Lib.run_eql_slice_nil w _ _ a n c n' c' Try.underlying23
  go_enter Try.func45, Try.ntmps45
  go_wp2_with (at_builtin; refine wpList_append_row _ rfl (.tmp 5) (.tmp 6) 23 34 _ 12 112 rfl Try.underlying23 infoE rfl (by decide) (by decide) w.heap.size _ 0 [] rfl (own0 w 34 12) (some a) n cap cs rfl hn.out (fun h => by cases h) (hr.out.below (alloc_below w _)) h1.out (by have := hs.out; omega) (alloc_below w _).size ?_; intro ao1 cap1 w1 hown1 hgrow1; have b1 := app_below hgrow1; rw [Nat.zero_add, List.nil_append] at hown1; rw [Nat.zero_add]; have HO : Hid (w1.ownsRow w.heap.size 34 12 (.slice ao1 n cap1) n cs) := hown1; clear hown1 hgrow1)
  go_ret
  exact ⟨ao1, cap1, rfl, HO.out, b1⟩
theorem clone_ev (y : Hd) (l : List (Ev × Hd)) (w : World) (hs : y.n ≤ 5000) (h : HasL evC w y l) :
    Calls Try.prog 45 #[.slice y.o y.n y.c] w fun e w' => ∃ z : Hd, e = .returned (.slice z.o z.n z.c) ∧ z.n = y.n ∧ MineL evC 34 12 w' w.heap.size z l ∧ Below w.heap.size w w' := by
  obtain ⟨ao, n, cap⟩ := y
  have hlen : n = l.length := h.len
  cases ao with
  | none =>
    have h0 := row_nil0 (by decide) evC_len h.row
    subst h0
    have hc : cap = 0 := h.nil rfl
    subst hlen hc
    refine (clone_ev_nil w).mono ?_
    rintro e w' ⟨rfl, rfl⟩
    exact ⟨nilH, rfl, rfl, mineL_nil _ _ _ _ _, Below.refl _ _⟩
  | some a =>
    refine (clone_ev_some a n cap (l.flatMap evC) w (by rw [fm_len evC 12 evC_len, hlen]; exact rfl) hs h.row (evC_one l)).mono ?_
    rintro e w' ⟨ao', cap', rfl, ho, hb⟩
    exact ⟨⟨ao', n, cap'⟩, rfl, rfl, ⟨h.len, ho⟩, hb⟩

/-! ### dn -/
set_option maxHeartbeats 400000 in
theorem clone_dn_nil (w : World) :
    Calls Try.prog 40 #[.slice none 0 0] w fun e w' => e = .returned (.slice none 0 0) ∧ w' = w := by
  have q : ∀ (w : World) (a : Option Addr) (n c n' c' : Nat), (binOp .eql 32 (.slice a n c) (.slice none n' c')).run Try.prog w = .ok (.bool a.isNone) w := fun w a n c n' c' => Lib.run_eql_slice_nil w _ _ a n c n' c' Try.underlying32
  go_enter Try.func40, Try.ntmps40
  go_wp2
  go_ret
  exact ⟨rfl, rfl⟩
set_option maxHeartbeats 400000 in
theorem clone_dn_some (a : Addr) (n cap : Nat) (cs : List Value) (w : World) (hn : Hid (cs.length = n * 5)) (hs : Hid (n ≤ 5000)) (hr : Hid (Row w (some a) cs)) (h1 : Hid (∀ u ∈ cs, u.oneCell' = true)) :
    Calls Try.prog 40 #[.slice (some a) n cap] w fun e w' => ∃ ao' cap', e = .returned (.slice ao' n cap') ∧ w'.ownsRow w.heap.size 78 5 (.slice ao' n cap') n cs ∧ Below w.heap.size w w' := by
  have q : ∀ (w : World) (a : Option Addr) (n c n' c' : Nat), (binOp .eql 32 (.slice a n c) (.slice none n' c')).run Try.prog w = .ok (.bool a.isNone) w := fun w a n c n' c' => Lib.run_eql_slice_nil w _ _ a n c n' c' Try.underlying32
  go_enter Try.func40, Try.ntmps40
  go_wp2_with (at_builtin; refine wpList_append_row _ rfl (.tmp 5) (.tmp 6) 32 78 _ 5 40 rfl Try.underlying32 infoD rfl (by decide) (by decide) w.heap.size _ 0 [] rfl (own0 w 78 5) (some a) n cap cs rfl hn.out (fun h => by cases h) (hr.out.below (alloc_below w _)) h1.out (by have := hs.out; omega) (alloc_below w _).size ?_; intro ao1 cap1 w1 hown1 hgrow1; have b1 := app_below hgrow1; rw [Nat.zero_add, List.nil_append] at hown1; rw [Nat.zero_add]; have HO : Hid (w1.ownsRow w.heap.size 78 5 (.slice ao1 n cap1) n cs) := hown1; clear hown1 hgrow1)
  go_ret
  exact ⟨ao1, cap1, rfl, HO.out, b1⟩
theorem clone_dn (y : Hd) (l : List Dn) (w : World) (hs : y.n ≤ 5000) (h : HasL dnC w y l) :
    Calls Try.prog 40 #[.slice y.o y.n y.c] w fun e w' => ∃ z : Hd, e = .returned (.slice z.o z.n z.c) ∧ z.n = y.n ∧ MineL dnC 78 5 w' w.heap.size z l ∧ Below w.heap.size w w' := by
  obtain ⟨ao, n, cap⟩ := y
  have hlen : n = l.length := h.len
  cases ao with
  | none =>
    have h0 := row_nil0 (by decide) dnC_len h.row
    subst h0
    have hc : cap = 0 := h.nil rfl
    subst hlen hc
    refine (clone_dn_nil w).mono ?_
    rintro e w' ⟨rfl, rfl⟩
    exact ⟨nilH, rfl, rfl, mineL_nil _ _ _ _ _, Below.refl _ _⟩
  | some a =>
    refine (clone_dn_some a n cap (l.flatMap dnC) w (by rw [fm_len dnC 5 dnC_len, hlen]; exact rfl) hs h.row (dnC_one l)).mono ?_
    rintro e w' ⟨ao', cap', rfl, ho, hb⟩
    exact ⟨⟨ao', n, cap'⟩, rfl, rfl, ⟨h.len, ho⟩, hb⟩

set_option maxRecDepth 100000 in
set_option maxHeartbeats 1000000 in
theorem equal_sp_len (ao bo : Option Addr) (n m cap cap' : Nat) (w : World) (h : ((n : Int) != (m : Int)) = true) :
    Calls Try.prog 33 #[.slice ao n cap, .slice bo m cap'] w fun e w' => e = .returned (.bool false) ∧ w' = w := by
  go_enter Try.func33, Try.ntmps33
  go_wp2
  go_ret
  exact ⟨rfl, rfl⟩
set_option maxRecDepth 100000 in
set_option maxHeartbeats 1000000 in
theorem equal_sp_eq (ao bo : Option Addr) (n cap cap' : Nat) (la lb : List Sp) (w : World) (hs : n ≤ 9223372036854775806) (HA : Hid (n = la.length)) (HB : Hid (n = lb.length)) (RA : Hid (Row w ao (la.flatMap spC))) (RB : Hid (Row w bo (lb.flatMap spC))) :
    Calls Try.prog 33 #[.slice ao n cap, .slice bo n cap'] w fun e w' => e = .returned (.bool (eqSs la lb)) ∧ ∃ nd, w' = w.drewN nd := by
  go_enter Try.func33, Try.ntmps33
  go_wp2
  go_loopw [13] (fun i wr => ∃ k : Nat, k ≤ n ∧ i = .int .i64 k ∧ Hid (la.take k = lb.take k) ∧ ∃ nd, wr = w.drewN nd) (fun i _ => n - (intOf i).toNat)
  case atStart => exact ⟨0, Nat.zero_le _, rfl, by simp [Hid], 0, rfl⟩
  case round =>
    obtain ⟨k, hk, rfl, HT, nd, rfl⟩ := hrel
    by_cases hlt : k < n
    · have i1 : (0 : Int) ≤ (k : Int) := by omega
      have i2 : (k : Int) < (n : Int) := by omega
      obtain ⟨a, rfl, ca⟩ := atS_of RA.out k (by have := HA.out; omega)
      obtain ⟨b, rfl, cb⟩ := atS_of RB.out k (by have := HB.out; omega)
      obtain ⟨x, hx⟩ : ∃ x, la.getD k s0 = x := ⟨_, rfl⟩
      obtain ⟨y, hy⟩ : ∃ y, lb.getD k s0 = y := ⟨_, rfl⟩
      rw [hx] at ca
      rw [hy] at cb
      have HX := hid hx
      have HY := hid hy
      clear hx hy
      obtain ⟨c0, c1, c2, c3, c4, c5, c6, c7, c8, c9, c10, c11, c12, c13, c14⟩ := ca
      obtain ⟨g0, g1, g2, g3, g4, g5, g6, g7, g8, g9, g10, g11, g12, g13, g14⟩ := cb
      have he : ∀ W, (Op.equalIn 10000 50 (.agg #[.int .i64 x.co, .int .i64 x.c.k, .int .u64 x.c.a, .int .u64 x.c.b, .int .i64 x.c.r, .int .i64 x.c.g, .int .i64 x.c.t, .int .i64 x.c.s, .int .i64 x.c.v, .int .i64 x.st, .int .i64 x.en, .int .i64 x.r.e, .int .i64 x.r.v, .int .i64 x.r.b, .bool x.r.t]) (.agg #[.int .i64 y.co, .int .i64 y.c.k, .int .u64 y.c.a, .int .u64 y.c.b, .int .i64 y.c.r, .int .i64 y.c.g, .int .i64 y.c.t, .int .i64 y.c.s, .int .i64 y.c.v, .int .i64 y.st, .int .i64 y.en, .int .i64 y.r.e, .int .i64 y.r.v, .int .i64 y.r.b, .bool y.r.t])).run Try.prog W = .ok (eqS x y) W := fun W => eqs_run 9997 x y W
      by_cases hxy : x = y
      · rw [eqS_iff.2 hxy] at he
        have HXY := hid hxy
        clear hxy
        go_wp2
        go_quiet (fail)
        go_wp2
        go_roundw
        case rel => exact ⟨k + 1, by omega, by go_num, by rw [take_snoc la s0 k (by have := HA.out; omega), take_snoc lb s0 k (by have := HB.out; omega), HT.out, HX.out, HY.out, HXY.out]; exact rfl, _, rfl⟩
        case measure => simp [intOf]; omega
      · rw [eqS_not.2 hxy] at he
        have HXY := hid hxy
        clear hxy
        go_wp2
        go_quiet (fail)
        go_wp2
        go_ret
        exact ⟨ret_bool (eqSs_not.2 (fun e => HXY.out (by rw [← HX.out, ← HY.out, e]))).symm, _, drewN_add _ _ _⟩
    · obtain rfl : k = n := by omega
      go_wp2
      go_ret
      exact ⟨ret_bool (eqSs_iff.2 (take_full (HA.out.symm.trans HB.out) (by rw [← HA.out]; exact HT.out))).symm, _, rfl⟩
theorem equal_sp (y z : Hd) (la lb : List Sp) (w : World) (hs : y.n ≤ 9223372036854775806) (hA : HasL spC w y la) (hB : HasL spC w z lb) :
    Calls Try.prog 33 #[.slice y.o y.n y.c, .slice z.o z.n z.c] w fun e w' => e = .returned (.bool (eqSs la lb)) ∧ Below w.heap.size w w' := by
  by_cases h : y.n = z.n
  · have hB' := hB.len
    rw [← h] at hB' ⊢
    refine (equal_sp_eq y.o z.o y.n y.c z.c la lb w hs hA.len hB' hA.row hB.row).mono ?_
    rintro e w' ⟨rfl, nd, rfl⟩
    exact ⟨rfl, drewN_below _ _⟩
  · rw [(eqSs_not (l := la) (m := lb)).2 (fun e => h (by rw [hA.len, hB.len, e]))]
    refine (equal_sp_len y.o z.o y.n z.n y.c z.c w (by simp; omega)).mono ?_
    rintro e w' ⟨rfl, rfl⟩
    exact ⟨rfl, Below.refl _ _⟩

set_option maxRecDepth 100000 in
set_option maxHeartbeats 1000000 in
theorem equal_dn_len (ao bo : Option Addr) (n m cap cap' : Nat) (w : World) (h : ((n : Int) != (m : Int)) = true) :
    Calls Try.prog 43 #[.slice ao n cap, .slice bo m cap'] w fun e w' => e = .returned (.bool false) ∧ w' = w := by
  go_enter Try.func43, Try.ntmps43
  go_wp2
  go_ret
  exact ⟨rfl, rfl⟩
set_option maxRecDepth 100000 in
set_option maxHeartbeats 1000000 in
theorem equal_dn_eq (ao bo : Option Addr) (n cap cap' : Nat) (la lb : List Dn) (w : World) (hs : n ≤ 9223372036854775806) (HA : Hid (n = la.length)) (HB : Hid (n = lb.length)) (RA : Hid (Row w ao (la.flatMap dnC))) (RB : Hid (Row w bo (lb.flatMap dnC))) :
    Calls Try.prog 43 #[.slice ao n cap, .slice bo n cap'] w fun e w' => e = .returned (.bool (eqDs la lb)) ∧ ∃ nd, w' = w.drewN nd := by
  go_enter Try.func43, Try.ntmps43
  go_wp2
  go_loopw [13] (fun i wr => ∃ k : Nat, k ≤ n ∧ i = .int .i64 k ∧ Hid (la.take k = lb.take k) ∧ ∃ nd, wr = w.drewN nd) (fun i _ => n - (intOf i).toNat)
  case atStart => exact ⟨0, Nat.zero_le _, rfl, by simp [Hid], 0, rfl⟩
  case round =>
    obtain ⟨k, hk, rfl, HT, nd, rfl⟩ := hrel
    by_cases hlt : k < n
    · have i1 : (0 : Int) ≤ (k : Int) := by omega
      have i2 : (k : Int) < (n : Int) := by omega
      obtain ⟨a, rfl, ca⟩ := atD_of RA.out k (by have := HA.out; omega)
      obtain ⟨b, rfl, cb⟩ := atD_of RB.out k (by have := HB.out; omega)
      obtain ⟨x, hx⟩ : ∃ x, la.getD k d0 = x := ⟨_, rfl⟩
      obtain ⟨y, hy⟩ : ∃ y, lb.getD k d0 = y := ⟨_, rfl⟩
      rw [hx] at ca
      rw [hy] at cb
      have HX := hid hx
      have HY := hid hy
      clear hx hy
      obtain ⟨c0, c1, c2, c3, c4⟩ := ca
      obtain ⟨g0, g1, g2, g3, g4⟩ := cb
      have he : ∀ W, (Op.equalIn 10000 78 (.agg #[.int .i64 x.c, .int .i64 x.r.e, .int .i64 x.r.v, .int .i64 x.r.b, .bool x.r.t]) (.agg #[.int .i64 y.c, .int .i64 y.r.e, .int .i64 y.r.v, .int .i64 y.r.b, .bool y.r.t])).run Try.prog W = .ok (eqD x y) W := fun W => eqd_run 9997 x y W
      by_cases hxy : x = y
      · rw [eqD_iff.2 hxy] at he
        have HXY := hid hxy
        clear hxy
        go_wp2
        go_quiet (fail)
        go_wp2
        go_roundw
        case rel => exact ⟨k + 1, by omega, by go_num, by rw [take_snoc la d0 k (by have := HA.out; omega), take_snoc lb d0 k (by have := HB.out; omega), HT.out, HX.out, HY.out, HXY.out]; exact rfl, _, rfl⟩
        case measure => simp [intOf]; omega
      · rw [eqD_not.2 hxy] at he
        have HXY := hid hxy
        clear hxy
        go_wp2
        go_quiet (fail)
        go_wp2
        go_ret
        exact ⟨ret_bool (eqDs_not.2 (fun e => HXY.out (by rw [← HX.out, ← HY.out, e]))).symm, _, drewN_add _ _ _⟩
    · obtain rfl : k = n := by omega
      go_wp2
      go_ret
      exact ⟨ret_bool (eqDs_iff.2 (take_full (HA.out.symm.trans HB.out) (by rw [← HA.out]; exact HT.out))).symm, _, rfl⟩
theorem equal_dn (y z : Hd) (la lb : List Dn) (w : World) (hs : y.n ≤ 9223372036854775806) (hA : HasL dnC w y la) (hB : HasL dnC w z lb) :
    Calls Try.prog 43 #[.slice y.o y.n y.c, .slice z.o z.n z.c] w fun e w' => e = .returned (.bool (eqDs la lb)) ∧ Below w.heap.size w w' := by
  by_cases h : y.n = z.n
  · have hB' := hB.len
    rw [← h] at hB' ⊢
    refine (equal_dn_eq y.o z.o y.n y.c z.c la lb w hs hA.len hB' hA.row hB.row).mono ?_
    rintro e w' ⟨rfl, nd, rfl⟩
    exact ⟨rfl, drewN_below _ _⟩
  · rw [(eqDs_not (l := la) (m := lb)).2 (fun e => h (by rw [hA.len, hB.len, e]))]
    refine (equal_dn_len y.o z.o y.n z.n y.c z.c w (by simp; omega)).mono ?_
    rintro e w' ⟨rfl, rfl⟩
    exact ⟨rfl, Below.refl _ _⟩
end Go.Proofs.Ytmnkbkhfonngeaa.Hi
