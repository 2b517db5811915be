/- What the program's slices.Clone, Equal, Index, Contains (of keys, of numbers) and order.Has do. -/
import Derived.Test.YtcldnacpddebcaaGhOwn
import Derived.Test.YtcldnacpddebcaaGhRInts
import Derived.Test.YtcldnacpddebcaaGhRFind
import Derived.Lib.SliceRun
namespace Go.Proofs.Ytcldnacpddebcaa.Gh
open Go.RowKit
open Go.Proofs.Ytcldnacpddebcaa.Tr

theorem eqNK (w : World) (a : Option Addr) (n c n' c' : Nat) : (binOp .eql 22 (.slice a n c) (.slice none n' c')).run Try.prog w = .ok (.bool a.isNone) w := Lib.run_eql_slice_nil w _ _ a n c n' c' Try.underlying22
theorem eqNI (w : World) (a : Option Addr) (n c n' c' : Nat) : (binOp .eql 23 (.slice a n c) (.slice none n' c')).run Try.prog w = .ok (.bool a.isNone) w := Lib.run_eql_slice_nil w _ _ a n c n' c' Try.underlying23
set_option maxHeartbeats 400000 in
theorem cloneK_nil (w : World) :
    Calls Try.prog 34 #[.slice none 0 0] w fun e w' => e = .returned (.slice none 0 0) ∧ w' = w := by
  have q := eqNK
  go_enter Try.func34, Try.ntmps34
  go_wp2
  go_ret
  exact ⟨rfl, rfl⟩
set_option maxHeartbeats 400000 in
theorem cloneK_some (a : Addr) (n cap : Nat) (cs : List Value) (w : World) (hn : Hid (cs.length = n * 2)) (hs : Hid (n ≤ 5000)) (hr : Hid (Row w (some a) cs)) (h1 : Hid (∀ u ∈ cs, u.oneCell' = true)) :
    Calls Try.prog 34 #[.slice (some a) n cap] w fun e w' => ∃ ao' cap', e = .returned (.slice ao' n cap') ∧ w'.ownsRow w.heap.size 27 2 (.slice ao' n cap') n cs ∧ Below w.heap.size w w' := by
  have q := eqNK
  go_enter Try.func34, Try.ntmps34
  go_wp2_with (at_builtin; refine wpList_append_row _ rfl (.tmp 5) (.tmp 6) 22 27 _ 2 16 rfl Try.underlying22 infoK rfl (by decide) (by decide) w.heap.size _ 0 [] rfl (own0 w 27 2) (some a) n cap cs rfl hn.out (fun h => by cases h) (hr.out.below (alloc_below w _)) h1.out (by have := hs.out; omega) (alloc_below w _).size ?_; intro ao1 cap1 w1 hown1 hgrow1; have b1 := app_below hgrow1; rw [Nat.zero_add, List.nil_append] at hown1; rw [Nat.zero_add]; have HO : Hid (w1.ownsRow w.heap.size 27 2 (.slice ao1 n cap1) n cs) := hown1; clear hown1 hgrow1)
  go_ret
  exact ⟨ao1, cap1, rfl, HO.out, b1⟩
/-- slices.Clone OF KEYS. -/
theorem cloneK_any (ao : Option Addr) (n cap : Nat) (l : List P) (w : World) (hs : n ≤ 5000) (h : HasP w ao n cap l) :
    Calls Try.prog 34 #[.slice ao n cap] w fun e w' => ∃ ao' cap', e = .returned (.slice ao' n cap') ∧ MineP 27 w' w.heap.size ao' n cap' l ∧ Below w.heap.size w w' := by
  cases ao with
  | none =>
    have h0 := row_none h.row
    have hl := len_prs l
    rw [h0] at hl
    have hn0 : n = 0 := by rw [h.len]; simp at hl; omega
    have hc := h.nil rfl
    subst hn0 hc
    refine (cloneK_nil w).mono ?_
    rintro e w' ⟨rfl, rfl⟩
    exact ⟨none, 0, rfl, ⟨h.len, by rw [h0]; exact World.ownsRow_nil _ _ _ _⟩, Below.refl _ _⟩
  | some a =>
    refine (cloneK_some a n cap (prs l) w (by rw [len_prs, h.len]; exact rfl) hs h.row (prs_one l)).mono ?_
    rintro e w' ⟨ao', cap', rfl, ho, hb⟩
    exact ⟨ao', cap', rfl, ⟨h.len, ho⟩, hb⟩
set_option maxHeartbeats 400000 in
theorem cloneI_nil (w : World) :
    Calls Try.prog 35 #[.slice none 0 0] w fun e w' => e = .returned (.slice none 0 0) ∧ w' = w := by
  have q := eqNI
  go_enter Try.func35, Try.ntmps35
  go_wp2
  go_ret
  exact ⟨rfl, rfl⟩
set_option maxHeartbeats 400000 in
theorem cloneI_some (a : Addr) (n cap : Nat) (cs : List Value) (w : World) (hn : Hid (cs.length = n * 1)) (hs : Hid (n ≤ 5000)) (hr : Hid (Row w (some a) cs)) (h1 : Hid (∀ u ∈ cs, u.oneCell' = true)) :
    Calls Try.prog 35 #[.slice (some a) n cap] w fun e w' => ∃ ao' cap', e = .returned (.slice ao' n cap') ∧ w'.ownsRow w.heap.size 3 1 (.slice ao' n cap') n cs ∧ Below w.heap.size w w' := by
  have q := eqNI
  go_enter Try.func35, Try.ntmps35
  go_wp2_with (at_builtin; refine wpList_append_row _ rfl (.tmp 5) (.tmp 6) 23 3 _ 1 8 rfl Try.underlying23 infoN rfl (by decide) (by decide) w.heap.size _ 0 [] rfl (own0 w 3 1) (some a) n cap cs rfl hn.out (fun h => by cases h) (hr.out.below (alloc_below w _)) h1.out (by have := hs.out; omega) (alloc_below w _).size ?_; intro ao1 cap1 w1 hown1 hgrow1; have b1 := app_below hgrow1; rw [Nat.zero_add, List.nil_append] at hown1; rw [Nat.zero_add]; have HO : Hid (w1.ownsRow w.heap.size 3 1 (.slice ao1 n cap1) n cs) := hown1; clear hown1 hgrow1)
  go_ret
  exact ⟨ao1, cap1, rfl, HO.out, b1⟩
/-- slices.Clone OF NUMBERS. -/
theorem cloneI_any (ao : Option Addr) (n cap : Nat) (l : List Int) (w : World) (hs : n ≤ 5000) (h : Has w ao n cap l) :
    Calls Try.prog 35 #[.slice ao n cap] w fun e w' => ∃ ao' cap', e = .returned (.slice ao' n cap') ∧ MineI w' w.heap.size ao' n cap' l ∧ Below w.heap.size w w' := by
  cases ao with
  | none =>
    have h0 := row_none h.row
    have hl := len_vals l
    rw [h0] at hl
    have hn0 : n = 0 := by rw [h.len]; simp at hl; omega
    have hc := h.nil rfl
    subst hn0 hc
    refine (cloneI_nil w).mono ?_
    rintro e w' ⟨rfl, rfl⟩
    exact ⟨none, 0, rfl, ⟨h.len, by rw [h0]; exact World.ownsRow_nil _ _ _ _⟩, Below.refl _ _⟩
  | some a =>
    refine (cloneI_some a n cap (vals l) w (by rw [len_vals, h.len]; exact (Nat.mul_one _).symm) hs h.row (vals_one l)).mono ?_
    rintro e w' ⟨ao', cap', rfl, ho, hb⟩
    exact ⟨ao', cap', rfl, ⟨h.len, ho⟩, hb⟩
/-! ### Equal -/
set_option maxRecDepth 100000 in
set_option maxHeartbeats 1000000 in
theorem equalK_len (ao bo : Option Addr) (n m cap cap' : Nat) (w : World) (h : ((n : Int) != (m : Int)) = true) :
    Calls Try.prog 43 #[.slice ao n cap, .slice bo m cap'] w fun e w' => e = .returned (.bool false) ∧ w' = w := by
  go_enter Try.func43, Try.ntmps43
  go_wp2
  go_ret
  exact ⟨rfl, rfl⟩
set_option maxRecDepth 100000 in
set_option maxHeartbeats 1000000 in
theorem equalK_eq (ao bo : Option Addr) (n cap cap' : Nat) (la lb : List P) (w : World) (hs : n ≤ 9223372036854775806) (HA : Hid (n = la.length)) (HB : Hid (n = lb.length)) (RA : Hid (Row w ao (prs la))) (RB : Hid (Row w bo (prs lb))) :
    Calls Try.prog 43 #[.slice ao n cap, .slice bo n cap'] w fun e w' => e = .returned (.bool (decide (la = lb))) ∧ ∃ nd, w' = w.drewN nd := by
  go_enter Try.func43, Try.ntmps43
  go_wp2
  go_loopw [13] (fun i wr => ∃ k : Nat, k ≤ n ∧ i = .int .i64 k ∧ Hid (la.take k = lb.take k) ∧ ∃ nd, wr = w.drewN nd) (fun i _ => n - (intOf i).toNat)
  case atStart => exact ⟨0, Nat.zero_le _, rfl, by simp [Hid], 0, rfl⟩
  case round =>
    obtain ⟨k, hk, rfl, HT, nd, rfl⟩ := hrel
    by_cases hlt : k < n
    · have i1 : (0 : Int) ≤ (k : Int) := by omega
      have i2 : (k : Int) < (n : Int) := by omega
      obtain ⟨a, rfl, ca⟩ := atP_of RA.out k (by have := HA.out; omega)
      obtain ⟨b, rfl, cb⟩ := atP_of RB.out k (by have := HB.out; omega)
      obtain ⟨x, hx⟩ : ∃ x, la.getD k (0, 0) = x := ⟨_, rfl⟩
      obtain ⟨y, hy⟩ : ∃ y, lb.getD k (0, 0) = y := ⟨_, rfl⟩
      rw [hx] at ca
      rw [hy] at cb
      have HX := hid hx
      have HY := hid hy
      clear hx hy
      obtain ⟨c0, c1⟩ := ca
      obtain ⟨d0, d1⟩ := cb
      by_cases hxy : x = y
      · have he := eqk_yes hxy
        have HXY := hid hxy
        clear hxy
        go_wp2
        go_quiet (fail)
        go_wp2
        go_roundw
        case rel => exact ⟨k + 1, by omega, by go_num, by rw [xtake_snoc la k (by have := HA.out; omega), xtake_snoc lb k (by have := HB.out; omega), HT.out, HX.out, HY.out, HXY.out]; exact rfl, _, rfl⟩
        case measure => simp [intOf]; omega
      · have he := eqk_no hxy
        have HXY := hid hxy
        clear hxy
        go_wp2
        go_quiet (fail)
        go_wp2
        go_ret
        exact ⟨ret_bool (decide_eq_false (fun e => HXY.out (by rw [← HX.out, ← HY.out, e]))).symm, _, drewN_add _ _ _⟩
    · obtain rfl : k = n := by omega
      go_wp2
      go_ret
      exact ⟨ret_bool (decide_eq_true (take_full (HA.out.symm.trans HB.out) (by rw [← HA.out]; exact HT.out))).symm, _, rfl⟩
theorem equalK_any (ao bo : Option Addr) (n m cap cap' : Nat) (la lb : List P) (w : World) (hs : n ≤ 9223372036854775806) (hA : HasP w ao n cap la) (hB : HasP w bo m cap' lb) :
    Calls Try.prog 43 #[.slice ao n cap, .slice bo m cap'] w fun e w' => e = .returned (.bool (decide (la = lb))) ∧ Below w.heap.size w w' := by
  by_cases h : n = m
  · subst h
    refine (equalK_eq ao bo n cap cap' la lb w hs hA.len hB.len hA.row hB.row).mono ?_
    rintro e w' ⟨rfl, nd, rfl⟩
    exact ⟨rfl, drewN_below _ _⟩
  · rw [decide_eq_false (p := la = lb) (fun e => h (by rw [hA.len, hB.len, e]))]
    refine (equalK_len ao bo n m cap cap' w (by simp; omega)).mono ?_
    rintro e w' ⟨rfl, rfl⟩
    exact ⟨rfl, Below.refl _ _⟩
set_option maxRecDepth 100000 in
set_option maxHeartbeats 1000000 in
theorem equalI_len (ao bo : Option Addr) (n m cap cap' : Nat) (w : World) (h : ((n : Int) != (m : Int)) = true) :
    Calls Try.prog 44 #[.slice ao n cap, .slice bo m cap'] w fun e w' => e = .returned (.bool false) ∧ w' = w := by
  go_enter Try.func44, Try.ntmps44
  go_wp2
  go_ret
  exact ⟨rfl, rfl⟩
set_option maxRecDepth 100000 in
set_option maxHeartbeats 1000000 in
theorem equalI_eq (ao bo : Option Addr) (n cap cap' : Nat) (la lb : List Int) (w : World) (hs : n ≤ 9223372036854775806) (HA : Hid (Has w ao n cap la)) (HB : Hid (Has w bo n cap' lb)) :
    Calls Try.prog 44 #[.slice ao n cap, .slice bo n cap'] w fun e w' => e = .returned (.bool (decide (la = lb))) ∧ ∃ nd, w' = w.drewN nd := by
  have HLA := hid HA.out.len
  have HLB := hid HB.out.len
  go_enter Try.func44, Try.ntmps44
  go_wp2
  go_loopw [13] (fun i wr => ∃ k : Nat, k ≤ n ∧ i = .int .i64 k ∧ Hid (la.take k = lb.take k) ∧ ∃ nd, wr = w.drewN nd) (fun i _ => n - (intOf i).toNat)
  case atStart => exact ⟨0, Nat.zero_le _, rfl, by simp [Hid], 0, rfl⟩
  case round =>
    obtain ⟨k, hk, rfl, HT, nd, rfl⟩ := hrel
    by_cases hlt : k < n
    · have i1 : (0 : Int) ≤ (k : Int) := by omega
      have i2 : (k : Int) < (n : Int) := by omega
      obtain ⟨a, rfl, ca⟩ := HA.out.cell k hlt
      obtain ⟨b, rfl, cb⟩ := HB.out.cell k hlt
      obtain ⟨x, hx⟩ : ∃ x, la.getD k 0 = x := ⟨_, rfl⟩
      obtain ⟨y, hy⟩ : ∃ y, lb.getD k 0 = y := ⟨_, rfl⟩
      rw [hx] at ca
      rw [hy] at cb
      have HX := hid hx
      have HY := hid hy
      clear hx hy
      by_cases hxy : x = y
      · have he : (x != y) = false := by simp [hxy]
        have HXY := hid hxy
        clear hxy
        go_wp2
        go_quiet (fail)
        go_wp2
        go_roundw
        case rel => exact ⟨k + 1, by omega, by go_num, by rw [itake_snoc la k (by have := HLA.out; omega), itake_snoc lb k (by have := HLB.out; omega), HT.out, HX.out, HY.out, HXY.out]; exact rfl, _, rfl⟩
        case measure => simp [intOf]; omega
      · have he : (x != y) = true := by simp [hxy]
        have HXY := hid hxy
        clear hxy
        go_wp2
        go_quiet (fail)
        go_wp2
        go_ret
        exact ⟨ret_bool (decide_eq_false (fun e => HXY.out (by rw [← HX.out, ← HY.out, e]))).symm, _, drewN_add _ _ _⟩
    · obtain rfl : k = n := by omega
      go_wp2
      go_ret
      exact ⟨ret_bool (decide_eq_true (itake_full (HLA.out.symm.trans HLB.out) (by rw [← HLA.out]; exact HT.out))).symm, _, rfl⟩
theorem equalI_any (ao bo : Option Addr) (n m cap cap' : Nat) (la lb : List Int) (w : World) (hs : n ≤ 9223372036854775806) (hA : Has w ao n cap la) (hB : Has w bo m cap' lb) :
    Calls Try.prog 44 #[.slice ao n cap, .slice bo m cap'] w fun e w' => e = .returned (.bool (decide (la = lb))) ∧ Below w.heap.size w w' := by
  by_cases h : n = m
  · subst h
    refine (equalI_eq ao bo n cap cap' la lb w hs hA hB).mono ?_
    rintro e w' ⟨rfl, nd, rfl⟩
    exact ⟨rfl, drewN_below _ _⟩
  · rw [decide_eq_false (p := la = lb) (fun e => h (by rw [hA.len, hB.len, e]))]
    refine (equalI_len ao bo n m cap cap' w (by simp; omega)).mono ?_
    rintro e w' ⟨rfl, rfl⟩
    exact ⟨rfl, Below.refl _ _⟩
/-! ### Index, Contains, Has -/
set_option maxRecDepth 100000 in
set_option maxHeartbeats 1000000 in
/-- slices.Index OF KEYS: where a key is first. -/
theorem indexK_any (ao : Option Addr) (n cap : Nat) (l : List P) (x : P) (w : World) (hs : n ≤ 9223372036854775806) (HH : Hid (HasP w ao n cap l)) :
    Calls Try.prog 45 #[.slice ao n cap, (.agg #[.int .i64 x.1, .int .i64 x.2])] w fun e w' => e = .returned (.int .i64 (fkI x l)) ∧ Below w.heap.size w w' := by
  have HN := hid HH.out.len
  go_enter Try.func45, Try.ntmps45
  go_wp2
  generalize hW : w.alloc _ = W
  have HW : Hid (Below w.heap.size w W) := by rw [← hW]; exact alloc_below w _
  have HX : Hid (AtP W ⟨w.heap.size, 0, none⟩ x) := by rw [← hW]; exact at_new w x _
  clear hW
  go_loopw [8] (fun i wr => ∃ k : Nat, k ≤ n ∧ i = .int .i64 k ∧ Hid (∀ j, j < k → Kk l j ≠ x) ∧ ∃ q, wr = W.drewN q) (fun i _ => n - (intOf i).toNat)
  case atStart => exact ⟨0, Nat.zero_le _, rfl, fun j h => absurd h (by omega), 0, rfl⟩
  case round =>
    obtain ⟨k, hk, rfl, HS, q, rfl⟩ := hrel
    by_cases hlt : k < n
    · have i1 : (0 : Int) ≤ (k : Int) := by omega
      have i2 : (k : Int) < (n : Int) := by omega
      obtain ⟨a, rfl, ca⟩ := atP_of (HH.out.row.below HW.out) k (by have := HN.out; omega)
      obtain ⟨y, hy⟩ : ∃ y, l.getD k (0, 0) = y := ⟨_, rfl⟩
      rw [hy] at ca
      have HY := hid hy
      clear hy
      obtain ⟨c0, c1⟩ := ca
      obtain ⟨d0, d1⟩ := HX.out
      by_cases hxy : x = y
      · have he := eqk_yes hxy
        have HR : Hid (fk x l = some k) := fk_some.2 ⟨by have := HN.out; omega, by show l.getD k (0, 0) = x; rw [HY.out, hxy], HS.out⟩
        clear hxy
        go_wp2
        go_quiet (fail)
        go_wp2
        go_ret
        exact ⟨ret_int (fkI_some HR.out).symm, q_drewN (q_drewN HW.out _) _⟩
      · have he := eqk_no hxy
        have HXY := hid hxy
        clear hxy
        go_wp2
        go_quiet (fail)
        go_wp2
        go_roundw
        case rel =>
          refine ⟨k + 1, by omega, by go_num, fun j hj => ?_, _, rfl⟩
          by_cases e : j = k
          · subst e
            show l.getD j (0, 0) ≠ x
            rw [HY.out]
            exact fun h => HXY.out h.symm
          · exact HS.out j (by omega)
        case measure => simp [intOf]; omega
    · have HR : Hid (fk x l = none) := fk_none.2 (fun j hj => HS.out j (by have := HH.out.len; omega))
      go_wp2
      go_ret
      exact ⟨ret_int (fkI_none HR.out).symm, q_drewN HW.out _⟩
def ixI (x : Int) (l : List Int) : Int := if x ∈ l then 0 else -1
/-- Whether a place that was found is one. -/
def InI (x : Int) (l : List Int) (v : Int) : Prop := (0 ≤ v) = (x ∈ l)
set_option maxRecDepth 100000 in
set_option maxHeartbeats 1000000 in
theorem indexI_any (ao : Option Addr) (n cap : Nat) (l : List Int) (x : Int) (w : World) (hs : n ≤ 9223372036854775806) (HH : Hid (Has w ao n cap l)) :
    Calls Try.prog 64 #[.slice ao n cap, .int .i64 x] w fun e w' => ∃ v : Int, e = .returned (.int .i64 v) ∧ InI x l v ∧ w' = w := by
  have HN := hid HH.out.len
  go_enter Try.func64, Try.ntmps64
  go_wp2
  go_loopw [8] (fun i wr => ∃ k : Nat, k ≤ n ∧ i = .int .i64 k ∧ Hid (∀ j, j < k → Ii l j ≠ x) ∧ wr = w) (fun i _ => n - (intOf i).toNat)
  case atStart => exact ⟨0, Nat.zero_le _, rfl, fun j h => absurd h (by omega), rfl⟩
  case round =>
    obtain ⟨k, hk, rfl, HS, rfl⟩ := hrel
    by_cases hlt : k < n
    · have i1 : (0 : Int) ≤ (k : Int) := by omega
      have i2 : (k : Int) < (n : Int) := by omega
      obtain ⟨a, rfl, ca⟩ := HH.out.cell k hlt
      obtain ⟨y, hy⟩ : ∃ y, l.getD k 0 = y := ⟨_, rfl⟩
      rw [hy] at ca
      have HY := hid hy
      clear hy
      by_cases hxy : x = y
      · have he : (x == y) = true := by simp [hxy]
        have HR : Hid (x ∈ l) := by
          have h : k < l.length := by have := HN.out; omega
          show x ∈ l
          rw [hxy, ← HY.out, show l.getD k 0 = l[k] by simp [List.getD, h]]
          exact List.getElem_mem h
        clear hxy
        go_wp2
        go_ret
        exact ⟨k, rfl, by have := HR.out; unfold InI; simp [this], rfl⟩
      · have he : (x == y) = false := by simp [hxy]
        have HXY := hid hxy
        clear hxy
        go_wp2
        go_roundw
        case rel =>
          refine ⟨k + 1, by omega, by go_num, fun j hj => ?_, trivial⟩
          by_cases e : j = k
          · subst e
            show l.getD j 0 ≠ x
            rw [HY.out]
            exact fun h => HXY.out h.symm
          · exact HS.out j (by omega)
        case measure => simp [intOf]; omega
    · have HR : Hid (x ∉ l) := fun h => by
        obtain ⟨i, hi, e⟩ := List.getElem_of_mem h
        exact HS.out i (by have := HN.out; omega) (by show l.getD i 0 = x; simp [List.getD, hi, e])
      go_wp2
      go_ret
      exact ⟨-1, rfl, by have := HR.out; unfold InI; simp [this], rfl⟩
set_option maxHeartbeats 400000 in
theorem contains_any (ao : Option Addr) (n cap : Nat) (l : List Int) (x : Int) (w : World) (hs : n ≤ 9223372036854775806) (HH : Hid (Has w ao n cap l)) :
    Calls Try.prog 46 #[.slice ao n cap, .int .i64 x] w fun e w' => e = .returned (.bool (decide (x ∈ l))) ∧ Below w.heap.size w w' := by
  go_enter Try.func46, Try.ntmps46
  go_wp2_with fail
  refine (indexI_any ao n cap l x w hs HH).mono ?_
  rintro e w1 ⟨v, rfl, hv, hw⟩
  rw [hw]
  clear hw w1
  have HV := hid hv
  clear hv
  go_wp2_with fail
  go_ret
  exact ⟨ret_bool (by have h := HV.out; unfold InI at h; rw [Bool.eq_iff_iff]; simp only [decide_eq_true_eq]; rw [h]), Below.refl _ _⟩
def hsB (l : List P) (k : P) : Bool := (fk k l).isSome
set_option maxRecDepth 100000 in
set_option maxHeartbeats 1000000 in
theorem ohas_any (ao : Option Addr) (n cap : Nat) (t : List P) (k : P) (w : World) (hs : n ≤ 9223372036854775806) (HH : Hid (HasP w ao n cap t)) :
    Calls Try.prog 67 #[.slice ao n cap, (.agg #[.int .i64 k.1, .int .i64 k.2])] w fun e w' => e = .returned (.bool (hsB t k)) ∧ Below w.heap.size w w' := by
  have HN := hid HH.out.len
  go_enter Try.func67, Try.ntmps67
  go_wp2_with fail
  have HK0 := hid (at_new w k 27)
  have HB0 := hid (alloc_below w (.cells #[.int .i64 k.1, .int .i64 k.2] 27))
  generalize hw0 : w.alloc (.cells #[.int .i64 k.1, .int .i64 k.2] 27) = W0 at HK0 HB0 ⊢
  clear hw0
  go_loopw [9] (fun i wr => ∃ q : Nat, q ≤ n ∧ i = .int .i64 q ∧ Hid (∀ m, m < q → Kk t m ≠ k) ∧ Hid (AtP wr ⟨w.heap.size, 0, none⟩ k) ∧ Hid (Below w.heap.size w wr)) (fun i _ => n - (intOf i).toNat)
  case atStart => exact ⟨0, Nat.zero_le _, rfl, fun c hc => absurd hc (by omega), HK0, HB0⟩
  case round =>
    obtain ⟨q, hq, rfl, HU, HK, HB⟩ := hrel
    clear HK0 HB0
    by_cases hlt : q < n
    · have i1 : (0 : Int) ≤ (q : Int) := by omega
      have i2 : (q : Int) < (n : Int) := by omega
      obtain ⟨a, rfl, ca⟩ := (HH.out.below HB.out).at q hlt
      obtain ⟨x, hx⟩ : ∃ x, t.getD q (0, 0) = x := ⟨_, rfl⟩
      have HX := hid hx
      rw [hx] at ca
      obtain ⟨f0, f1⟩ := ca
      clear hx
      have HB9 := hid (q_alloc HB.out (.cells #[.int .i64 x.1, .int .i64 x.2] 27))
      have HK9 := hid (HK.out.below (alloc_below wr (.cells #[.int .i64 x.1, .int .i64 x.2] 27)))
      obtain ⟨k0, k1⟩ := HK9.out
      by_cases e : x = k
      · have HE : Hid (fk k t = some q) := fk_some.2 ⟨by have := HN.out; omega, by show t.getD q (0, 0) = k; rw [HX.out]; exact e, HU.out⟩
        have ee := eqk_yes e
        clear e
        go_wp2_with fail
        go_ret
        exact ⟨ret_bool (by simp [hsB, HE.out]), HB9.out⟩
      · have HE := hid e
        have ee := eqk_no e
        clear e
        go_wp2_with fail
        go_roundw
        case rel =>
          refine ⟨q + 1, by omega, by go_num, fun m hm => ?_, HK9, HB9⟩
          rcases Nat.lt_or_ge m q with y | y
          · exact HU.out m y
          · obtain rfl : m = q := by omega
            show t.getD m (0, 0) ≠ k
            rw [HX.out]
            exact HE.out
        case measure => simp [intOf]; omega
    · obtain rfl : q = n := by omega
      have HE : Hid (fk k t = none) := fk_none.2 fun j hj => HU.out j (by have := HN.out; omega)
      go_wp2_with fail
      go_ret
      exact ⟨ret_bool (by simp [hsB, HE.out]), HB.out⟩
end Go.Proofs.Ytcldnacpddebcaa.Gh
