/- What the program's Same, slices.Clone, there, unused, room, valid, cmp.Or do. -/
import Derived.Test.YtdaakigofpehjabTrW2
import Derived.Test.YtdaakigofpehjabTrSame
import Derived.Test.YtdaakigofpehjabTrKSame
import Derived.Lib.SliceRun
namespace Go.Proofs.Ytdaakigofpehjab.Tr
open Go.RowKit

set_option maxRecDepth 100000 in
set_option maxHeartbeats 1000000 in
theorem equal_len (ao bo : Option Addr) (n m cap cap' : Nat) (w : World) (h : ((n : Int) != (m : Int)) = true) :
    Calls Try.prog 34 #[.slice ao n cap, .slice bo m cap'] w fun e w' => e = .returned (.bool false) ∧ w' = w := by
  go_enter Try.func34, Try.ntmps34
  go_wp2
  go_ret
  exact ⟨rfl, rfl⟩
set_option maxRecDepth 100000 in
set_option maxHeartbeats 1000000 in
theorem equal_eq (ao bo : Option Addr) (n cap cap' : Nat) (la lb : List Br) (w : World) (hs : n ≤ 9223372036854775806) (HA : Hid (n = la.length)) (HB : Hid (n = lb.length)) (RA : Hid (Row w ao (brs la))) (RB : Hid (Row w bo (brs lb))) :
    Calls Try.prog 34 #[.slice ao n cap, .slice bo n cap'] w fun e w' => e = .returned (.bool (decide (la = lb))) ∧ ∃ nd, w' = w.drewN nd := by
  go_enter Try.func34, Try.ntmps34
  go_wp2
  go_loopw [13] (fun i wr => ∃ k : Nat, k ≤ n ∧ i = .int .i64 k ∧ Hid (la.take k = lb.take k) ∧ ∃ nd, wr = w.drewN nd) (fun i _ => n - (intOf i).toNat)
  case atStart => exact ⟨0, Nat.zero_le _, rfl, by simp [Hid], 0, rfl⟩
  case round =>
    obtain ⟨k, hk, rfl, HT, nd, rfl⟩ := hrel
    by_cases hlt : k < n
    · have i1 : (0 : Int) ≤ (k : Int) := by omega
      have i2 : (k : Int) < (n : Int) := by omega
      obtain ⟨a, rfl, ca⟩ := atB_of RA.out k (by have := HA.out; omega)
      obtain ⟨b, rfl, cb⟩ := atB_of RB.out k (by have := HB.out; omega)
      obtain ⟨x, hx⟩ : ∃ x, la.getD k zB = x := ⟨_, rfl⟩
      obtain ⟨y, hy⟩ : ∃ y, lb.getD k zB = y := ⟨_, rfl⟩
      rw [hx] at ca
      rw [hy] at cb
      have HX := hid hx
      have HY := hid hy
      clear hx hy
      obtain ⟨c0, c1, c2, c3⟩ := ca
      obtain ⟨d0, d1, d2, d3⟩ := cb
      by_cases hxy : x = y
      · have he := eqb_yes hxy
        have HXY := hid hxy
        clear hxy
        go_wp2
        go_quiet (fail)
        go_wp2
        go_roundw
        case rel => exact ⟨k + 1, by omega, by go_num, by rw [btake_snoc la k (by have := HA.out; omega), btake_snoc lb k (by have := HB.out; omega), HT.out, HX.out, HY.out, HXY.out]; exact rfl, _, rfl⟩
        case measure => simp [intOf]; omega
      · have he := eqb_no hxy
        have HXY := hid hxy
        clear hxy
        go_wp2
        go_quiet (fail)
        go_wp2
        go_ret
        exact ⟨ret_bool (decide_eq_false (fun e => HXY.out (by rw [← HX.out, ← HY.out, e]))).symm, _, drewN_add _ _ _⟩
    · obtain rfl : k = n := by omega
      go_wp2
      go_ret
      exact ⟨ret_bool (decide_eq_true (btake_full (HA.out.symm.trans HB.out) (by rw [← HA.out]; exact HT.out))).symm, _, rfl⟩
/-- slices.Equal: WHETHER TWO LISTS ARE THE SAME. -/
theorem equal_any (ao bo : Option Addr) (n m cap cap' : Nat) (la lb : List Br) (w : World) (hs : n ≤ 9223372036854775806) (hA : HasB w ao n cap la) (hB : HasB w bo m cap' lb) :
    Calls Try.prog 34 #[.slice ao n cap, .slice bo m cap'] w fun e w' => e = .returned (.bool (decide (la = lb))) ∧ Below w.heap.size w w' := by
  by_cases h : n = m
  · subst h
    refine (equal_eq ao bo n cap cap' la lb w hs hA.len hB.len hA.row hB.row).mono ?_
    rintro e w' ⟨rfl, nd, rfl⟩
    exact ⟨rfl, drewN_below _ _⟩
  · rw [decide_eq_false (p := la = lb) (fun e => h (by rw [hA.len, hB.len, e]))]
    refine (equal_len ao bo n m cap cap' w (by simp; omega)).mono ?_
    rintro e w' ⟨rfl, rfl⟩
    exact ⟨rfl, Below.refl _ _⟩
set_option maxHeartbeats 400000 in
theorem same_any (ao bo : Option Addr) (n m cap cap' : Nat) (la lb : List Br) (w : World) (hs : n ≤ 9223372036854775806) (hA : Hid (HasB w ao n cap la)) (hB : Hid (HasB w bo m cap' lb)) :
    Calls Try.prog 20 #[.slice ao n cap, .slice bo m cap'] w fun e w' => e = .returned (.bool (decide (la = lb))) ∧ Below w.heap.size w w' := by
  go_enter Try.func20, Try.ntmps20
  go_wp2_with fail
  refine (equal_any ao bo n m cap cap' la lb w hs hA.out hB.out).mono ?_
  rintro e w1 ⟨rfl, b1⟩
  have H1 := hid b1
  clear b1
  go_wp2_with fail
  go_ret
  exact ⟨rfl, H1.out⟩
theorem eqN (w : World) (a : Option Addr) (n c n' c' : Nat) : (binOp .eql 26 (.slice a n c) (.slice none n' c')).run Try.prog w = .ok (.bool a.isNone) w := Lib.run_eql_slice_nil w _ _ a n c n' c' Try.underlying26
set_option maxHeartbeats 400000 in
theorem clone_nil (w : World) :
    Calls Try.prog 28 #[.slice none 0 0] w fun e w' => e = .returned (.slice none 0 0) ∧ w' = w := by
  have q := eqN
  go_enter Try.func28, Try.ntmps28
  go_wp2
  go_ret
  exact ⟨rfl, rfl⟩
set_option maxHeartbeats 400000 in
theorem clone_some (a : Addr) (n cap : Nat) (cs : List Value) (w : World) (hn : Hid (cs.length = n * 4)) (hs : Hid (n ≤ 5000)) (hr : Hid (Row w (some a) cs)) (h1 : Hid (∀ u ∈ cs, u.oneCell' = true)) :
    Calls Try.prog 28 #[.slice (some a) n cap] w fun e w' => ∃ ao' cap', e = .returned (.slice ao' n cap') ∧ w'.ownsRow w.heap.size 35 4 (.slice ao' n cap') n cs ∧ Below w.heap.size w w' := by
  have q := eqN
  go_enter Try.func28, Try.ntmps28
  go_wp2_with (at_builtin; refine wpList_append_row _ rfl (.tmp 5) (.tmp 6) 26 35 _ 4 32 rfl Try.underlying26 infoB rfl (by decide) (by decide) w.heap.size _ 0 [] rfl (own0 w 35 4) (some a) n cap cs rfl hn.out (fun h => by cases h) (hr.out.below (alloc_below w _)) h1.out (by have := hs.out; omega) (alloc_below w _).size ?_; intro ao1 cap1 w1 hown1 hgrow1; have b1 := app_below hgrow1; rw [Nat.zero_add, List.nil_append] at hown1; rw [Nat.zero_add]; have HO : Hid (w1.ownsRow w.heap.size 35 4 (.slice ao1 n cap1) n cs) := hown1; clear hown1 hgrow1)
  go_ret
  exact ⟨ao1, cap1, rfl, HO.out, b1⟩
/-- slices.Clone OF BRANCHES: WHAT LIES THERE, IN A ROW OF ITS OWN. -/
theorem clone_any (ao : Option Addr) (n cap : Nat) (l : List Br) (w : World) (hs : n ≤ 5000) (h : HasB w ao n cap l) :
    Calls Try.prog 28 #[.slice ao n cap] w fun e w' => ∃ ao' cap', e = .returned (.slice ao' n cap') ∧ MineB w' w.heap.size ao' n cap' l ∧ Below w.heap.size w w' := by
  cases ao with
  | none =>
    have h0 := row_none h.row
    have hl := len_brs l
    rw [h0] at hl
    have hn0 : n = 0 := by rw [h.len]; simp at hl; omega
    have hc := h.nil rfl
    subst hn0 hc
    refine (clone_nil w).mono ?_
    rintro e w' ⟨rfl, rfl⟩
    exact ⟨none, 0, rfl, ⟨h.len, by rw [h0]; exact World.ownsRow_nil _ _ _ _⟩, Below.refl _ _⟩
  | some a =>
    refine (clone_some a n cap (brs l) w (by rw [len_brs, h.len]; exact rfl) hs h.row (brs_one l)).mono ?_
    rintro e w' ⟨ao', cap', rfl, ho, hb⟩
    exact ⟨ao', cap', rfl, ⟨h.len, ho⟩, hb⟩
def thE (t : List Br) (k : P) : Int := if hasK t k then 0 else 7
def unE (t : List Br) (k : P) : Int := if hasK t k then 8 else 0
set_option maxHeartbeats 400000 in
theorem there_any (ao : Option Addr) (n cap : Nat) (t : List Br) (k : P) (w : World) (hs : n ≤ 9223372036854775806) (HH : Hid (HasB w ao n cap t)) :
    Calls Try.prog 30 #[.slice ao n cap, (.agg #[.int .i64 k.1, .int .i64 k.2])] w fun e w' => e = .returned (.int .i64 (thE t k)) ∧ Below w.heap.size w w' := by
  go_enter Try.func30, Try.ntmps30
  go_wp2_with fail
  have B0 := hid (alloc_below w (.cells #[.int .i64 k.1, .int .i64 k.2] 24))
  generalize w.alloc (.cells #[.int .i64 k.1, .int .i64 k.2] 24) = W0 at B0 ⊢
  refine (find_any ao n cap t k W0 hs (HH.out.below B0.out)).mono ?_
  rintro e w1 ⟨rfl, b1⟩
  have B1 := hid (q_trans B0.out b1)
  clear b1 B0
  cases h3 : hasK t k with
  | false =>
    have HE : Hid (thE t k = 7) := by unfold Hid thE; rw [h3]; rfl
    clear h3
    go_wp2_with fail
    go_ret
    exact ⟨ret_int HE.out.symm, B1.out⟩
  | true =>
    have HE : Hid (thE t k = 0) := by unfold Hid thE; rw [h3]; rfl
    clear h3
    go_wp2_with fail
    go_ret
    exact ⟨ret_int HE.out.symm, B1.out⟩
set_option maxHeartbeats 400000 in
theorem unused_any (ao : Option Addr) (n cap : Nat) (t : List Br) (k : P) (w : World) (hs : n ≤ 9223372036854775806) (HH : Hid (HasB w ao n cap t)) :
    Calls Try.prog 26 #[.slice ao n cap, (.agg #[.int .i64 k.1, .int .i64 k.2])] w fun e w' => e = .returned (.int .i64 (unE t k)) ∧ Below w.heap.size w w' := by
  go_enter Try.func26, Try.ntmps26
  go_wp2_with fail
  have B0 := hid (alloc_below w (.cells #[.int .i64 k.1, .int .i64 k.2] 24))
  generalize w.alloc (.cells #[.int .i64 k.1, .int .i64 k.2] 24) = W0 at B0 ⊢
  refine (find_any ao n cap t k W0 hs (HH.out.below B0.out)).mono ?_
  rintro e w1 ⟨rfl, b1⟩
  have B1 := hid (q_trans B0.out b1)
  clear b1 B0
  cases h3 : hasK t k with
  | false =>
    have HE : Hid (unE t k = 0) := by unfold Hid unE; rw [h3]; rfl
    clear h3
    go_wp2_with fail
    go_ret
    exact ⟨ret_int HE.out.symm, B1.out⟩
  | true =>
    have HE : Hid (unE t k = 8) := by unfold Hid unE; rw [h3]; rfl
    clear h3
    go_wp2_with fail
    go_ret
    exact ⟨ret_int HE.out.symm, B1.out⟩
def rmE (n : Nat) : Int := if 512 ≤ n then 6 else 0
set_option maxHeartbeats 400000 in
theorem room_any (ao : Option Addr) (n cap : Nat) (w : World) :
    Calls Try.prog 27 #[.slice ao n cap] w fun e w' => e = .returned (.int .i64 (rmE n)) ∧ w' = w := by
  by_cases h : 512 ≤ n
  · have i1 : (n : Int) ≥ 512 := by omega
    rw [show rmE n = 6 from if_pos h]
    clear h
    go_enter Try.func27, Try.ntmps27
    go_wp2_with fail
    go_ret
    exact ⟨rfl, rfl⟩
  · have i1 : ¬ (n : Int) ≥ 512 := by omega
    rw [show rmE n = 0 from if_neg h]
    clear h
    go_enter Try.func27, Try.ntmps27
    go_wp2_with fail
    go_ret
    exact ⟨rfl, rfl⟩
/-- Whether keys may be, and t a tree. -/
def oks (l : List P) : Bool := l.all okK
def vdE (t : List Br) (l : List P) : Int := if oks l then ckE t else 2
theorem oks_no {l : List P} {q : Nat} (hq : q < l.length) (h : okK (l.getD q (0, 0)) = false) : oks l = false := by
  rw [oks, List.all_eq_false]
  exact ⟨_, List.getElem_mem hq, by rw [← getD_lt hq, h]; simp⟩
theorem oks_yes {l : List P} (h : ∀ q, q < l.length → okK (l.getD q (0, 0)) = true) : oks l = true := by
  rw [oks, List.all_eq_true]
  intro x hx
  obtain ⟨i, hi, rfl⟩ := List.getElem_of_mem hx
  rw [← getD_lt hi]
  exact h i hi
set_option maxRecDepth 100000 in
set_option maxHeartbeats 1000000 in
theorem valid_any (ao : Option Addr) (n cap : Nat) (t : List Br) (ko : Option Addr) (m kc : Nat) (l : List P) (w : World) (hs : m ≤ 1000) (HH : Hid (HasB w ao n cap t)) (HK : Hid (HasP w ko m kc l)) :
    Calls Try.prog 25 #[.slice ao n cap, .slice ko m kc] w fun e w' => e = .returned (.int .i64 (vdE t l)) ∧ Below w.heap.size w w' := by
  have HN := hid HK.out.len
  go_enter Try.func25, Try.ntmps25
  go_wp2_with fail
  go_loopw [9] (fun i wr => ∃ q : Nat, q ≤ m ∧ i = .int .i64 q ∧ Hid (∀ j, j < q → okK (l.getD j (0, 0)) = true) ∧ Hid (Below w.heap.size w wr)) (fun i _ => m - (intOf i).toNat)
  case atStart => exact ⟨0, Nat.zero_le _, rfl, fun c hc => absurd hc (by omega), Below.refl _ _⟩
  case round =>
    obtain ⟨q, hq, rfl, HU, HB⟩ := hrel
    by_cases hlt : q < m
    · have i1 : (0 : Int) ≤ (q : Int) := by omega
      have i2 : (q : Int) < (m : Int) := by omega
      obtain ⟨a, rfl, ca⟩ := (HK.out.below HB.out).at q hlt
      obtain ⟨x, hx⟩ : ∃ x, l.getD q (0, 0) = x := ⟨_, rfl⟩
      have HX := hid hx
      rw [hx] at ca
      obtain ⟨f0, f1⟩ := ca
      clear hx
      have HB9 := hid (q_alloc HB.out (.cells #[.int .i64 x.1, .int .i64 x.2] 24))
      go_wp2_with fail
      cases hk : okK x with
      | false =>
        have HE : Hid (vdE t l = 2) := by unfold Hid vdE; rw [oks_no (q := q) (by have := HN.out; omega) (by rw [HX.out]; exact hk)]; rfl
        refine (ocheck_no hk _).mono ?_
        clear hk
        rintro e w2 ⟨rfl, b2⟩
        have HB2 := hid (q_trans HB9.out b2)
        clear b2
        go_wp2_with fail
        go_ret
        exact ⟨ret_int HE.out.symm, HB2.out⟩
      | true =>
        have HE := hid hk
        refine (ocheck_yes hk _).mono ?_
        clear hk
        rintro e w2 ⟨rfl, b2⟩
        have HB2 := hid (q_trans HB9.out b2)
        clear b2
        go_wp2_with fail
        go_roundw
        case rel =>
          refine ⟨q + 1, by omega, by go_num, fun j hj => ?_, HB2⟩
          rcases Nat.lt_or_ge j q with y | y
          · exact HU.out j y
          · obtain rfl : j = q := by omega
            rw [HX.out]
            exact HE.out
        case measure => simp [intOf]; omega
    · obtain rfl : q = m := by omega
      have HE : Hid (vdE t l = ckE t) := by unfold Hid vdE; rw [oks_yes (fun j hj => HU.out j (by have := HN.out; omega))]; rfl
      go_wp2_with fail
      refine (check_any ao n cap t wr (HH.out.below HB.out)).mono ?_
      rintro e w2 ⟨rfl, b2⟩
      have HB2 := hid (q_trans HB.out b2)
      clear b2
      go_wp2_with fail
      go_ret
      exact ⟨ret_int HE.out.symm, HB2.out⟩
/-- The first one that is not 0. -/
def orV : List Int → Int
  | [] => 0
  | x :: r => if x = 0 then orV r else x
theorem orV_zero : ∀ {l : List Int}, (∀ j, j < l.length → l.getD j 0 = 0) → orV l = 0
  | [], _ => rfl
  | x :: r, h => by
    have h0 : x = 0 := h 0 (by simp)
    rw [orV, if_pos h0]
    exact orV_zero fun j hj => h (j + 1) (by simpa using hj)
theorem orV_at : ∀ {l : List Int} {q : Nat}, q < l.length → (∀ j, j < q → l.getD j 0 = 0) → l.getD q 0 ≠ 0 → orV l = l.getD q 0
  | [], q, h, _, _ => absurd h (by simp)
  | x :: r, 0, _, _, h => by
    rw [orV, if_neg (by exact h)]
    rfl
  | x :: r, q + 1, hq, hz, h => by
    rw [orV, if_pos (show x = 0 from hz 0 (by omega))]
    exact orV_at (q := q) (by simpa using hq) (fun j hj => hz (j + 1) (by omega)) h
set_option maxRecDepth 100000 in
set_option maxHeartbeats 1000000 in
theorem or_any (ao : Option Addr) (n cap : Nat) (l : List Int) (w : World) (hs : n ≤ 1000) (HH : Hid (Has w ao n cap l)) :
    Calls Try.prog 24 #[.slice ao n cap] w fun e w' => e = .returned (.int .i64 (orV l)) ∧ w' = w := by
  have HN := hid HH.out.len
  go_enter Try.func24, Try.ntmps24
  go_wp2_with fail
  go_loopw [8] (fun i wr => ∃ q : Nat, q ≤ n ∧ i = .int .i64 q ∧ Hid (∀ j, j < q → l.getD j 0 = 0) ∧ wr = w) (fun i _ => n - (intOf i).toNat)
  case atStart => exact ⟨0, Nat.zero_le _, rfl, fun c hc => absurd hc (by omega), rfl⟩
  case round =>
    obtain ⟨q, hq, rfl, HU, rfl⟩ := hrel
    by_cases hlt : q < n
    · have i1 : (0 : Int) ≤ (q : Int) := by omega
      have i2 : (q : Int) < (n : Int) := by omega
      obtain ⟨a, rfl, ca⟩ := HH.out.cell q hlt
      obtain ⟨x, hx⟩ : ∃ x, l.getD q 0 = x := ⟨_, rfl⟩
      have HX := hid hx
      rw [hx] at ca
      clear hx
      by_cases hz : x = 0
      · have HZ := hid hz
        have hz2 : (x != 0) = false := by simp [hz]
        clear hz
        go_wp2_with fail
        go_roundw
        case rel =>
          refine ⟨q + 1, by omega, by go_num, fun j hj => ?_, trivial⟩
          rcases Nat.lt_or_ge j q with y | y
          · exact HU.out j y
          · obtain rfl : j = q := by omega
            rw [HX.out]
            exact HZ.out
        case measure => simp [intOf]; omega
      · have HE := hid (orV_at (l := l) (q := q) (by have := HN.out; omega) HU.out (by rw [HX.out]; exact hz))
        have hz2 : (x != 0) = true := by simp [hz]
        clear hz
        go_wp2_with fail
        go_ret
        exact ⟨ret_int (by rw [HE.out, HX.out]), rfl⟩
    · obtain rfl : q = n := by omega
      have HE := hid (orV_zero (l := l) (fun j hj => HU.out j (by have := HN.out; omega)))
      go_wp2_with fail
      go_ret
      exact ⟨ret_int HE.out.symm, rfl⟩
end Go.Proofs.Ytdaakigofpehjab.Tr
