/- What Rising, Has and Same do: the program's, the document's. -/
import Derived.Test.YthonibklaijejaaOrRef1
namespace Go.Proofs.Ythonibklaijejaa.Or
open Go.RowKit

set_option maxRecDepth 100000 in
set_option maxHeartbeats 1000000 in
/-- RISING: WHETHER EACH IS LESS THAN THE ONE BEHIND IT (the program's). -/
theorem rising_any (ao : Option Addr) (n cap : Nat) (l : List K) (w : World) (hs : n ≤ 9223372036854775806) (HH : Hid (Has w ao n cap l)) :
    Calls Try.prog 22 #[.slice ao n cap] w fun e w' => e = .returned (.bool (riseB l)) ∧ Below w.heap.size w w' := by
  go_enter Try.func22, Try.ntmps22
  go_wp2
  go_loopw [3] (fun i wr => ∃ k : Nat, 1 ≤ k ∧ (k ≤ n ∨ k = 1) ∧ i = .int .i64 k ∧ Hid (Steps l k) ∧ Hid (Below w.heap.size w wr)) (fun i _ => n + 1 - (intOf i).toNat)
  case atStart => exact ⟨1, Nat.le_refl _, .inr rfl, rfl, fun j h1 h2 => absurd h1 (by omega), Below.refl _ _⟩
  case round =>
    obtain ⟨k, h1, hk, rfl, HS, HB⟩ := hrel
    by_cases hlt : k < n
    · have i1 : (0 : Int) ≤ (k : Int) := by omega
      have i2 : (k : Int) < (n : Int) := by omega
      have i3 : (0 : Int) ≤ (k : Int) - 1 := by omega
      have i4 : (k : Int) - 1 < (n : Int) := by omega
      have HN := hid HH.out.len
      obtain ⟨a, rfl, ca⟩ := atK_of (HH.out.row.below HB.out) k (by have := HN.out; omega)
      obtain ⟨b, e, cb⟩ := atK_of (HH.out.row.below HB.out) (k - 1) (by have := HN.out; omega)
      cases e
      obtain ⟨x, hx⟩ : ∃ x, l.getD k (0, 0) = x := ⟨_, rfl⟩
      obtain ⟨y, hy⟩ : ∃ y, l.getD (k - 1) (0, 0) = y := ⟨_, rfl⟩
      rw [hx] at ca
      rw [hy] at cb
      have HX := hid hx
      have HY := hid hy
      clear hx hy
      obtain ⟨f0, f1⟩ := ca.always
      obtain ⟨g0, g1⟩ := cb.always
      have hne : Nonempty (Later wr) := ⟨⟨wr, Below.refl _ _⟩⟩
      clear ca cb
      cases hlt2 : ltK y x with
      | true =>
        have hl := fun W => less_is hlt2 W
        have HL := hid hlt2
        clear hlt2
        go_wp2_with fail
        refine wp_region_later (by kernel_rfl) (by kernel_rfl) ?_
        repeat (go_big_quiet_step ((go_at_call 14; exact later_call (hl _))))
        refine wpQuiet_nil ?_
        rintro w9 ⟨⟨_, b9⟩, rfl⟩
        have HBE := hid (q_trans HB.out b9)
        clear f0 f1 g0 g1 hne b9 hl
        go_wp2_with fail
        go_roundw
        case rel =>
          refine ⟨k + 1, by omega, .inl (by omega), by go_num, fun j j1 j2 => ?_, HBE⟩
          by_cases e : j = k
          · subst e
            rw [HX.out, HY.out]
            exact HL.out
          · exact HS.out j j1 (by omega)
        case measure => simp [intOf]; omega
      | false =>
        have hl := fun W => less_is hlt2 W
        have HL := hid (riseB_not (l := l) h1 (by have := HN.out; omega) (by rw [HX.out, HY.out]; exact hlt2))
        clear hlt2
        go_wp2_with fail
        refine wp_region_later (by kernel_rfl) (by kernel_rfl) ?_
        repeat (go_big_quiet_step ((go_at_call 14; exact later_call (hl _))))
        refine wpQuiet_nil ?_
        rintro w9 ⟨⟨_, b9⟩, rfl⟩
        have HBE := hid (q_trans HB.out b9)
        clear f0 f1 g0 g1 hne b9 hl
        go_wp2_with fail
        go_ret
        exact ⟨ret_bool HL.out.symm, HBE.out⟩
    · have HR : Hid (riseB l = true) := riseB_steps.2 (fun j h1 h2 => HS.out j h1 (by have := HH.out.len; omega))
      go_wp2
      go_ret
      exact ⟨ret_bool HR.out.symm, HB.out⟩
set_option maxRecDepth 100000 in
set_option maxHeartbeats 1000000 in
/-- RISING: WHETHER EACH IS LESS THAN THE ONE BEHIND IT (the document's). -/
theorem rrising_any (ao : Option Addr) (n cap : Nat) (l : List K) (w : World) (hs : n ≤ 9223372036854775806) (HH : Hid (Has w ao n cap l)) :
    Calls Try.prog 23 #[.slice ao n cap] w fun e w' => e = .returned (.bool (riseB l)) ∧ Below w.heap.size w w' := by
  go_enter Try.func23, Try.ntmps23
  go_wp2
  go_loopw [3] (fun i wr => ∃ k : Nat, 1 ≤ k ∧ (k ≤ n ∨ k = 1) ∧ i = .int .i64 k ∧ Hid (Steps l k) ∧ Hid (Below w.heap.size w wr)) (fun i _ => n + 1 - (intOf i).toNat)
  case atStart => exact ⟨1, Nat.le_refl _, .inr rfl, rfl, fun j h1 h2 => absurd h1 (by omega), Below.refl _ _⟩
  case round =>
    obtain ⟨k, h1, hk, rfl, HS, HB⟩ := hrel
    by_cases hlt : k < n
    · have i1 : (0 : Int) ≤ (k : Int) := by omega
      have i2 : (k : Int) < (n : Int) := by omega
      have i3 : (0 : Int) ≤ (k : Int) - 1 := by omega
      have i4 : (k : Int) - 1 < (n : Int) := by omega
      have HN := hid HH.out.len
      obtain ⟨a, rfl, ca⟩ := atK_of (HH.out.row.below HB.out) k (by have := HN.out; omega)
      obtain ⟨b, e, cb⟩ := atK_of (HH.out.row.below HB.out) (k - 1) (by have := HN.out; omega)
      cases e
      obtain ⟨x, hx⟩ : ∃ x, l.getD k (0, 0) = x := ⟨_, rfl⟩
      obtain ⟨y, hy⟩ : ∃ y, l.getD (k - 1) (0, 0) = y := ⟨_, rfl⟩
      rw [hx] at ca
      rw [hy] at cb
      have HX := hid hx
      have HY := hid hy
      clear hx hy
      obtain ⟨f0, f1⟩ := ca.always
      obtain ⟨g0, g1⟩ := cb.always
      have hne : Nonempty (Later wr) := ⟨⟨wr, Below.refl _ _⟩⟩
      clear ca cb
      cases hlt2 : ltK y x with
      | true =>
        have hl := fun W => rless_is hlt2 W
        have HL := hid hlt2
        clear hlt2
        go_wp2_with fail
        refine wp_region_later (by kernel_rfl) (by kernel_rfl) ?_
        repeat (go_big_quiet_step ((go_at_call 15; exact later_call (hl _))))
        refine wpQuiet_nil ?_
        rintro w9 ⟨⟨_, b9⟩, rfl⟩
        have HBE := hid (q_trans HB.out b9)
        clear f0 f1 g0 g1 hne b9 hl
        go_wp2_with fail
        go_roundw
        case rel =>
          refine ⟨k + 1, by omega, .inl (by omega), by go_num, fun j j1 j2 => ?_, HBE⟩
          by_cases e : j = k
          · subst e
            rw [HX.out, HY.out]
            exact HL.out
          · exact HS.out j j1 (by omega)
        case measure => simp [intOf]; omega
      | false =>
        have hl := fun W => rless_is hlt2 W
        have HL := hid (riseB_not (l := l) h1 (by have := HN.out; omega) (by rw [HX.out, HY.out]; exact hlt2))
        clear hlt2
        go_wp2_with fail
        refine wp_region_later (by kernel_rfl) (by kernel_rfl) ?_
        repeat (go_big_quiet_step ((go_at_call 15; exact later_call (hl _))))
        refine wpQuiet_nil ?_
        rintro w9 ⟨⟨_, b9⟩, rfl⟩
        have HBE := hid (q_trans HB.out b9)
        clear f0 f1 g0 g1 hne b9 hl
        go_wp2_with fail
        go_ret
        exact ⟨ret_bool HL.out.symm, HBE.out⟩
    · have HR : Hid (riseB l = true) := riseB_steps.2 (fun j h1 h2 => HS.out j h1 (by have := HH.out.len; omega))
      go_wp2
      go_ret
      exact ⟨ret_bool HR.out.symm, HB.out⟩
/-- Whether k is one of l. -/
def hasB (l : List K) (k : K) : Bool := decide (k ∈ l)
theorem has_yes {l : List K} {k : K} {j : Nat} (hj : j < l.length) (h : l.getD j (0, 0) = k) : hasB l k = true := by
  rw [hasB, decide_eq_true_eq, ← h, getD_lt hj]
  exact List.getElem_mem hj
theorem has_no {l : List K} {k : K} (h : ∀ j, j < l.length → ¬ l.getD j (0, 0) = k) : hasB l k = false := by
  rw [hasB, decide_eq_false_iff_not]
  intro hm
  obtain ⟨i, hi, e⟩ := List.getElem_of_mem hm
  exact h i hi (by rw [getD_lt hi]; exact e)
set_option maxRecDepth 100000 in
set_option maxHeartbeats 1000000 in
theorem has_any (ao : Option Addr) (n cap : Nat) (l : List K) (x : K) (w : World) (hs : n ≤ 9223372036854775806) (HH : Hid (Has w ao n cap l)) :
    Calls Try.prog 24 #[.slice ao n cap, (.agg #[.int .i64 x.1, .int .i64 x.2])] w fun e w' => e = .returned (.bool (hasB l x)) ∧ Below w.heap.size w w' := by
  go_enter Try.func24, Try.ntmps24
  go_wp2
  go_loopw [9] (fun i wr => ∃ k : Nat, k ≤ n ∧ i = .int .i64 k ∧ Hid (∀ j, j < k → ¬ l.getD j (0, 0) = x) ∧ Hid (Below (w.heap.size + 1) (w.alloc (.cells #[.int .i64 x.1, .int .i64 x.2] 23)) wr)) (fun i _ => n - (intOf i).toNat)
  case atStart => exact ⟨0, Nat.zero_le _, rfl, fun j h => absurd h (by omega), Below.refl _ _⟩
  case round =>
    obtain ⟨k, hk, rfl, HS, HB⟩ := hrel
    have hsz : (w.alloc (.cells #[.int .i64 x.1, .int .i64 x.2] 23)).heap.size = w.heap.size + 1 := by simp
    have HW : Hid (Below w.heap.size w wr) := q_trans (alloc_below w _) (by rw [hsz]; exact HB.out)
    by_cases hlt : k < n
    · have i1 : (0 : Int) ≤ (k : Int) := by omega
      have i2 : (k : Int) < (n : Int) := by omega
      have HN := hid HH.out.len
      obtain ⟨a, rfl, ca⟩ := atK_of (HH.out.row.below HW.out) k (by have := HN.out; omega)
      obtain ⟨y, hy⟩ : ∃ y, l.getD k (0, 0) = y := ⟨_, rfl⟩
      rw [hy] at ca
      have HY := hid hy
      clear hy
      obtain ⟨c0, c1⟩ := ca
      obtain ⟨d0, d1⟩ := (at_new w x 23).below (w' := wr) (by rw [hsz]; exact HB.out)
      have hlw : w.heap.size + 1 ≤ wr.heap.size := by have := HB.out.size; rwa [hsz] at this
      have hlw2 : w.heap.size < wr.heap.size := by omega
      clear hsz
      by_cases hxy : y = x
      · have he := eq_yes hxy
        have HR := hid (has_yes (l := l) (k := x) (j := k) (by have := HN.out; omega) (by rw [HY.out, hxy]))
        clear hxy
        go_wp2
        go_ret
        exact ⟨ret_bool HR.out.symm, q_alloc HW.out _⟩
      · have he := eq_no hxy
        have HXY := hid hxy
        clear hxy
        go_wp2
        go_roundw
        case rel =>
          refine ⟨k + 1, by omega, by go_num, fun j hj => ?_, HB.out.alloc hlw _⟩
          by_cases e : j = k
          · subst e
            rw [HY.out]
            exact HXY.out
          · exact HS.out j (by omega)
        case measure => simp [intOf]; omega
    · have HR := hid (has_no (l := l) (k := x) (fun j hj => HS.out j (by have := HH.out.len; omega)))
      clear hsz
      go_wp2
      go_ret
      exact ⟨ret_bool HR.out.symm, HW.out⟩
set_option maxRecDepth 100000 in
set_option maxHeartbeats 1000000 in
theorem rhas_any (ao : Option Addr) (n cap : Nat) (l : List K) (x : K) (w : World) (hs : n ≤ 9223372036854775806) (HH : Hid (Has w ao n cap l)) :
    Calls Try.prog 25 #[.slice ao n cap, (.agg #[.int .i64 x.1, .int .i64 x.2])] w fun e w' => e = .returned (.bool (hasB l x)) ∧ Below w.heap.size w w' := by
  go_enter Try.func25, Try.ntmps25
  go_wp2
  generalize hW : w.alloc _ = W
  have HW : Hid (Below w.heap.size w W) := by rw [← hW]; exact alloc_below w _
  have HX : Hid (AtK W ⟨w.heap.size, 0, none⟩ x) := by rw [← hW]; exact at_new w x _
  clear hW
  go_loopw [5] (fun i wr => ∃ k : Nat, k ≤ n ∧ i = .int .i64 k ∧ Hid (∀ j, j < k → ¬ l.getD j (0, 0) = x) ∧ ∃ q, wr = W.drewN q) (fun i _ => n - (intOf i).toNat)
  case atStart => exact ⟨0, Nat.zero_le _, rfl, fun j h => absurd h (by omega), 0, rfl⟩
  case round =>
    obtain ⟨k, hk, rfl, HS, q, rfl⟩ := hrel
    by_cases hlt : k < n
    · have i1 : (0 : Int) ≤ (k : Int) := by omega
      have i2 : (k : Int) < (n : Int) := by omega
      have HN := hid HH.out.len
      obtain ⟨a, rfl, ca⟩ := atK_of (HH.out.row.below HW.out) k (by have := HN.out; omega)
      obtain ⟨y, hy⟩ : ∃ y, l.getD k (0, 0) = y := ⟨_, rfl⟩
      rw [hy] at ca
      have HY := hid hy
      clear hy
      obtain ⟨c0, c1⟩ := ca
      obtain ⟨d0, d1⟩ := HX.out
      by_cases hxy : y = x
      · have he := eq_yes hxy
        have HR := hid (has_yes (l := l) (k := x) (j := k) (by have := HN.out; omega) (by rw [HY.out, hxy]))
        clear hxy
        go_wp2
        go_quiet (fail)
        go_wp2
        go_ret
        exact ⟨ret_bool HR.out.symm, q_drewN (q_drewN HW.out _) _⟩
      · have he := eq_no hxy
        have HXY := hid hxy
        clear hxy
        go_wp2
        go_quiet (fail)
        go_wp2
        go_roundw
        case rel =>
          refine ⟨k + 1, by omega, by go_num, fun j hj => ?_, _, rfl⟩
          by_cases e : j = k
          · subst e
            rw [HY.out]
            exact HXY.out
          · exact HS.out j (by omega)
        case measure => simp [intOf]; omega
    · have HR := hid (has_no (l := l) (k := x) (fun j hj => HS.out j (by have := HH.out.len; omega)))
      go_wp2
      go_ret
      exact ⟨ret_bool HR.out.symm, q_drewN HW.out _⟩

/-! ### Same -/
theorem drewN_below (w : World) (n : Nat) : Below w.heap.size w (w.drewN n) := ⟨rfl, rfl, rfl, Nat.le_refl _, fun _ _ => rfl⟩
theorem drewN_add (w : World) (a b : Nat) : (w.drewN a).drewN b = w.drewN (a + b) := by simp [World.drewN, Nat.add_assoc]
theorem take_snoc (l : List K) (k : Nat) (h : k < l.length) : l.take (k + 1) = l.take k ++ [l.getD k (0, 0)] := by
  rw [List.take_add_one, getD_lt h]
  simp [h]
theorem take_full {a b : List K} (h : a.length = b.length) (e : a.take a.length = b.take a.length) : a = b := by
  rwa [List.take_length, h, List.take_length] at e
set_option maxRecDepth 100000 in
set_option maxHeartbeats 1000000 in
theorem same_len (ao bo : Option Addr) (n m cap cap' : Nat) (w : World) (h : ((n : Int) != (m : Int)) = true) :
    Calls Try.prog 21 #[.slice ao n cap, .slice bo m cap'] w fun e w' => e = .returned (.bool false) ∧ w' = w := by
  go_enter Try.func21, Try.ntmps21
  go_wp2
  go_ret
  exact ⟨rfl, rfl⟩
set_option maxRecDepth 100000 in
set_option maxHeartbeats 1000000 in
theorem same_eq (ao bo : Option Addr) (n cap cap' : Nat) (la lb : List K) (w : World) (hs : n ≤ 9223372036854775806) (HA : Hid (n = la.length)) (HB : Hid (n = lb.length)) (RA : Hid (Row w ao (keys la))) (RB : Hid (Row w bo (keys lb))) :
    Calls Try.prog 21 #[.slice ao n cap, .slice bo n cap'] w fun e w' => e = .returned (.bool (decide (la = lb))) ∧ ∃ nd, w' = w.drewN nd := by
  go_enter Try.func21, Try.ntmps21
  go_wp2
  go_loopw [5] (fun i wr => ∃ k : Nat, k ≤ n ∧ i = .int .i64 k ∧ Hid (la.take k = lb.take k) ∧ ∃ nd, wr = w.drewN nd) (fun i _ => n - (intOf i).toNat)
  case atStart => exact ⟨0, Nat.zero_le _, rfl, by simp [Hid], 0, rfl⟩
  case round =>
    obtain ⟨k, hk, rfl, HT, nd, rfl⟩ := hrel
    by_cases hlt : k < n
    · have i1 : (0 : Int) ≤ (k : Int) := by omega
      have i2 : (k : Int) < (n : Int) := by omega
      obtain ⟨a, rfl, ca⟩ := atK_of RA.out k (by have := HA.out; omega)
      obtain ⟨b, rfl, cb⟩ := atK_of RB.out k (by have := HB.out; omega)
      obtain ⟨x, hx⟩ : ∃ x, la.getD k (0, 0) = x := ⟨_, rfl⟩
      obtain ⟨y, hy⟩ : ∃ y, lb.getD k (0, 0) = y := ⟨_, rfl⟩
      rw [hx] at ca
      rw [hy] at cb
      have HX := hid hx
      have HY := hid hy
      clear hx hy
      obtain ⟨c0, c1⟩ := ca
      obtain ⟨d0, d1⟩ := cb
      by_cases hxy : x = y
      · have he := eq_yes hxy
        have HXY := hid hxy
        clear hxy
        go_wp2
        go_quiet (fail)
        go_wp2
        go_roundw
        case rel => exact ⟨k + 1, by omega, by go_num, by rw [take_snoc la k (by have := HA.out; omega), take_snoc lb k (by have := HB.out; omega), HT.out, HX.out, HY.out, HXY.out]; exact rfl, _, rfl⟩
        case measure => simp [intOf]; omega
      · have he := eq_no hxy
        have HXY := hid hxy
        clear hxy
        go_wp2
        go_quiet (fail)
        go_wp2
        go_ret
        exact ⟨ret_bool (decide_eq_false (fun e => HXY.out (by rw [← HX.out, ← HY.out, e]))).symm, _, drewN_add _ _ _⟩
    · obtain rfl : k = n := by omega
      go_wp2
      go_ret
      exact ⟨ret_bool (decide_eq_true (take_full (HA.out.symm.trans HB.out) (by rw [← HA.out]; exact HT.out))).symm, _, rfl⟩
/-- Same: WHETHER TWO LISTS ARE THE SAME. -/
theorem same_any (ao bo : Option Addr) (n m cap cap' : Nat) (la lb : List K) (w : World) (hs : n ≤ 9223372036854775806) (hA : Has w ao n cap la) (hB : Has w bo m cap' lb) :
    Calls Try.prog 21 #[.slice ao n cap, .slice bo m cap'] w fun e w' => e = .returned (.bool (decide (la = lb))) ∧ Below w.heap.size w w' := by
  by_cases h : n = m
  · subst h
    refine (same_eq ao bo n cap cap' la lb w hs hA.len hB.len hA.row hB.row).mono ?_
    rintro e w' ⟨rfl, nd, rfl⟩
    exact ⟨rfl, drewN_below _ _⟩
  · rw [decide_eq_false (p := la = lb) (fun e => h (by rw [hA.len, hB.len, e]))]
    refine (same_len ao bo n m cap cap' w (by simp; omega)).mono ?_
    rintro e w' ⟨rfl, rfl⟩
    exact ⟨rfl, Below.refl _ _⟩
theorem same_yes {ao bo : Option Addr} {n m cap cap' : Nat} {l : List K} {w : World} (hs : n ≤ 9223372036854775806) (hA : Has w ao n cap l) (hB : Has w bo m cap' l) :
    Calls Try.prog 21 #[.slice ao n cap, .slice bo m cap'] w fun e w' => e = .returned (.bool true) ∧ Below w.heap.size w w' := by
  have h := same_any ao bo n m cap cap' l l w hs hA hB
  rwa [decide_eq_true rfl] at h
end Go.Proofs.Ythonibklaijejaa.Or
