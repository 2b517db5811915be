/- What the document's Same (of branches, of keys) and Has do. -/
import Derived.Test.YtdaakigofpehjaaTrMem
namespace Go.Proofs.Ytdaakigofpehjaa.Tr
open Go.RowKit

theorem drewN_below (w : World) (n : Nat) : Below w.heap.size w (w.drewN n) := ⟨rfl, rfl, rfl, Nat.le_refl _, fun _ _ => rfl⟩
theorem drewN_add (w : World) (a b : Nat) : (w.drewN a).drewN b = w.drewN (a + b) := by simp [World.drewN, Nat.add_assoc]
theorem btake_snoc (l : List Br) (k : Nat) (h : k < l.length) : l.take (k + 1) = l.take k ++ [l.getD k zB] := by
  rw [List.take_add_one]
  simp [List.getD, h]
theorem btake_full {a b : List Br} (h : a.length = b.length) (e : a.take a.length = b.take a.length) : a = b := by
  rwa [List.take_length, h, List.take_length] at e
set_option maxRecDepth 100000 in
set_option maxHeartbeats 1000000 in
theorem bsame_len (ao bo : Option Addr) (n m cap cap' : Nat) (w : World) (h : ((n : Int) != (m : Int)) = true) :
    Calls Try.prog 12 #[.slice ao n cap, .slice bo m cap'] w fun e w' => e = .returned (.bool false) ∧ w' = w := by
  go_enter Try.func12, Try.ntmps12
  go_wp2
  go_ret
  exact ⟨rfl, rfl⟩
set_option maxRecDepth 100000 in
set_option maxHeartbeats 1000000 in
theorem bsame_eq (ao bo : Option Addr) (n cap cap' : Nat) (la lb : List Br) (w : World) (hs : n ≤ 9223372036854775806) (HA : Hid (n = la.length)) (HB : Hid (n = lb.length)) (RA : Hid (Row w ao (brs la))) (RB : Hid (Row w bo (brs lb))) :
    Calls Try.prog 12 #[.slice ao n cap, .slice bo n cap'] w fun e w' => e = .returned (.bool (decide (la = lb))) ∧ ∃ nd, w' = w.drewN nd := by
  go_enter Try.func12, Try.ntmps12
  go_wp2
  go_loopw [5] (fun i wr => ∃ k : Nat, k ≤ n ∧ i = .int .i64 k ∧ Hid (la.take k = lb.take k) ∧ ∃ nd, wr = w.drewN nd) (fun i _ => n - (intOf i).toNat)
  case atStart => exact ⟨0, Nat.zero_le _, rfl, by simp [Hid], 0, rfl⟩
  case round =>
    obtain ⟨k, hk, rfl, HT, nd, rfl⟩ := hrel
    by_cases hlt : k < n
    · have i1 : (0 : Int) ≤ (k : Int) := by omega
      have i2 : (k : Int) < (n : Int) := by omega
      obtain ⟨a, rfl, ca⟩ := atB_of RA.out k (by have := HA.out; omega)
      obtain ⟨b, rfl, cb⟩ := atB_of RB.out k (by have := HB.out; omega)
      obtain ⟨x, hx⟩ : ∃ x, la.getD k zB = x := ⟨_, rfl⟩
      obtain ⟨y, hy⟩ : ∃ y, lb.getD k zB = y := ⟨_, rfl⟩
      rw [hx] at ca
      rw [hy] at cb
      have HX := hid hx
      have HY := hid hy
      clear hx hy
      obtain ⟨c0, c1, c2, c3⟩ := ca
      obtain ⟨d0, d1, d2, d3⟩ := cb
      by_cases hxy : x = y
      · have he := eqb_yes hxy
        have HXY := hid hxy
        clear hxy
        go_wp2
        go_quiet (fail)
        go_wp2
        go_roundw
        case rel => exact ⟨k + 1, by omega, by go_num, by rw [btake_snoc la k (by have := HA.out; omega), btake_snoc lb k (by have := HB.out; omega), HT.out, HX.out, HY.out, HXY.out]; exact rfl, _, rfl⟩
        case measure => simp [intOf]; omega
      · have he := eqb_no hxy
        have HXY := hid hxy
        clear hxy
        go_wp2
        go_quiet (fail)
        go_wp2
        go_ret
        exact ⟨ret_bool (decide_eq_false (fun e => HXY.out (by rw [← HX.out, ← HY.out, e]))).symm, _, drewN_add _ _ _⟩
    · obtain rfl : k = n := by omega
      go_wp2
      go_ret
      exact ⟨ret_bool (decide_eq_true (btake_full (HA.out.symm.trans HB.out) (by rw [← HA.out]; exact HT.out))).symm, _, rfl⟩
/-- Same: WHETHER TWO LISTS ARE THE SAME. -/
theorem bsame_any (ao bo : Option Addr) (n m cap cap' : Nat) (la lb : List Br) (w : World) (hs : n ≤ 9223372036854775806) (hA : HasB w ao n cap la) (hB : HasB w bo m cap' lb) :
    Calls Try.prog 12 #[.slice ao n cap, .slice bo m cap'] w fun e w' => e = .returned (.bool (decide (la = lb))) ∧ Below w.heap.size w w' := by
  by_cases h : n = m
  · subst h
    refine (bsame_eq ao bo n cap cap' la lb w hs hA.len hB.len hA.row hB.row).mono ?_
    rintro e w' ⟨rfl, nd, rfl⟩
    exact ⟨rfl, drewN_below _ _⟩
  · rw [decide_eq_false (p := la = lb) (fun e => h (by rw [hA.len, hB.len, e]))]
    refine (bsame_len ao bo n m cap cap' w (by simp; omega)).mono ?_
    rintro e w' ⟨rfl, rfl⟩
    exact ⟨rfl, Below.refl _ _⟩
theorem bsame_yes {ao bo : Option Addr} {n m cap cap' : Nat} {l : List Br} {w : World} (hs : n ≤ 9223372036854775806) (hA : HasB w ao n cap l) (hB : HasB w bo m cap' l) :
    Calls Try.prog 12 #[.slice ao n cap, .slice bo m cap'] w fun e w' => e = .returned (.bool true) ∧ Below w.heap.size w w' := by
  have h := bsame_any ao bo n m cap cap' l l w hs hA hB
  rwa [decide_eq_true rfl] at h
end Go.Proofs.Ytdaakigofpehjaa.Tr
