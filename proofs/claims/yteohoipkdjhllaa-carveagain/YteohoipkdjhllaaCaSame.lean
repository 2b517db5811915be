/- What the document's Same does. -/
import Derived.Test.YteohoipkdjhllaaCaMany
namespace Go.Proofs.Yteohoipkdjhllaa.Ca
open Go.RowKit

theorem drewN_below (w : World) (n : Nat) : Below w.heap.size w (w.drewN n) := ⟨rfl, rfl, rfl, Nat.le_refl _, fun _ _ => rfl⟩
theorem drewN_add (w : World) (a b : Nat) : (w.drewN a).drewN b = w.drewN (a + b) := by simp [World.drewN, Nat.add_assoc]
theorem getD_lt {l : List X} {k : Nat} (h : k < l.length) : l.getD k (0, 0) = l[k] := by simp [List.getD, h]
theorem xtake_snoc (l : List X) (k : Nat) (h : k < l.length) : l.take (k + 1) = l.take k ++ [l.getD k (0, 0)] := by
  rw [List.take_add_one]
  simp [List.getD, h]
theorem take_full {a b : List X} (h : a.length = b.length) (e : a.take a.length = b.take a.length) : a = b := by
  rwa [List.take_length, h, List.take_length] at e
set_option maxRecDepth 100000 in
set_option maxHeartbeats 1000000 in
theorem same_len (ao bo : Option Addr) (n m cap cap' : Nat) (w : World) (h : ((n : Int) != (m : Int)) = true) :
    Calls Try.prog 25 #[.slice ao n cap, .slice bo m cap'] w fun e w' => e = .returned (.bool false) ∧ w' = w := by
  go_enter Try.func25, Try.ntmps25
  go_wp2
  go_ret
  exact ⟨rfl, rfl⟩
set_option maxRecDepth 100000 in
set_option maxHeartbeats 1000000 in
theorem same_eq (ao bo : Option Addr) (n cap cap' : Nat) (la lb : List X) (w : World) (hs : n ≤ 9223372036854775806) (HA : Hid (n = la.length)) (HB : Hid (n = lb.length)) (RA : Hid (Row w ao (exts la))) (RB : Hid (Row w bo (exts lb))) :
    Calls Try.prog 25 #[.slice ao n cap, .slice bo n cap'] w fun e w' => e = .returned (.bool (decide (la = lb))) ∧ ∃ nd, w' = w.drewN nd := by
  go_enter Try.func25, Try.ntmps25
  go_wp2
  go_loopw [5] (fun i wr => ∃ k : Nat, k ≤ n ∧ i = .int .i64 k ∧ Hid (la.take k = lb.take k) ∧ ∃ nd, wr = w.drewN nd) (fun i _ => n - (intOf i).toNat)
  case atStart => exact ⟨0, Nat.zero_le _, rfl, by simp [Hid], 0, rfl⟩
  case round =>
    obtain ⟨k, hk, rfl, HT, nd, rfl⟩ := hrel
    by_cases hlt : k < n
    · have i1 : (0 : Int) ≤ (k : Int) := by omega
      have i2 : (k : Int) < (n : Int) := by omega
      obtain ⟨a, rfl, ca⟩ := atX_of RA.out k (by have := HA.out; omega)
      obtain ⟨b, rfl, cb⟩ := atX_of RB.out k (by have := HB.out; omega)
      obtain ⟨x, hx⟩ : ∃ x, la.getD k (0, 0) = x := ⟨_, rfl⟩
      obtain ⟨y, hy⟩ : ∃ y, lb.getD k (0, 0) = y := ⟨_, rfl⟩
      rw [hx] at ca
      rw [hy] at cb
      have HX := hid hx
      have HY := hid hy
      clear hx hy
      obtain ⟨c0, c1⟩ := ca
      obtain ⟨d0, d1⟩ := cb
      by_cases hxy : x = y
      · have he := eq_yes hxy
        have HXY := hid hxy
        clear hxy
        go_wp2
        go_quiet (fail)
        go_wp2
        go_roundw
        case rel => exact ⟨k + 1, by omega, by go_num, by rw [xtake_snoc la k (by have := HA.out; omega), xtake_snoc lb k (by have := HB.out; omega), HT.out, HX.out, HY.out, HXY.out]; exact rfl, _, rfl⟩
        case measure => simp [intOf]; omega
      · have he := eq_no hxy
        have HXY := hid hxy
        clear hxy
        go_wp2
        go_quiet (fail)
        go_wp2
        go_ret
        exact ⟨ret_bool (decide_eq_false (fun e => HXY.out (by rw [← HX.out, ← HY.out, e]))).symm, _, drewN_add _ _ _⟩
    · obtain rfl : k = n := by omega
      go_wp2
      go_ret
      exact ⟨ret_bool (decide_eq_true (take_full (HA.out.symm.trans HB.out) (by rw [← HA.out]; exact HT.out))).symm, _, rfl⟩
/-- Same: WHETHER TWO LISTS ARE THE SAME. -/
theorem same_any (ao bo : Option Addr) (n m cap cap' : Nat) (la lb : List X) (w : World) (hs : n ≤ 9223372036854775806) (hA : HasX w ao n cap la) (hB : HasX w bo m cap' lb) :
    Calls Try.prog 25 #[.slice ao n cap, .slice bo m cap'] w fun e w' => e = .returned (.bool (decide (la = lb))) ∧ Below w.heap.size w w' := by
  by_cases h : n = m
  · subst h
    refine (same_eq ao bo n cap cap' la lb w hs hA.len hB.len hA.row hB.row).mono ?_
    rintro e w' ⟨rfl, nd, rfl⟩
    exact ⟨rfl, drewN_below _ _⟩
  · rw [decide_eq_false (p := la = lb) (fun e => h (by rw [hA.len, hB.len, e]))]
    refine (same_len ao bo n m cap cap' w (by simp; omega)).mono ?_
    rintro e w' ⟨rfl, rfl⟩
    exact ⟨rfl, Below.refl _ _⟩
theorem same_yes {ao bo : Option Addr} {n m cap cap' : Nat} {l : List X} {w : World} (hs : n ≤ 9223372036854775806) (hA : HasX w ao n cap l) (hB : HasX w bo m cap' l) :
    Calls Try.prog 25 #[.slice ao n cap, .slice bo m cap'] w fun e w' => e = .returned (.bool true) ∧ Below w.heap.size w w' := by
  have h := same_any ao bo n m cap cap' l l w hs hA hB
  rwa [decide_eq_true rfl] at h
end Go.Proofs.Yteohoipkdjhllaa.Ca
