/- What the document's Same and Has of keys do. -/
import Derived.Test.YtdaakigofpehjabTrSame
namespace Go.Proofs.Ytdaakigofpehjab.Tr
open Go.RowKit

theorem HasP.kept {S : Nat → Prop} {w w' : World} {ao : Option Addr} {n cap : Nat} {l : List P} (h : HasP w ao n cap l) (k : Kept S w w') (hs : Off S ao (prs l)) : HasP w' ao n cap l := ⟨h.len, h.nil, h.cap, h.row.kept k hs⟩
theorem hasP_nil (w : World) : HasP w none 0 0 [] := ⟨rfl, fun _ => rfl, Nat.le_refl _, row_nil _ _⟩
theorem HasP.at {w : World} {ao : Option Addr} {n cap : Nat} {l : List P} (h : HasP w ao n cap l) (j : Nat) (hj : j < n) : ∃ a, ao = some a ∧ AtP w (a.add (j * 2)) (l.getD j (0, 0)) := atP_of h.row j (by have := h.len; omega)
theorem getD_lt {l : List P} {k : Nat} (h : k < l.length) : l.getD k (0, 0) = l[k] := by simp [List.getD, h]
theorem xtake_snoc (l : List P) (k : Nat) (h : k < l.length) : l.take (k + 1) = l.take k ++ [l.getD k (0, 0)] := by
  rw [List.take_add_one]
  simp [List.getD, h]
theorem take_full {a b : List P} (h : a.length = b.length) (e : a.take a.length = b.take a.length) : a = b := by
  rwa [List.take_length, h, List.take_length] at e
set_option maxRecDepth 100000 in
set_option maxHeartbeats 1000000 in
theorem ksame_len (ao bo : Option Addr) (n m cap cap' : Nat) (w : World) (h : ((n : Int) != (m : Int)) = true) :
    Calls Try.prog 18 #[.slice ao n cap, .slice bo m cap'] w fun e w' => e = .returned (.bool false) ∧ w' = w := by
  go_enter Try.func18, Try.ntmps18
  go_wp2
  go_ret
  exact ⟨rfl, rfl⟩
set_option maxRecDepth 100000 in
set_option maxHeartbeats 1000000 in
theorem ksame_eq (ao bo : Option Addr) (n cap cap' : Nat) (la lb : List P) (w : World) (hs : n ≤ 9223372036854775806) (HA : Hid (n = la.length)) (HB : Hid (n = lb.length)) (RA : Hid (Row w ao (prs la))) (RB : Hid (Row w bo (prs lb))) :
    Calls Try.prog 18 #[.slice ao n cap, .slice bo n cap'] w fun e w' => e = .returned (.bool (decide (la = lb))) ∧ ∃ nd, w' = w.drewN nd := by
  go_enter Try.func18, Try.ntmps18
  go_wp2
  go_loopw [5] (fun i wr => ∃ k : Nat, k ≤ n ∧ i = .int .i64 k ∧ Hid (la.take k = lb.take k) ∧ ∃ nd, wr = w.drewN nd) (fun i _ => n - (intOf i).toNat)
  case atStart => exact ⟨0, Nat.zero_le _, rfl, by simp [Hid], 0, rfl⟩
  case round =>
    obtain ⟨k, hk, rfl, HT, nd, rfl⟩ := hrel
    by_cases hlt : k < n
    · have i1 : (0 : Int) ≤ (k : Int) := by omega
      have i2 : (k : Int) < (n : Int) := by omega
      obtain ⟨a, rfl, ca⟩ := atP_of RA.out k (by have := HA.out; omega)
      obtain ⟨b, rfl, cb⟩ := atP_of RB.out k (by have := HB.out; omega)
      obtain ⟨x, hx⟩ : ∃ x, la.getD k (0, 0) = x := ⟨_, rfl⟩
      obtain ⟨y, hy⟩ : ∃ y, lb.getD k (0, 0) = y := ⟨_, rfl⟩
      rw [hx] at ca
      rw [hy] at cb
      have HX := hid hx
      have HY := hid hy
      clear hx hy
      obtain ⟨c0, c1⟩ := ca
      obtain ⟨d0, d1⟩ := cb
      by_cases hxy : x = y
      · have he := eqk_yes hxy
        have HXY := hid hxy
        clear hxy
        go_wp2
        go_quiet (fail)
        go_wp2
        go_roundw
        case rel => exact ⟨k + 1, by omega, by go_num, by rw [xtake_snoc la k (by have := HA.out; omega), xtake_snoc lb k (by have := HB.out; omega), HT.out, HX.out, HY.out, HXY.out]; exact rfl, _, rfl⟩
        case measure => simp [intOf]; omega
      · have he := eqk_no hxy
        have HXY := hid hxy
        clear hxy
        go_wp2
        go_quiet (fail)
        go_wp2
        go_ret
        exact ⟨ret_bool (decide_eq_false (fun e => HXY.out (by rw [← HX.out, ← HY.out, e]))).symm, _, drewN_add _ _ _⟩
    · obtain rfl : k = n := by omega
      go_wp2
      go_ret
      exact ⟨ret_bool (decide_eq_true (take_full (HA.out.symm.trans HB.out) (by rw [← HA.out]; exact HT.out))).symm, _, rfl⟩
/-- Same: WHETHER TWO LISTS ARE THE SAME. -/
theorem ksame_any (ao bo : Option Addr) (n m cap cap' : Nat) (la lb : List P) (w : World) (hs : n ≤ 9223372036854775806) (hA : HasP w ao n cap la) (hB : HasP w bo m cap' lb) :
    Calls Try.prog 18 #[.slice ao n cap, .slice bo m cap'] w fun e w' => e = .returned (.bool (decide (la = lb))) ∧ Below w.heap.size w w' := by
  by_cases h : n = m
  · subst h
    refine (ksame_eq ao bo n cap cap' la lb w hs hA.len hB.len hA.row hB.row).mono ?_
    rintro e w' ⟨rfl, nd, rfl⟩
    exact ⟨rfl, drewN_below _ _⟩
  · rw [decide_eq_false (p := la = lb) (fun e => h (by rw [hA.len, hB.len, e]))]
    refine (ksame_len ao bo n m cap cap' w (by simp; omega)).mono ?_
    rintro e w' ⟨rfl, rfl⟩
    exact ⟨rfl, Below.refl _ _⟩
theorem ksame_yes {ao bo : Option Addr} {n m cap cap' : Nat} {l : List P} {w : World} (hs : n ≤ 9223372036854775806) (hA : HasP w ao n cap l) (hB : HasP w bo m cap' l) :
    Calls Try.prog 18 #[.slice ao n cap, .slice bo m cap'] w fun e w' => e = .returned (.bool true) ∧ Below w.heap.size w w' := by
  have h := ksame_any ao bo n m cap cap' l l w hs hA hB
  rwa [decide_eq_true rfl] at h
/-- Whether k is one of l. -/
def hasB (l : List P) (k : P) : Bool := decide (k ∈ l)
theorem hasL_yes {l : List P} {k : P} {j : Nat} (hj : j < l.length) (h : l.getD j (0, 0) = k) : hasB l k = true := by
  rw [hasB, decide_eq_true_eq, ← h, getD_lt hj]
  exact List.getElem_mem hj
theorem hasL_no {l : List P} {k : P} (h : ∀ j, j < l.length → ¬ l.getD j (0, 0) = k) : hasB l k = false := by
  rw [hasB, decide_eq_false_iff_not]
  intro hm
  obtain ⟨i, hi, e⟩ := List.getElem_of_mem hm
  exact h i hi (by rw [getD_lt hi]; exact e)
/-! ### Same -/
end Go.Proofs.Ytdaakigofpehjab.Tr
