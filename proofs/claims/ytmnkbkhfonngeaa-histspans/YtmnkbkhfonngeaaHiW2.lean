/- What last does, the program's and the document's; Pending, both. -/
import Derived.Test.YtmnkbkhfonngeaaHiW1
import Derived.WalkMore
namespace Go.Proofs.Ytmnkbkhfonngeaa.Hi
open Go.RowKit

theorem lst_succ_yes {l : List Sp} {c : Int} {n : Nat} (h : (S l n).co = c) : lst l c (n + 1) = some n := by simp only [lst]; rw [if_pos h]
theorem lst_succ_no {l : List Sp} {c : Int} {n : Nat} (h : ¬ (S l n).co = c) : lst l c (n + 1) = lst l c n := by simp only [lst]; rw [if_neg h]
/-- A place, or -1. -/
def plI : Option Nat → Int
  | none => -1
  | some i => i
theorem lastI_is (l : List Sp) (c : Int) : lastI l c = plI (lst l c l.length) := by unfold lastI lastO plI; cases lst l c l.length <;> rfl
set_option maxRecDepth 100000 in
set_option maxHeartbeats 1000000 in
theorem last_any (ao : Option Addr) (n cap : Nat) (l : List Sp) (c : Int) (w : World) (hs : n ≤ 5000) (HH : Hid (HasS w ⟨ao, n, cap⟩ l)) :
    Calls Try.prog 26 #[.slice ao n cap, .int .i64 c] w fun e w' => e = .returned (.int .i64 (lastI l c)) ∧ w' = w := by
  have HN : Hid (n = l.length) := HH.out.len
  go_enter Try.func26, Try.ntmps26
  go_wp2
  go_step3
  go_wp2
  go_step3
  go_wp2
  go_loop [5] (fun i => ∃ q : Nat, q ≤ n ∧ i = .int .i64 ((q : Int) - 1) ∧ Hid (lst l c l.length = lst l c q)) (fun i => (intOf i + 1).toNat)
  case atStart => exact ⟨n, Nat.le_refl _, by go_num, by rw [HN.out]; exact rfl⟩
  case round =>
    obtain ⟨q, hq, rfl, HL⟩ := hrel
    cases q with
    | zero =>
      have HR : Hid (lastI l c = -1) := by unfold Hid; rw [lastI_is, HL.out]; rfl
      have h1 : ¬ (((0 : Nat) : Int) - 1 ≥ 0) := by omega
      go_wp2_with fail
      try rw [Exit.noGoto_ret]
      go_ret
      exact ⟨ret_int HR.out.symm, rfl⟩
    | succ q =>
      have e1 : ((q + 1 : Nat) : Int) - 1 = (q : Int) := by omega
      rw [e1]
      have i1 : (q : Int) ≥ 0 := by omega
      have i2 : (q : Int) < (n : Int) := by omega
      obtain ⟨a, rfl, ca⟩ := atS_of HH.out.row q (by have := HN.out; omega)
      obtain ⟨x, hx⟩ : ∃ x, l.getD q s0 = x := ⟨_, rfl⟩
      have HX := hid hx
      rw [hx] at ca
      have c0 := ca.c0
      clear hx ca
      by_cases hc : x.co = c
      · have HR : Hid (lastI l c = (q : Int)) := by unfold Hid; rw [lastI_is, HL.out, lst_succ_yes (by show (l.getD q s0).co = c; rw [HX.out]; exact hc)]; rfl
        go_wp2_with fail
        try rw [Exit.noGoto_ret]
        go_ret
        exact ⟨ret_int HR.out.symm, rfl⟩
      · have HL2 : Hid (lst l c l.length = lst l c q) := by unfold Hid; rw [HL.out, lst_succ_no (by show ¬ (l.getD q s0).co = c; rw [HX.out]; exact hc)]
        have hcb : (x.co == c) = false := by simpa using hc
        clear hc
        go_wp2_with fail
        go_round
        case rel => exact ⟨q, by omega, by go_num, HL2⟩
        case measure => simp [intOf]
set_option maxRecDepth 100000 in
set_option maxHeartbeats 1000000 in
theorem rlast_any (ao : Option Addr) (n cap : Nat) (l : List Sp) (c : Int) (m : Nat) (w : World) (hs : n ≤ 5000) (hm : m ≤ n) (HH : Hid (HasS w ⟨ao, n, cap⟩ l)) :
    Calls Try.prog 28 #[.slice ao n cap, .int .i64 c, .int .i64 m] w fun e w' => e = .returned (.int .i64 (plI (lst l c m))) ∧ w' = w := by
  have HN : Hid (n = l.length) := HH.out.len
  go_enter Try.func28, Try.ntmps28
  go_wp2_with fail
  go_loop [7] (fun i => ∃ q : Nat, q ≤ m ∧ i = .int .i64 ((q : Int) - 1) ∧ Hid (lst l c m = lst l c q)) (fun i => (intOf i + 1).toNat)
  case atStart => exact ⟨m, Nat.le_refl _, by go_num, rfl⟩
  case round =>
    obtain ⟨q, hq, rfl, HL⟩ := hrel
    cases q with
    | zero =>
      have HR : Hid (plI (lst l c m) = -1) := by unfold Hid; rw [HL.out]; rfl
      have h1 : ¬ (((0 : Nat) : Int) - 1 ≥ 0) := by omega
      go_wp2_with fail
      go_ret
      exact ⟨ret_int HR.out.symm, rfl⟩
    | succ q =>
      have e1 : ((q + 1 : Nat) : Int) - 1 = (q : Int) := by omega
      rw [e1]
      have i1 : (q : Int) ≥ 0 := by omega
      have i2 : (q : Int) < (n : Int) := by omega
      obtain ⟨a, rfl, ca⟩ := atS_of HH.out.row q (by have := HN.out; omega)
      obtain ⟨x, hx⟩ : ∃ x, l.getD q s0 = x := ⟨_, rfl⟩
      have HX := hid hx
      rw [hx] at ca
      have c0 := ca.c0
      clear hx ca
      by_cases hc : x.co = c
      · have HR : Hid (plI (lst l c m) = (q : Int)) := by unfold Hid; rw [HL.out, lst_succ_yes (by show (l.getD q s0).co = c; rw [HX.out]; exact hc)]; rfl
        go_wp2_with fail
        go_ret
        exact ⟨ret_int HR.out.symm, rfl⟩
      · have HL2 : Hid (lst l c m = lst l c q) := by unfold Hid; rw [HL.out, lst_succ_no (by show ¬ (l.getD q s0).co = c; rw [HX.out]; exact hc)]
        have hcb : (x.co == c) = false := by simpa using hc
        clear hc
        go_wp2_with fail
        go_round
        case rel => exact ⟨q, by omega, by go_num, HL2⟩
        case measure => simp [intOf]
end Go.Proofs.Ytmnkbkhfonngeaa.Hi
