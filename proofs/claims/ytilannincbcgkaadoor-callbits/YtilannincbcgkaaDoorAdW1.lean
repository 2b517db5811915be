/- What the program's guardAt, indexAt, isPart, Check do. -/
import Derived.Test.YtilannincbcgkaaDoorAdRParse
namespace Go.Proofs.YtilannincbcgkaaDoor.Ad
open Go.RowKit

set_option maxHeartbeats 400000 in
theorem guardAt_at (k : Nat) (hk : k ≤ 7) (w : World) :
    Calls Tryd.prog 38 #[.int .i64 k] w fun e w' => e = .returned (.int .i64 ((3 + 6 * k : Nat) : Int)) ∧ w' = w := by
  go_enter Tryd.func38, Tryd.ntmps38
  go_wp2
  go_ret
  exact ⟨ret_int (by omega), rfl⟩
set_option maxHeartbeats 400000 in
theorem indexAt_at (k : Nat) (hk : k ≤ 7) (w : World) :
    Calls Tryd.prog 39 #[.int .i64 k] w fun e w' => e = .returned (.int .i64 ((6 + 6 * k : Nat) : Int)) ∧ w' = w := by
  go_enter Tryd.func39, Tryd.ntmps39
  go_wp2_with (go_at_call 38; refine (guardAt_at k hk _).mono ?_; rintro e w' ⟨rfl, rfl⟩)
  go_ret
  exact ⟨ret_int (by omega), rfl⟩
/-- A part of a step. -/
def ptB (v : Int) : Bool := decide (0 ≤ v ∧ v ≤ 7)
theorem pt_iff {v : Int} : ptB v = true ↔ (0 ≤ v ∧ v ≤ 7) := by simp [ptB]
theorem pt_not {v : Int} : ptB v = false ↔ ¬ (0 ≤ v ∧ v ≤ 7) := by simp [ptB]
theorem okS_pt (s : P) : okS s = (ptB s.1 && ptB s.2) := by
  cases h : okS s with
  | true =>
    have := okS_iff.1 h
    rw [pt_iff.2 ⟨this.1, this.2.1⟩, pt_iff.2 ⟨this.2.2.1, this.2.2.2⟩]; rfl
  | false =>
    have := okS_not.1 h
    cases h1 : ptB s.1 with
    | false => rfl
    | true =>
      have h1 := pt_iff.1 h1
      rw [pt_not.2 (fun h2 => this ⟨h1.1, h1.2, h2.1, h2.2⟩)]; rfl
set_option maxHeartbeats 400000 in
theorem isPart_any (v : Int) (w : World) :
    Calls Tryd.prog 44 #[.int .i64 v] w fun e w' => e = .returned (.bool (ptB v)) ∧ w' = w := by
  by_cases h1 : 0 ≤ v
  · by_cases h2 : v ≤ 7
    · have H : Hid (ptB v = true) := pt_iff.2 ⟨h1, h2⟩
      go_enter Tryd.func44, Tryd.ntmps44
      go_wp2
      go_ret
      exact ⟨ret_bool H.out.symm, rfl⟩
    · have H : Hid (ptB v = false) := pt_not.2 (by omega)
      go_enter Tryd.func44, Tryd.ntmps44
      go_wp2
      go_ret
      exact ⟨ret_bool H.out.symm, rfl⟩
  · have H : Hid (ptB v = false) := pt_not.2 (by omega)
    go_enter Tryd.func44, Tryd.ntmps44
    go_wp2
    go_ret
    exact ⟨ret_bool H.out.symm, rfl⟩
set_option maxHeartbeats 400000 in
theorem check_len (ao : Option Addr) (n cap : Nat) (w : World) (h : ¬ (1 ≤ n ∧ n ≤ 4)) :
    Calls Tryd.prog 42 #[.slice ao n cap] w fun e w' => e = .returned (.int .i64 120) ∧ w' = w := by
  by_cases h1 : 1 ≤ n
  · have i1 : ¬ (n : Int) < 1 := by omega
    have i2 : (n : Int) > 4 := by omega
    clear h h1
    go_enter Tryd.func42, Tryd.ntmps42
    go_wp2
    go_ret
    exact ⟨rfl, rfl⟩
  · have i1 : (n : Int) < 1 := by omega
    clear h h1
    go_enter Tryd.func42, Tryd.ntmps42
    go_wp2
    go_ret
    exact ⟨rfl, rfl⟩
set_option maxRecDepth 100000 in
set_option maxHeartbeats 1000000 in
theorem check_in (ao : Option Addr) (n cap : Nat) (l : List P) (w : World) (h1 : 1 ≤ n) (h4 : n ≤ 4) (HL : Hid (HasP w ao n cap l)) :
    Calls Tryd.prog 42 #[.slice ao n cap] w fun e w' => e = .returned (.int .i64 (chkA l)) ∧ Below w.heap.size w w' := by
  go_enter Tryd.func42, Tryd.ntmps42
  go_wp2_with fail
  go_loopw [15] (fun i wr => ∃ k : Nat, k ≤ n ∧ i = .int .i64 k ∧ Hid (∀ j, j < k → okS (l.getD j (0, 0)) = true) ∧ Hid (Below w.heap.size w wr)) (fun i _ => n - (intOf i).toNat)
  case atStart => exact ⟨0, Nat.zero_le _, rfl, fun c hc => absurd hc (by omega), Below.refl _ _⟩
  case round =>
    obtain ⟨k, hk, rfl, HU, HB⟩ := hrel
    have HN := hid HL.out.len
    by_cases hlt : k < n
    · have i1 : (0 : Int) ≤ (k : Int) := by omega
      have i2 : (k : Int) < (n : Int) := by omega
      obtain ⟨a, rfl, ca⟩ := (HL.out.below HB.out).at k hlt
      generalize hx : l.getD k (0, 0) = x at ca
      have HX := hid hx
      clear hx
      obtain ⟨c0, c1⟩ := ca
      cases q1 : ptB x.1 with
      | true =>
        cases q2 : ptB x.2 with
        | true =>
          have HS : Hid (okS x = true) := by unfold Hid; rw [okS_pt, q1, q2]; rfl
          go_wp2_with (go_at_call 44; refine (isPart_any _ _).mono ?_; rintro e w' ⟨rfl, rfl⟩)
          refine ⟨⟨k + 1, by omega, rfl, fun j hj => ?_, q_alloc HB.out _⟩, by simp [intOf]; omega⟩
          rcases Nat.lt_or_ge j k with hjk | hjk
          · exact HU.out j hjk
          · obtain rfl : j = k := by omega
            rw [HX.out]; exact HS.out
        | false =>
          have HS : Hid (chkA l = 120) := by
            unfold Hid chkA
            rw [okA_not (j := k) (by have := HN.out; omega) (by rw [HX.out, okS_pt, q1, q2]; rfl)]; rfl
          go_wp2_with (go_at_call 44; refine (isPart_any _ _).mono ?_; rintro e w' ⟨rfl, rfl⟩)
          go_ret
          exact ⟨ret_int HS.out.symm, q_alloc HB.out _⟩
      | false =>
        have HS : Hid (chkA l = 120) := by
          unfold Hid chkA
          rw [okA_not (j := k) (by have := HN.out; omega) (by rw [HX.out, okS_pt, q1]; rfl)]; rfl
        go_wp2_with (go_at_call 44; refine (isPart_any _ _).mono ?_; rintro e w' ⟨rfl, rfl⟩)
        go_ret
        exact ⟨ret_int HS.out.symm, q_alloc HB.out _⟩
    · obtain rfl : k = n := by omega
      have HS : Hid (chkA l = 0) := by
        unfold Hid chkA
        rw [okA_of (by have := HN.out; omega) (by have := HN.out; omega) (fun j hj => HU.out j (by have := HN.out; omega))]; rfl
      go_wp2_with fail
      go_ret
      exact ⟨ret_int HS.out.symm, HB.out⟩
/-- CHECK, OF WHATEVER STEPS. -/
theorem check_any (ao : Option Addr) (n cap : Nat) (l : List P) (w : World) (h : HasP w ao n cap l) :
    Calls Tryd.prog 42 #[.slice ao n cap] w fun e w' => e = .returned (.int .i64 (chkA l)) ∧ Below w.heap.size w w' := by
  by_cases h1 : 1 ≤ n ∧ n ≤ 4
  · exact check_in ao n cap l w h1.1 h1.2 h
  · refine (check_len ao n cap w h1).mono ?_
    rintro e w' ⟨rfl, rfl⟩
    refine ⟨ret_int ?_, Below.refl _ _⟩
    rw [h.len] at h1
    simp [chkA, okA_len h1]
end Go.Proofs.YtilannincbcgkaaDoor.Ad
