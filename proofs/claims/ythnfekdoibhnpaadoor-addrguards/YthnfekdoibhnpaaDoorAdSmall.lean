/- What num, node, small do. -/
import Derived.Test.YthnfekdoibhnpaaDoorAdBox
namespace Go.Proofs.YthnfekdoibhnpaaDoor.Ad
open Go.RowKit
open Cp (K)

set_option maxHeartbeats 400000 in
theorem num_any (x : Int) (w : World) : Calls Tryd.prog 14 #[.int .i64 x] w fun e w' => e = .returned (.int .i64 x) ∧ w' = w := by
  go_enter Tryd.func14, Tryd.ntmps14
  go_wp2
  go_ret
  exact ⟨rfl, rfl⟩
/-- A capability to a node. -/
def nodeK (o : Int) : K := ⟨2, 15, 0, o, 0⟩
set_option maxHeartbeats 400000 in
theorem node_any (o : Int) (w : World) : Calls Tryd.prog 25 #[.int .i64 o] w fun e w' => e = .returned (.agg #[.int .i64 2, .int .i64 15, .int .i64 0, .int .i64 o, .int .i64 0]) ∧ Below w.heap.size w w' := by
  go_enter Tryd.func25, Tryd.ntmps25
  go_wp2
  refine bodyPost_ret (v := .agg #[.int .i64 2, .int .i64 15, .int .i64 0, .int .i64 o, .int .i64 0]) (by simp [results, Tryd.results25, go_sem]) rfl ⟨rfl, alloc_below _ _⟩
/-- What small tells: if it says so, all is small. -/
def SmP (m n : Nat) (t : List (List K)) (w : World) (e : Ending) (w' : World) : Prop := ∃ b : Bool, e = .returned (.bool b) ∧ (b = true → m ≤ 40 ∧ n ≤ 20 ∧ ∀ j, j < m → (t.getD j []).length ≤ 20) ∧ Below w.heap.size w w'
set_option maxRecDepth 100000 in
set_option maxHeartbeats 1000000 in
theorem small_any (to ao : Option Addr) (m n cap cap' : Nat) (t : List (List K)) (w : World) (HN : Hid (HasN w to m cap' t)) :
    Calls Tryd.prog 18 #[.slice to m cap', .slice ao n cap] w (SmP m n t w) := by
  go_enter Tryd.func18, Tryd.ntmps18
  go_wp2_with fail
  go_loopw [5] (fun i wr => ∃ k : Nat, k ≤ m ∧ k ≤ 41 ∧ i = .int .i64 k ∧ Hid (∀ j, j < k → (t.getD j []).length ≤ 20) ∧ wr = w) (fun i _ => 41 - (intOf i).toNat)
  case atStart => exact ⟨0, Nat.zero_le _, by omega, rfl, fun c hc => absurd hc (by omega), rfl⟩
  case round =>
    obtain ⟨k, hk, hk41, rfl, HU, rfl⟩ := hrel
    by_cases hlt : k < m
    · have i2 : (k : Int) < (m : Int) := by omega
      by_cases h40 : k ≤ 40
      · have i3 : (k : Int) ≤ 40 := by omega
        obtain ⟨a, x, q, c, rfl, hc, hkk⟩ := HN.out.cell k hlt
        have HQ := hid hkk.len
        clear hkk
        by_cases h20 : q ≤ 20
        · have i4 : ¬ (q : Int) > 20 := by omega
          go_wp2_with fail
          go_roundw
          case rel =>
            refine ⟨k + 1, by omega, by omega, by go_num, fun j hj => ?_, trivial⟩
            rcases Nat.lt_or_ge j k with h | h
            · exact HU.out j h
            · obtain rfl : j = k := by omega
              rw [← HQ.out]; exact h20
          case measure => simp [intOf]; omega
        · have i4 : (q : Int) > 20 := by omega
          go_wp2_with fail
          refine bodyPost_ret (v := .bool false) (by simp [results, Tryd.results18, go_sem]) rfl ⟨false, rfl, (fun h => by cases h), Below.refl _ _⟩
      · have i3 : ¬ (k : Int) ≤ 40 := by omega
        have i5 : ¬ (m : Int) ≤ 40 := by omega
        go_wp2_with fail
        refine bodyPost_ret (v := .bool false) (by simp [results, Tryd.results18, go_sem]) rfl ⟨false, rfl, (fun h => by cases h), Below.refl _ _⟩
    · obtain rfl : k = m := by omega
      by_cases h40 : k ≤ 40
      · have i3 : (k : Int) ≤ 40 := by omega
        by_cases h20 : n ≤ 20
        · have i4 : (n : Int) ≤ 20 := by omega
          go_wp2_with fail
          refine bodyPost_ret (v := .bool true) (by simp [results, Tryd.results18, go_sem]) rfl ⟨true, rfl, (fun _ => ⟨h40, h20, HU.out⟩), Below.refl _ _⟩
        · have i4 : ¬ (n : Int) ≤ 20 := by omega
          go_wp2_with fail
          refine bodyPost_ret (v := .bool false) (by simp [results, Tryd.results18, go_sem]) rfl ⟨false, rfl, (fun h => by cases h), Below.refl _ _⟩
      · have i3 : ¬ (k : Int) ≤ 40 := by omega
        go_wp2_with fail
        refine bodyPost_ret (v := .bool false) (by simp [results, Tryd.results18, go_sem]) rfl ⟨false, rfl, (fun h => by cases h), Below.refl _ _⟩
end Go.Proofs.YthnfekdoibhnpaaDoor.Ad
