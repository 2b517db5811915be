/- What the document's Is does. -/
import Derived.Test.YtilannincbcgkaaDoorAdSame
namespace Go.Proofs.YtilannincbcgkaaDoor.Ad
open Go.RowKit

set_option maxRecDepth 100000 in
set_option maxHeartbeats 1000000 in
theorem ris_len (ao : Option Addr) (n cap : Nat) (w : World) (h : ¬ (1 ≤ n ∧ n ≤ 4)) :
    Calls Tryd.prog 43 #[.slice ao n cap] w fun e w' => e = .returned (.bool false) ∧ w' = w := by
  by_cases h1 : 1 ≤ n
  · have h2 : ¬ n ≤ 4 := fun q => h ⟨h1, q⟩
    clear h
    go_enter Tryd.func43, Tryd.ntmps43
    go_wp2
    go_ret
    exact ⟨rfl, rfl⟩
  · clear h
    go_enter Tryd.func43, Tryd.ntmps43
    go_wp2
    go_ret
    exact ⟨rfl, rfl⟩
set_option maxRecDepth 100000 in
set_option maxHeartbeats 1000000 in
theorem ris_in (ao : Option Addr) (n cap : Nat) (l : List P) (w : World) (h1 : 1 ≤ n) (h4 : n ≤ 4) (HA : Hid (n = l.length)) (RA : Hid (Row w ao (prs l))) :
    Calls Tryd.prog 43 #[.slice ao n cap] w fun e w' => e = .returned (.bool (okA l)) ∧ ∃ nd, w' = w.drewN nd := by
  go_enter Tryd.func43, Tryd.ntmps43
  go_wp2
  go_loopw [3] (fun i wr => ∃ k : Nat, k ≤ n ∧ i = .int .i64 k ∧ Hid (∀ j, j < k → okS (l.getD j (0, 0)) = true) ∧ ∃ nd, wr = w.drewN nd) (fun i _ => n - (intOf i).toNat)
  case atStart => exact ⟨0, Nat.zero_le _, rfl, fun j h => absurd h (by omega), 0, rfl⟩
  case round =>
    obtain ⟨k, hk, rfl, HT, nd, rfl⟩ := hrel
    by_cases hlt : k < n
    · have i1 : (0 : Int) ≤ (k : Int) := by omega
      have i2 : (k : Int) < (n : Int) := by omega
      obtain ⟨a, rfl, ca⟩ := atP_of RA.out k (by have := HA.out; omega)
      obtain ⟨x, hx⟩ : ∃ x, l.getD k (0, 0) = x := ⟨_, rfl⟩
      rw [hx] at ca
      have HX := hid hx
      clear hx
      obtain ⟨c0, c1⟩ := ca
      by_cases a1 : 0 ≤ x.1
      · by_cases a2 : x.1 ≤ 7
        · by_cases a3 : 0 ≤ x.2
          · by_cases a4 : x.2 ≤ 7
            · go_wp2
              go_roundw
              case rel =>
                refine ⟨k + 1, by omega, by go_num, fun j hj => ?_, _, rfl⟩
                by_cases e : j = k
                · subst e; rw [HX.out]; exact okS_iff.2 ⟨a1, a2, a3, a4⟩
                · exact HT.out j (by omega)
              case measure => simp [intOf]; omega
            · have HR := hid (okA_not (l := l) (j := k) (by have := HA.out; omega) (by rw [HX.out, okS_not]; omega))
              go_wp2
              go_ret
              exact ⟨ret_bool HR.out.symm, _, rfl⟩
          · have HR := hid (okA_not (l := l) (j := k) (by have := HA.out; omega) (by rw [HX.out, okS_not]; omega))
            go_wp2
            go_ret
            exact ⟨ret_bool HR.out.symm, _, rfl⟩
        · have HR := hid (okA_not (l := l) (j := k) (by have := HA.out; omega) (by rw [HX.out, okS_not]; omega))
          go_wp2
          go_ret
          exact ⟨ret_bool HR.out.symm, _, rfl⟩
      · have HR := hid (okA_not (l := l) (j := k) (by have := HA.out; omega) (by rw [HX.out, okS_not]; omega))
        go_wp2
        go_ret
        exact ⟨ret_bool HR.out.symm, _, rfl⟩
    · have HR := hid (okA_of (l := l) (by have := HA.out; omega) (by have := HA.out; omega) (fun j hj => HT.out j (by have := HA.out; omega)))
      go_wp2
      go_ret
      exact ⟨ret_bool HR.out.symm, _, rfl⟩
/-- IS, OF WHATEVER STEPS. -/
theorem ris_any (ao : Option Addr) (n cap : Nat) (l : List P) (w : World) (h : HasP w ao n cap l) :
    Calls Tryd.prog 43 #[.slice ao n cap] w fun e w' => e = .returned (.bool (okA l)) ∧ Below w.heap.size w w' := by
  by_cases q : 1 ≤ n ∧ n ≤ 4
  · refine (ris_in ao n cap l w q.1 q.2 h.len h.row).mono ?_
    rintro e w' ⟨rfl, nd, rfl⟩
    exact ⟨rfl, drewN_below _ _⟩
  · rw [okA_len (by rw [← h.len]; exact q)]
    refine (ris_len ao n cap w q).mono ?_
    rintro e w' ⟨rfl, rfl⟩
    exact ⟨rfl, Below.refl _ _⟩
end Go.Proofs.YtilannincbcgkaaDoor.Ad
