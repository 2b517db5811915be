/- What the reference's Join does, of numbers that lie in a slice. -/
import Derived.Test.YtepadldbhjbjaaaDoorRtRefB
namespace Go.Proofs.YtepadldbhjbjaaaDoor.Rt
open Go.RowKit

set_option maxRecDepth 100000 in
set_option maxHeartbeats 2000000 in
theorem rjoin_any (ao : Option Addr) (l : List Int) (cap : Nat) (w : World) (hl : l.length ≤ 100) (hc : Lies w ao l) :
    Calls Tryd.prog 22 #[.slice ao l.length cap] w fun e w' => e = .returned (.tuple #[.int .i64 (joinT l), .int .i64 (listE l)]) ∧ w' = w := by
  have HC : Hid (Lies w ao l) := hc
  clear hc
  obtain ⟨p, hp⟩ : ∃ p : Nat → Bool, p = anyB l := ⟨_, rfl⟩
  have HP : Hid (p = anyB l) := hp
  clear hp
  go_enter Tryd.func22, Tryd.ntmps22
  go_wp2
  go_loop [4, 5] (fun v i => ∃ k : Nat, k ≤ 4 ∧ i = .int .i64 k ∧ v = .int .i64 (bsum p k : Nat) ∧ Hid (k = 0 ∨ l.all isR = true)) (fun _ i => 4 - (intOf i).toNat)
  case atStart => exact ⟨0, by omega, rfl, rfl, .inl rfl⟩
  case round =>
    obtain ⟨k, hk, rfl, rfl, hA⟩ := hrel
    by_cases hlt : k < 4
    · obtain ⟨t, ht⟩ : ∃ t, bsum p k = t := ⟨_, rfl⟩
      have ht16 : t < 16 := by
        have h1 := bsum_lt p k
        have h2 := shl_lt hlt
        omega
      have HS : Hid (bsum p (k + 1) = t + (if p k then 2 ^ k else 0)) := by show bsum p k + _ = _; rw [ht]
      rw [ht]
      clear ht
      go_wp2
      go_loop [6, 7] (fun v i => ∃ n : Nat, n ≤ l.length ∧ i = .int .i64 n ∧ v = .bool (anyB (l.take n) k) ∧ Hid ((l.take n).all isR = true)) (fun _ i => l.length - (intOf i).toNat)
      case atStart => exact ⟨0, Nat.zero_le _, rfl, rfl, rfl⟩
      case round =>
        obtain ⟨n, hn, rfl, rfl, hB⟩ := hrel
        by_cases hnl : n < l.length
        · obtain ⟨a, rfl, hcx⟩ := HC.out n hnl
          obtain ⟨x, hx⟩ : ∃ x, l.getD n 0 = x := ⟨_, rfl⟩
          rw [hx] at hcx
          have HX : Hid (l.getD n 0 = x) := hx
          clear hx
          have HT : Hid (l.take (n + 1) = l.take n ++ [x]) := by rw [← HX.out]; exact take_snocI l n hnl
          cases hb : isR x with
          | true =>
            obtain ⟨m, hm, rfl⟩ := isR_nat hb
            have HM : Hid (m < 16) := hm
            clear hm
            have HA : Hid ((l.take (n + 1)).all isR = true) := by rw [HT.out]; show (l.take n ++ [(m : Int)]).all isR = true; rw [all_snoc, hB.out, hb]; rfl
            have HV : Hid (anyB (l.take (n + 1)) k = (anyB (l.take n) k || hasB m k)) := by rw [HT.out]; show anyB (l.take n ++ [(m : Int)]) k = _; rw [anyB_snoc]; rfl
            cases hv : anyB (l.take n) k with
            | true =>
              go_wp2_with (first | (go_at_call 13; refine (ris_any _ _).mono ?_; rintro e w' ⟨rfl, rfl⟩) | (go_at_call 25; refine (has_any _ _ _ HM.out hlt).mono ?_; rintro e w' ⟨rfl, rfl⟩))
              go_round
              case rel => exact ⟨n + 1, by omega, by go_num, by rw [HV.out, hv]; rfl, HA⟩
              case measure => simp [intOf]; omega
            | false =>
              go_wp2_with (first | (go_at_call 13; refine (ris_any _ _).mono ?_; rintro e w' ⟨rfl, rfl⟩) | (go_at_call 25; refine (has_any _ _ _ HM.out hlt).mono ?_; rintro e w' ⟨rfl, rfl⟩))
              go_round
              case rel => exact ⟨n + 1, by omega, by go_num, by rw [HV.out, hv]; rfl, HA⟩
              case measure => simp [intOf]; omega
          | false =>
            have HZ : Hid (l.all isR = false) := all_false_at l n hnl (by rw [HX.out]; exact hb)
            go_wp2_with (go_at_call 13; refine (ris_any _ _).mono ?_; rintro e w' ⟨rfl, rfl⟩)
            go_ret2
            exact ⟨by simp [joinT, listE, HZ.out], rfl⟩
        · obtain rfl : n = l.length := by omega
          have HZ : Hid (l.all isR = true) := by have := hB.out; rwa [List.take_length] at this
          have hv : anyB (l.take l.length) k = p k := by rw [List.take_length, HP.out]
          rw [hv]
          clear hv
          cases hpk : p k with
          | true =>
            go_wp2
            go_round
            case rel => exact ⟨k + 1, by omega, by go_num, by rw [HS.out, hpk, wrap_sum ht16 hlt]; rfl, .inr HZ.out⟩
            case measure => simp [intOf]; omega
          | false =>
            go_wp2
            go_round
            case rel => exact ⟨k + 1, by omega, by go_num, by rw [HS.out, hpk]; rfl, .inr HZ.out⟩
            case measure => simp [intOf]; omega
    · obtain rfl : k = 4 := by omega
      have HZ : l.all isR = true := by rcases hA.out with h | h; cases h; exact h
      have HM : Hid (joinT l = (bsum p 4 : Nat) ∧ listE l = 0) := by rw [HP.out]; exact ⟨joinT_sum HZ, by simp [listE, HZ]⟩
      clear HZ
      go_wp2
      go_ret2
      exact ⟨ret_int2 HM.out.1.symm HM.out.2.symm, rfl⟩
end Go.Proofs.YtepadldbhjbjaaaDoor.Rt
