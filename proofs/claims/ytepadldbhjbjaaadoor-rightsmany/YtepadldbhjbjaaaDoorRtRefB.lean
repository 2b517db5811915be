/- What the reference's Meet and Join do, of numbers that lie in a slice. -/
import Derived.Test.YtepadldbhjbjaaaDoorRtRefA
namespace Go.Proofs.YtepadldbhjbjaaaDoor.Rt
open Go.RowKit

def hasI (x : Int) (k : Nat) : Bool := hasB x.toNat k
def allB (l : List Int) (k : Nat) : Bool := l.all fun x => hasI x k
def anyB (l : List Int) (k : Nat) : Bool := l.any fun x => hasI x k
theorem self_fin : ∀ m : Fin 16, m.val = bsum (fun k => hasB m k) 4 := by decide +kernel
theorem and_lt : ∀ m x : Fin 16, m.val &&& x.val < 16 := by decide +kernel
theorem or_lt : ∀ m x : Fin 16, m.val ||| x.val < 16 := by decide +kernel
theorem and_has : ∀ (m x : Fin 16) (k : Fin 4), hasB (m.val &&& x.val) k = (hasB m k && hasB x k) := by decide +kernel
theorem or_has : ∀ (m x : Fin 16) (k : Fin 4), hasB (m.val ||| x.val) k = (hasB m k || hasB x k) := by decide +kernel
theorem meet_sum (l : List Int) : ∀ (m : Nat) (_ : m < 16) (_ : l.all isR = true), meetF m l = (bsum (fun k => hasB m k && allB l k) 4 : Nat) := by
  induction l with
  | nil =>
    intro m hm _
    have := self_fin ⟨m, hm⟩
    simp only at this
    show (m : Int) = _
    rw [bsum_congr (fun k => hasB m k && allB [] k) (fun k => hasB m k) 4 (fun j _ => by simp [allB]), ← this]
  | cons x r ih =>
    intro m hm hl
    simp only [List.all_cons, Bool.and_eq_true] at hl
    obtain ⟨n, hn, rfl⟩ := isR_nat hl.1
    have hb := band_fin ⟨m, hm⟩ ⟨n, hn⟩
    simp only at hb
    show meetF (bits .and .i64 (m : Int) (n : Int)) r = _
    rw [hb, ih _ (and_lt ⟨m, hm⟩ ⟨n, hn⟩) hl.2]
    congr 1
    apply bsum_congr
    intro j hj
    have := and_has ⟨m, hm⟩ ⟨n, hn⟩ ⟨j, hj⟩
    simp only at this
    simp only [this, allB, List.all_cons, hasI, Int.toNat_natCast, Bool.and_assoc]
theorem join_sum (l : List Int) : ∀ (m : Nat) (_ : m < 16) (_ : l.all isR = true), joinF m l = (bsum (fun k => hasB m k || anyB l k) 4 : Nat) := by
  induction l with
  | nil =>
    intro m hm _
    have := self_fin ⟨m, hm⟩
    simp only at this
    show (m : Int) = _
    rw [bsum_congr (fun k => hasB m k || anyB [] k) (fun k => hasB m k) 4 (fun j _ => by simp [anyB]), ← this]
  | cons x r ih =>
    intro m hm hl
    simp only [List.all_cons, Bool.and_eq_true] at hl
    obtain ⟨n, hn, rfl⟩ := isR_nat hl.1
    have hb := bor_fin ⟨m, hm⟩ ⟨n, hn⟩
    simp only at hb
    show joinF (bits .or .i64 (m : Int) (n : Int)) r = _
    rw [hb, ih _ (or_lt ⟨m, hm⟩ ⟨n, hn⟩) hl.2]
    congr 1
    apply bsum_congr
    intro j hj
    have := or_has ⟨m, hm⟩ ⟨n, hn⟩ ⟨j, hj⟩
    simp only at this
    simp only [this, anyB, List.any_cons, hasI, Int.toNat_natCast, Bool.or_assoc]
theorem has15 : ∀ k : Fin 4, hasB 15 k = true := by decide +kernel
theorem has0 : ∀ k : Fin 4, hasB 0 k = false := by decide +kernel
theorem meetT_sum {l : List Int} (h : l.all isR = true) : meetT l = (bsum (allB l) 4 : Nat) := by
  unfold meetT
  rw [if_pos h, show (15 : Int) = ((15 : Nat) : Int) from rfl, meet_sum l 15 (by omega) h]
  exact congrArg _ (bsum_congr _ _ _ fun j hj => by have := has15 ⟨j, hj⟩; simp only at this; rw [this]; rfl)
theorem joinT_sum {l : List Int} (h : l.all isR = true) : joinT l = (bsum (anyB l) 4 : Nat) := by
  unfold joinT
  rw [if_pos h, show (0 : Int) = ((0 : Nat) : Int) from rfl, join_sum l 0 (by omega) h]
  exact congrArg _ (bsum_congr _ _ _ fun j hj => by have := has0 ⟨j, hj⟩; simp only at this; rw [this]; rfl)
theorem allB_snoc (l : List Int) (x : Int) (k : Nat) : allB (l ++ [x]) k = (allB l k && hasI x k) := by simp [allB]
theorem anyB_snoc (l : List Int) (x : Int) (k : Nat) : anyB (l ++ [x]) k = (anyB l k || hasI x k) := by simp [anyB]

set_option maxRecDepth 100000 in
set_option maxHeartbeats 2000000 in
theorem rmeet_any (ao : Option Addr) (l : List Int) (cap : Nat) (w : World) (hl : l.length ≤ 100) (hc : Lies w ao l) :
    Calls Tryd.prog 20 #[.slice ao l.length cap] w fun e w' => e = .returned (.tuple #[.int .i64 (meetT l), .int .i64 (listE l)]) ∧ w' = w := by
  have HC : Hid (Lies w ao l) := hc
  clear hc
  obtain ⟨p, hp⟩ : ∃ p : Nat → Bool, p = allB l := ⟨_, rfl⟩
  have HP : Hid (p = allB l) := hp
  clear hp
  go_enter Tryd.func20, Tryd.ntmps20
  go_wp2
  go_loop [4, 5] (fun v i => ∃ k : Nat, k ≤ 4 ∧ i = .int .i64 k ∧ v = .int .i64 (bsum p k : Nat) ∧ Hid (k = 0 ∨ l.all isR = true)) (fun _ i => 4 - (intOf i).toNat)
  case atStart => exact ⟨0, by omega, rfl, rfl, .inl rfl⟩
  case round =>
    obtain ⟨k, hk, rfl, rfl, hA⟩ := hrel
    by_cases hlt : k < 4
    · obtain ⟨t, ht⟩ : ∃ t, bsum p k = t := ⟨_, rfl⟩
      have ht16 : t < 16 := by
        have h1 := bsum_lt p k
        have h2 := shl_lt hlt
        omega
      have HS : Hid (bsum p (k + 1) = t + (if p k then 2 ^ k else 0)) := by show bsum p k + _ = _; rw [ht]
      rw [ht]
      clear ht
      go_wp2
      go_loop [6, 7] (fun v i => ∃ n : Nat, n ≤ l.length ∧ i = .int .i64 n ∧ v = .bool (allB (l.take n) k) ∧ Hid ((l.take n).all isR = true)) (fun _ i => l.length - (intOf i).toNat)
      case atStart => exact ⟨0, Nat.zero_le _, rfl, rfl, rfl⟩
      case round =>
        obtain ⟨n, hn, rfl, rfl, hB⟩ := hrel
        by_cases hnl : n < l.length
        · obtain ⟨a, rfl, hcx⟩ := HC.out n hnl
          obtain ⟨x, hx⟩ : ∃ x, l.getD n 0 = x := ⟨_, rfl⟩
          rw [hx] at hcx
          have HX : Hid (l.getD n 0 = x) := hx
          clear hx
          have HT : Hid (l.take (n + 1) = l.take n ++ [x]) := by rw [← HX.out]; exact take_snocI l n hnl
          cases hb : isR x with
          | true =>
            obtain ⟨m, hm, rfl⟩ := isR_nat hb
            have HM : Hid (m < 16) := hm
            clear hm
            have HA : Hid ((l.take (n + 1)).all isR = true) := by rw [HT.out]; show (l.take n ++ [(m : Int)]).all isR = true; rw [all_snoc, hB.out, hb]; rfl
            have HV : Hid (allB (l.take (n + 1)) k = (allB (l.take n) k && hasB m k)) := by rw [HT.out]; show allB (l.take n ++ [(m : Int)]) k = _; rw [allB_snoc]; rfl
            cases hv : allB (l.take n) k with
            | true =>
              go_wp2_with (first | (go_at_call 13; refine (ris_any _ _).mono ?_; rintro e w' ⟨rfl, rfl⟩) | (go_at_call 25; refine (has_any _ _ _ HM.out hlt).mono ?_; rintro e w' ⟨rfl, rfl⟩))
              go_round
              case rel => exact ⟨n + 1, by omega, by go_num, by rw [HV.out, hv]; rfl, HA⟩
              case measure => simp [intOf]; omega
            | false =>
              go_wp2_with (first | (go_at_call 13; refine (ris_any _ _).mono ?_; rintro e w' ⟨rfl, rfl⟩) | (go_at_call 25; refine (has_any _ _ _ HM.out hlt).mono ?_; rintro e w' ⟨rfl, rfl⟩))
              go_round
              case rel => exact ⟨n + 1, by omega, by go_num, by rw [HV.out, hv]; rfl, HA⟩
              case measure => simp [intOf]; omega
          | false =>
            have HZ : Hid (l.all isR = false) := all_false_at l n hnl (by rw [HX.out]; exact hb)
            go_wp2_with (go_at_call 13; refine (ris_any _ _).mono ?_; rintro e w' ⟨rfl, rfl⟩)
            go_ret2
            exact ⟨by simp [meetT, listE, HZ.out], rfl⟩
        · obtain rfl : n = l.length := by omega
          have HZ : Hid (l.all isR = true) := by have := hB.out; rwa [List.take_length] at this
          have hv : allB (l.take l.length) k = p k := by rw [List.take_length, HP.out]
          rw [hv]
          clear hv
          cases hpk : p k with
          | true =>
            go_wp2
            go_round
            case rel => exact ⟨k + 1, by omega, by go_num, by rw [HS.out, hpk, wrap_sum ht16 hlt]; rfl, .inr HZ.out⟩
            case measure => simp [intOf]; omega
          | false =>
            go_wp2
            go_round
            case rel => exact ⟨k + 1, by omega, by go_num, by rw [HS.out, hpk]; rfl, .inr HZ.out⟩
            case measure => simp [intOf]; omega
    · obtain rfl : k = 4 := by omega
      have HZ : l.all isR = true := by rcases hA.out with h | h; cases h; exact h
      have HM : Hid (meetT l = (bsum p 4 : Nat) ∧ listE l = 0) := by rw [HP.out]; exact ⟨meetT_sum HZ, by simp [listE, HZ]⟩
      clear HZ
      go_wp2
      go_ret2
      exact ⟨ret_int2 HM.out.1.symm HM.out.2.symm, rfl⟩
end Go.Proofs.YtepadldbhjbjaaaDoor.Rt
