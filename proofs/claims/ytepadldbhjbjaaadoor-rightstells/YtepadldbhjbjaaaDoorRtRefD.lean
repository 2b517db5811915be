/- What the reference's Text and Parse do: the same as the program's. -/
import Derived.Test.YtepadldbhjbjaaaDoorRtRefA
namespace Go.Proofs.YtepadldbhjbjaaaDoor.Rt
open Go.RowKit

def preS (r k : Nat) : ByteArray := ⟨((List.range k).map fun j => UInt8.ofNat (sg r j).toNat).toArray⟩
def sgnS (k : Nat) : ByteArray := ⟨#[UInt8.ofNat (sgn k).toNat]⟩
theorem slice_sign : ∀ (k : Nat) (_ : k < 4) (w : World), (Instr.slice 9 (.string ⟨#[114, 119, 103, 99]⟩) (some (.int .i64 k)) (some (.int .i64 ((k : Int) + 1))) none).run Tryd.prog w = .ok (.string (sgnS k)) w
  | 0, _, _ => by kernel_rfl
  | 1, _, _ => by kernel_rfl
  | 2, _, _ => by kernel_rfl
  | 3, _, _ => by kernel_rfl
  | k + 4, h, _ => absurd h (by omega)
theorem preS_size (r k : Nat) : (preS r k).size = k := by simp [preS, ByteArray.size]
theorem sgnS_size (k : Nat) : (sgnS k).size = 1 := rfl
theorem pre_fin : ∀ (r : Fin 16) (k : Fin 4), (hasB r k = true → preS r k ++ sgnS k = preS r (k.val + 1)) ∧ (hasB r k = false → preS r k ++ ⟨#[45]⟩ = preS r (k.val + 1)) := by decide +kernel
theorem pre_text : ∀ r : Fin 16, preS r 4 = textN r := by decide +kernel

set_option maxHeartbeats 400000 in
theorem rtext_no (r : Int) (w : World) (h : isR r = false) :
    Calls Tryd.prog 17 #[.int .i64 r] w fun e w' => e = .returned (.string ⟨#[]⟩) ∧ w' = w := by
  go_enter Tryd.func17, Tryd.ntmps17
  go_wp2_with (go_at_call 13; refine (ris_any _ _).mono ?_; rintro e w' ⟨rfl, rfl⟩)
  go_ret
  exact ⟨rfl, rfl⟩

set_option maxRecDepth 100000 in
set_option maxHeartbeats 1000000 in
theorem rtext_yes (r : Nat) (w : World) (h : isR r = true) (HR : Hid (r < 16)) :
    Calls Tryd.prog 17 #[.int .i64 r] w fun e w' => e = .returned (.string (textN r)) ∧ w' = w := by
  go_enter Tryd.func17, Tryd.ntmps17
  go_wp2_with (go_at_call 13; refine (ris_any _ _).mono ?_; rintro e w' ⟨rfl, rfl⟩)
  go_loop [3, 5] (fun t i => ∃ k : Nat, k ≤ 4 ∧ i = .int .i64 k ∧ t = .string (preS r k)) (fun _ i => 4 - (intOf i).toNat)
  case atStart => exact ⟨0, by omega, rfl, rfl⟩
  case round =>
    obtain ⟨k, hk, rfl, rfl⟩ := hrel
    by_cases hlt : k < 4
    · have HP : Hid _ := pre_fin ⟨r, HR.out⟩ ⟨k, hlt⟩
      have hs1 := preS_size r k
      have hs2 := sgnS_size k
      have hsl := slice_sign k hlt
      cases hb : hasB r k with
      | true =>
        go_wp2_with (go_at_call 25; refine (has_any _ _ _ HR.out hlt).mono ?_; rintro e w' ⟨rfl, rfl⟩)
        exact ⟨⟨k + 1, by omega, by go_num, congrArg _ (HP.out.1 hb)⟩, by simp [intOf]; omega⟩
      | false =>
        go_wp2_with (go_at_call 25; refine (has_any _ _ _ HR.out hlt).mono ?_; rintro e w' ⟨rfl, rfl⟩)
        exact ⟨⟨k + 1, by omega, by go_num, congrArg _ (HP.out.2 hb)⟩, by simp [intOf]; omega⟩
    · obtain rfl : k = 4 := by omega
      have HT : Hid (preS r 4 = textN r) := pre_text ⟨r, HR.out⟩
      go_wp2
      go_ret
      exact ⟨by rw [← HT.out]; rfl, rfl⟩

theorem rtext_any (r : Int) (w : World) :
    Calls Tryd.prog 17 #[.int .i64 r] w fun e w' => e = .returned (.string (textT r)) ∧ w' = w := by
  cases h : isR r with
  | false =>
    rw [show textT r = ⟨#[]⟩ by simp [textT, h]]
    exact rtext_no r w h
  | true =>
    obtain ⟨n, hn, rfl⟩ := isR_nat h
    rw [show textT n = textN n by simp [textT, h]]
    exact rtext_yes n w h hn

theorem toList_eq (s t : ByteArray) : (s.toList == t.toList) = decide (s = t) := by
  rw [ByteArray.toList_eq, ByteArray.toList_eq, Bool.eq_iff_iff, beq_iff_eq, decide_eq_true_iff, Array.toList_inj]
  exact ⟨fun h => ByteArray.ext h, fun h => by rw [h]⟩

set_option maxRecDepth 100000 in
set_option maxHeartbeats 1000000 in
theorem rparse_any (s : ByteArray) (w : World) :
    Calls Tryd.prog 11 #[.string s] w fun e w' => e = .returned (.tuple #[.int .i64 (parT s), .int .i64 (parE s)]) ∧ w' = w := by
  go_enter Tryd.func11, Tryd.ntmps11
  go_wp2
  go_loop [4] (fun i => ∃ r : Nat, r ≤ 16 ∧ i = .int .i64 r ∧ Hid (∀ j, j < r → textN j ≠ s)) (fun i => 16 - (intOf i).toNat)
  case atStart => exact ⟨0, by omega, rfl, fun j hj => absurd hj (by omega)⟩
  case round =>
    obtain ⟨r, hr, rfl, hI⟩ := hrel
    by_cases hlt : r < 16
    · have HX : Hid (∀ W : World, Calls Tryd.prog 17 #[.int .i64 r] W fun e w' => e = .returned (.string (textN r)) ∧ w' = W) := fun W => rtext_yes r W (isR_of r hlt) hlt
      by_cases he : textN r = s
      · have hq : ((textN r).toList == s.toList) = true := by rw [toList_eq]; exact decide_eq_true he
        have HZ : Hid (parO s = some r) := parO_some hlt he
        clear he
        go_wp2_with (go_at_call 17; refine (HX.out _).mono ?_; rintro e w' ⟨rfl, rfl⟩)
        go_ret2
        exact ⟨by simp [parT, parE, HZ.out], rfl⟩
      · have hq : ((textN r).toList == s.toList) = false := by rw [toList_eq]; exact decide_eq_false he
        have HI : Hid (∀ j, j < r + 1 → textN j ≠ s) := fun j hj => if e : j = r then e ▸ he else hI.out j (by omega)
        clear he
        go_wp2_with (go_at_call 17; refine (HX.out _).mono ?_; rintro e w' ⟨rfl, rfl⟩)
        go_round
        case rel => exact ⟨r + 1, by omega, by go_num, HI⟩
        case measure => simp [intOf]; omega
    · obtain rfl : r = 16 := by omega
      have HZ : Hid (parO s = none) := parO_none hI.out
      go_wp2
      go_ret2
      exact ⟨by simp [parT, parE, HZ.out], rfl⟩
end Go.Proofs.YtepadldbhjbjaaaDoor.Rt
