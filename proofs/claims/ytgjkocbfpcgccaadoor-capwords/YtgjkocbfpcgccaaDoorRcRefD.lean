/- What the reference's Text and Parse do: the same as the program's. -/
import Derived.Test.YtgjkocbfpcgccaaDoorRcRefA
namespace Go.Proofs.YtgjkocbfpcgccaaDoor.Rt
open Go.RowKit

def preS (r k : Nat) : ByteArray := ⟨((List.range k).map fun j => UInt8.ofNat (sg r j).toNat).toArray⟩
def sgnS (k : Nat) : ByteArray := ⟨#[UInt8.ofNat (sgn k).toNat]⟩
theorem slice_sign : ∀ (k : Nat) (_ : k < 4) (w : World), (Instr.slice 9 (.string ⟨#[114, 119, 103, 99]⟩) (some (.int .i64 k)) (some (.int .i64 ((k : Int) + 1))) none).run Tryd.prog w = .ok (.string (sgnS k)) w
  | 0, _, _ => by kernel_rfl
  | 1, _, _ => by kernel_rfl
  | 2, _, _ => by kernel_rfl
  | 3, _, _ => by kernel_rfl
  | k + 4, h, _ => absurd h (by omega)
theorem preS_size (r k : Nat) : (preS r k).size = k := by simp [preS, ByteArray.size]
theorem sgnS_size (k : Nat) : (sgnS k).size = 1 := rfl
theorem pre_fin : ∀ (r : Fin 16) (k : Fin 4), (hasB r k = true → preS r k ++ sgnS k = preS r (k.val + 1)) ∧ (hasB r k = false → preS r k ++ ⟨#[45]⟩ = preS r (k.val + 1)) := by decide +kernel
theorem pre_text : ∀ r : Fin 16, preS r 4 = textN r := by decide +kernel

set_option maxHeartbeats 400000 in
theorem rtext_no (r : Int) (w : World) (h : isR r = false) :
    Calls Tryd.prog 39 #[.int .i64 r] w fun e w' => e = .returned (.string ⟨#[]⟩) ∧ w' = w := by
  go_enter Tryd.func39, Tryd.ntmps39
  go_wp2_with (go_at_call 35; refine (ris_any _ _).mono ?_; rintro e w' ⟨rfl, rfl⟩)
  go_ret
  exact ⟨rfl, rfl⟩

set_option maxRecDepth 100000 in
set_option maxHeartbeats 1000000 in
theorem rtext_yes (r : Nat) (w : World) (h : isR r = true) (HR : Hid (r < 16)) :
    Calls Tryd.prog 39 #[.int .i64 r] w fun e w' => e = .returned (.string (textN r)) ∧ w' = w := by
  go_enter Tryd.func39, Tryd.ntmps39
  go_wp2_with (go_at_call 35; refine (ris_any _ _).mono ?_; rintro e w' ⟨rfl, rfl⟩)
  go_loop [3, 5] (fun t i => ∃ k : Nat, k ≤ 4 ∧ i = .int .i64 k ∧ t = .string (preS r k)) (fun _ i => 4 - (intOf i).toNat)
  case atStart => exact ⟨0, by omega, rfl, rfl⟩
  case round =>
    obtain ⟨k, hk, rfl, rfl⟩ := hrel
    by_cases hlt : k < 4
    · have HP : Hid _ := pre_fin ⟨r, HR.out⟩ ⟨k, hlt⟩
      have hs1 := preS_size r k
      have hs2 := sgnS_size k
      have hsl := slice_sign k hlt
      cases hb : hasB r k with
      | true =>
        go_wp2_with (go_at_call 45; refine (has_any _ _ _ HR.out hlt).mono ?_; rintro e w' ⟨rfl, rfl⟩)
        exact ⟨⟨k + 1, by omega, by go_num, congrArg _ (HP.out.1 hb)⟩, by simp [intOf]; omega⟩
      | false =>
        go_wp2_with (go_at_call 45; refine (has_any _ _ _ HR.out hlt).mono ?_; rintro e w' ⟨rfl, rfl⟩)
        exact ⟨⟨k + 1, by omega, by go_num, congrArg _ (HP.out.2 hb)⟩, by simp [intOf]; omega⟩
    · obtain rfl : k = 4 := by omega
      have HT : Hid (preS r 4 = textN r) := pre_text ⟨r, HR.out⟩
      go_wp2
      go_ret
      exact ⟨by rw [← HT.out]; rfl, rfl⟩

theorem rtext_any (r : Int) (w : World) :
    Calls Tryd.prog 39 #[.int .i64 r] w fun e w' => e = .returned (.string (textT r)) ∧ w' = w := by
  cases h : isR r with
  | false =>
    rw [show textT r = ⟨#[]⟩ by simp [textT, h]]
    exact rtext_no r w h
  | true =>
    obtain ⟨n, hn, rfl⟩ := isR_nat h
    rw [show textT n = textN n by simp [textT, h]]
    exact rtext_yes n w h hn

end Go.Proofs.YtgjkocbfpcgccaaDoor.Rt
