/- What the document's answers for texts are: Text, Parse of the reference: the same as the program's. -/
import Derived.Test.YtdngpjgpomjncaaDoorW4
namespace Go.Proofs.YtdngpjgpomjncaaDoor
open Go.RowKit

theorem rpar_lo (W : Nat) (c : UInt8) (hW : W < 1152921504606846976) (h1 : 48 ≤ (c.toNat : Int)) (h2 : (c.toNat : Int) ≤ 57) :
    IntKind.u64.wrap (IntKind.u64.wrap ((W : Int) * 16) + ((c.toNat : Int) - 48)) = ((W * 16 + bval c : Nat) : Int) := by
  have hb := bval_cast c
  unfold dvalI at hb
  rw [if_pos ⟨h1, h2⟩] at hb
  rw [IntKind.wrap_u64, IntKind.wrap_u64]
  omega
theorem rpar_hi (W : Nat) (c : UInt8) (hW : W < 1152921504606846976) (h1 : 97 ≤ (c.toNat : Int)) (h2 : (c.toNat : Int) ≤ 102) :
    IntKind.u64.wrap (IntKind.u64.wrap (IntKind.u64.wrap ((W : Int) * 16) + ((c.toNat : Int) - 97)) + 10) = ((W * 16 + bval c : Nat) : Int) := by
  have hb := bval_cast c
  unfold dvalI at hb
  rw [if_neg (by omega), if_pos ⟨h1, h2⟩] at hb
  rw [IntKind.wrap_u64, IntKind.wrap_u64, IntKind.wrap_u64]
  omega
theorem parOk_no (s : ByteArray) (k : Nat) (h : k < s.size) (hb : dvalB (s[k].toNat : Int) = false) : parOk s = false := by
  unfold parOk
  have : allDig s.data.toList = false := by
    rw [← List.take_append_drop (k + 1) s.data.toList, take_snoc s k h]
    simp [allDig, hb]
  rw [this, Bool.and_false]
theorem dvalB_yes {c : Int} (h : (48 ≤ c ∧ c ≤ 57) ∨ (97 ≤ c ∧ c ≤ 102)) : dvalB c = true := decide_eq_true h
theorem dvalB_no {c : Int} (h : ¬ ((48 ≤ c ∧ c ≤ 57) ∨ (97 ≤ c ∧ c ≤ 102))) : dvalB c = false := decide_eq_false h

set_option maxRecDepth 100000 in
set_option maxHeartbeats 1000000 in
theorem rparse_some (s : ByteArray) (w : World) (hn : s.size = 16) :
    Calls Tryd.prog 25 #[.string s] w fun e w' => e = .returned (.tuple #[.int .u64 (parT s), .int .i64 (parE s)]) ∧ w' = w := by
  have HN : Hid (s.size = 16) := hn
  have hn' : (((s.size : Nat) : Int) != 16) = false := by rw [bne_eq_false_iff_eq]; omega
  have hsz : s.size ≤ 16 := by omega
  have hsz2 : 16 ≤ s.size := by omega
  clear hn
  go_enter Tryd.func25, Tryd.ntmps25
  go_wp2
  go_loop [4, 5] (fun t i => ∃ k : Nat, k ≤ s.size ∧ i = .int .i64 k ∧ t = .int .u64 (accum (s.data.toList.take k)) ∧ Hid (allDig (s.data.toList.take k) = true)) (fun _ i => s.size - (intOf i).toNat)
  case atStart => exact ⟨0, Nat.zero_le _, rfl, rfl, rfl⟩
  case round =>
    obtain ⟨k, hk, rfl, rfl, hA⟩ := hrel
    by_cases hlt : k < s.size
    · have ht := take_snoc s k hlt
      have hac := accum_lt (s.data.toList.take k)
      have hl : (s.data.toList.take k).length ≤ k := List.length_take_le _ _
      have hp := pow_16_le (show k < 16 by omega)
      have hq : 16 ^ (s.data.toList.take k).length ≤ 16 ^ k := Nat.pow_le_pow_right (by omega) hl
      have HB : Hid (accum (s.data.toList.take k) < 1152921504606846976) := (by omega : accum (s.data.toList.take k) < 1152921504606846976)
      have HT : Hid (s.data.toList.take (k + 1) = s.data.toList.take k ++ [s[k]]) := ht
      clear ht hac hl hp hq
      have hby : (s[k].toNat : Int) ≤ 255 := by have := s[k].toNat_lt; omega
      have HS : Hid (accum (s.data.toList.take (k + 1)) = accum (s.data.toList.take k) * 16 + bval s[k]) := by rw [HT.out]; exact accum_snoc _ _
      by_cases h1 : 48 ≤ (s[k].toNat : Int) ∧ (s[k].toNat : Int) ≤ 57
      · have HA : Hid (allDig (s.data.toList.take (k + 1)) = true) := by rw [HT.out]; show allDig _ = true; rw [allDig_snoc, hA.out, dvalB_yes (.inl h1)]; rfl
        obtain ⟨h1a, h1b⟩ := h1
        go_wp2
        exact ⟨⟨k + 1, by omega, by go_num, by rw [HS.out, rpar_lo _ _ HB.out h1a h1b], HA⟩, by simp [intOf]; omega⟩
      · by_cases h2 : 97 ≤ (s[k].toNat : Int) ∧ (s[k].toNat : Int) ≤ 102
        · have HA : Hid (allDig (s.data.toList.take (k + 1)) = true) := by rw [HT.out]; show allDig _ = true; rw [allDig_snoc, hA.out, dvalB_yes (.inr h2)]; rfl
          obtain ⟨h1a, h1b⟩ := h2
          clear h1
          have h57 : ¬ (s[k].toNat : Int) ≤ 57 := by omega
          go_wp2
          exact ⟨⟨k + 1, by omega, by go_num, by rw [HS.out, rpar_hi _ _ HB.out h1a h1b], HA⟩, by simp [intOf]; omega⟩
        · have HZ : Hid (parOk s = false) := parOk_no s k hlt (dvalB_no (by omega))
          go_wp2
          all_goals go_ret2
          all_goals exact ⟨by simp [parT, parE, HZ.out], rfl⟩
    · obtain rfl : k = s.size := by omega
      have HZ : Hid (parOk s = true) := by
        show parOk s = true
        have := hA.out
        rw [List.take_of_length_le (by simp)] at this
        simp [parOk, HN.out, this]
      have HV : Hid (accum (s.data.toList.take s.size) = accum s.data.toList) := by
        show accum (s.data.toList.take s.size) = _
        rw [List.take_of_length_le (by simp)]
      go_wp2
      go_ret2
      exact ⟨by simp [parT, parE, HZ.out, HV.out], rfl⟩

set_option maxHeartbeats 400000 in
theorem rparse_len (s : ByteArray) (w : World) (hn : s.size ≠ 16) :
    Calls Tryd.prog 25 #[.string s] w fun e w' => e = .returned (.tuple #[.int .u64 0, .int .i64 10]) ∧ w' = w := by
  have hn' : (((s.size : Nat) : Int) != 16) = true := by rw [bne_iff_ne]; omega
  go_enter Tryd.func25, Tryd.ntmps25
  go_wp2
  go_ret2
  exact ⟨rfl, rfl⟩

theorem rparse_any (s : ByteArray) (w : World) :
    Calls Tryd.prog 25 #[.string s] w fun e w' => e = .returned (.tuple #[.int .u64 (parT s), .int .i64 (parE s)]) ∧ w' = w := by
  by_cases hn : s.size = 16
  · exact rparse_some s w hn
  · have e1 : parT s = 0 := by simp [parT, parOk, hn]
    have e2 : parE s = 10 := by simp [parE, parOk, hn]
    rw [e1, e2]
    exact rparse_len s w hn

/-! ### Text -/
def byteAt (x k : Nat) : UInt8 := UInt8.ofNat (dig (digN x k)).toNat
def preS (x j : Nat) : ByteArray := ⟨((List.range j).map (byteAt x)).toArray⟩

def digS (d : Nat) : ByteArray := ⟨#[UInt8.ofNat (dig d).toNat]⟩
theorem slice_dig : ∀ (d : Nat) (_ : d < 16) (w : World), (Instr.slice 9 (.string ⟨#[48, 49, 50, 51, 52, 53, 54, 55, 56, 57, 97, 98, 99, 100, 101, 102]⟩) (some (.int .i64 d)) (some (.int .i64 ((d : Int) + 1))) none).run Tryd.prog w = .ok (.string (digS d)) w
  | 0, _, _ => by kernel_rfl
  | 1, _, _ => by kernel_rfl
  | 2, _, _ => by kernel_rfl
  | 3, _, _ => by kernel_rfl
  | 4, _, _ => by kernel_rfl
  | 5, _, _ => by kernel_rfl
  | 6, _, _ => by kernel_rfl
  | 7, _, _ => by kernel_rfl
  | 8, _, _ => by kernel_rfl
  | 9, _, _ => by kernel_rfl
  | 10, _, _ => by kernel_rfl
  | 11, _, _ => by kernel_rfl
  | 12, _, _ => by kernel_rfl
  | 13, _, _ => by kernel_rfl
  | 14, _, _ => by kernel_rfl
  | 15, _, _ => by kernel_rfl
  | k + 16, h, _ => absurd h (by omega)
theorem preS_size (x j : Nat) : (preS x j).size = j := by simp [preS, ByteArray.size]
theorem digS_size (d : Nat) : (digS d).size = 1 := rfl
theorem pre_step (x j : Nat) : preS x j ++ digS (digN x j) = preS x (j + 1) := by
  apply ByteArray.ext
  apply Array.ext'
  simp [preS, digS, List.range_succ, byteAt]
theorem preS_text (x : Nat) : preS x 16 = textS x := by
  apply ByteArray.ext
  apply Array.ext'
  have key : ∀ (l : List Int) (r : ByteArray), (l.foldl (fun r n => r.push (UInt8.ofNat n.toNat)) r).data.toList = r.data.toList ++ l.map fun n => UInt8.ofNat n.toNat := by
    intro l
    induction l with
    | nil => intro r; simp
    | cons n l ih => intro r; rw [List.foldl_cons, ih]; simp [ByteArray.push]
  unfold textS
  rw [key]
  simp [preS, textL, ByteArray.empty, ByteArray.emptyWithCapacity]
  rfl
theorem and_15 (x j : Nat) (hx : x < 18446744073709551616) : bits .and .u64 ((x : Int) / 2 ^ (60 - 4 * j)) 15 = (digN x j : Int) := by
  have e : ((x : Int) / 2 ^ (60 - 4 * j)) = ((x / 2 ^ (60 - 4 * j) : Nat) : Int) := by simp
  have h1 := u64_and_nat (x / 2 ^ (60 - 4 * j)) 15 (Nat.lt_of_le_of_lt (Nat.div_le_self _ _) hx) (by omega)
  rw [e]
  refine h1.trans ?_
  rw [nat_mask4]
  rfl

set_option maxRecDepth 100000 in
set_option maxHeartbeats 1000000 in
theorem rtext_any (x : Nat) (w : World) (hx : Hid (x < 18446744073709551616)) :
    Calls Tryd.prog 27 #[.int .u64 x] w fun e w' => e = .returned (.string (textS x)) ∧ w' = w := by
  have hsl := slice_dig
  go_enter Tryd.func27, Tryd.ntmps27
  go_wp2
  go_loop [4, 5] (fun t i => ∃ j : Nat, j ≤ 16 ∧ i = .int .i64 (60 - 4 * (j : Int)) ∧ t = .string (preS x j)) (fun _ i => (intOf i + 4).toNat)
  case atStart => exact ⟨0, by omega, rfl, rfl⟩
  case round =>
    obtain ⟨j, hj, rfl, rfl⟩ := hrel
    by_cases hlt : j < 16
    · obtain ⟨d, hd⟩ : ∃ d, digN x j = d := ⟨_, rfl⟩
      have hd16 : d < 16 := hd ▸ digN_lt x j
      have hbt := and_15 x j hx.out
      rw [hd] at hbt
      have HDg : Hid (digN x j = d) := hd
      clear hd
      have hs1 := preS_size x j
      have hs2 := digS_size d
      go_wp2
      exact ⟨⟨j + 1, by omega, by go_num, by rw [← HDg.out, pre_step]⟩, by simp [intOf]; omega⟩
    · obtain rfl : j = 16 := by omega
      have HT : Hid (preS x 16 = textS x) := preS_text x
      go_wp2
      go_ret
      exact ⟨by rw [← HT.out]; rfl, rfl⟩
end Go.Proofs.YtdngpjgpomjncaaDoor
