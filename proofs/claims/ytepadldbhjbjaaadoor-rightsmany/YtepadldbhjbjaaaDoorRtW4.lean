/- What Parse does: a range over a string's signs. -/
import Derived.Test.YtepadldbhjbjaaaDoorRtW3
namespace Go.Proofs.YtepadldbhjbjaaaDoor.Rt
open Go.RowKit

def textT (r : Int) : ByteArray := if isR r then textN r.toNat else ⟨#[]⟩
def parO (s : ByteArray) : Option Nat := (List.range 16).find? (fun r => decide (textN r = s))
def parT (s : ByteArray) : Int := ((parO s).getD 0 : Nat)
def parE (s : ByteArray) : Int := if (parO s).isSome then 0 else 20

theorem textN_bytes : ∀ r : Fin 16, (textN r).data = #[UInt8.ofNat (sg r 0).toNat, UInt8.ofNat (sg r 1).toNat, UInt8.ofNat (sg r 2).toNat, UInt8.ofNat (sg r 3).toNat] := by decide +kernel
theorem textN_inj : ∀ a b : Fin 16, textN a = textN b → a = b := by decide +kernel
theorem sg_range : ∀ (r : Fin 16) (k : Fin 4), 0 ≤ sg r k ∧ sg r k < 128 ∧ (sg r k = 45 ∨ sg r k = sgn k) := by decide +kernel
theorem sg_yes : ∀ (k : Fin 4) (r : Fin 16), r.val < 2 ^ k.val → (bits .or .i64 (r.val : Int) (worth k.val : Nat) = ((r.val + 2 ^ k.val : Nat) : Int) ∧ (∀ j : Fin 4, j < k → sg (r.val + 2 ^ k.val) j = sg r j) ∧ sg (r.val + 2 ^ k.val) k = sgn k ∧ r.val + 2 ^ k.val < 2 ^ (k.val + 1)) := by decide +kernel
theorem sg_no : ∀ (k : Fin 4) (r : Fin 16), r.val < 2 ^ k.val → sg r k = 45 := by decide +kernel

theorem parO_some {s : ByteArray} {r : Nat} (hr : r < 16) (h : textN r = s) : parO s = some r := by
  unfold parO
  rw [List.find?_eq_some_iff_getElem]
  refine ⟨by simpa using h, r, by simpa using hr, by simp, fun j hj => ?_⟩
  have : textN j ≠ s := fun e => by
    have := textN_inj ⟨j, by omega⟩ ⟨r, hr⟩ (e.trans h.symm)
    simp at this
    omega
  simpa using this
theorem parO_none {s : ByteArray} (h : ∀ r, r < 16 → textN r ≠ s) : parO s = none := by
  unfold parO
  rw [List.find?_eq_none]
  intro r hr
  simpa using h r (by simpa using hr)

theorem text_at {s : ByteArray} {r : Nat} (hr : r < 16) (h : textN r = s) : ∃ h4 : s.size = 4, ∀ (k : Nat) (hk : k < 4), ((s[k]'(by omega)).toNat : Int) = sg r k := by
  subst h
  have hb := textN_bytes ⟨r, hr⟩
  simp only at hb
  have hsz : (textN r).size = 4 := by
    show (textN r).data.size = 4
    rw [hb]; rfl
  refine ⟨hsz, fun k hk => ?_⟩
  have h2 := sg_range ⟨r, hr⟩ ⟨k, hk⟩
  simp only at h2
  have : (textN r)[k]'(by omega) = UInt8.ofNat (sg r k).toNat := by
    show (textN r).data[k] = _
    simp only [hb]
    have : k = 0 ∨ k = 1 ∨ k = 2 ∨ k = 3 := by omega
    rcases this with rfl | rfl | rfl | rfl <;> rfl
  rw [this, UInt8.toNat_ofNat']
  omega
theorem text_of {s : ByteArray} {r : Nat} (hr : r < 16) (h4 : s.size = 4) (h : ∀ (k : Nat) (hk : k < 4), ((s[k]'(by omega)).toNat : Int) = sg r k) : textN r = s := by
  obtain ⟨g4, hg⟩ := text_at hr rfl
  apply ByteArray.ext
  apply Array.ext
  · exact g4.trans h4.symm
  · intro i hi hj
    have hi4 : i < 4 := by have : (textN r).data.size = 4 := g4; omega
    have a := hg i hi4
    have b := h i hi4
    apply UInt8.toNat_inj.1
    show ((textN r)[i]'(by omega)).toNat = (s[i]'(by omega)).toNat
    omega
theorem dec_low (s : ByteArray) (k : Nat) (h : k < s.size) (hD : (Utf8.decode s k).1 < 128) : Utf8.decode s k = ((s[k]'h).toNat, 1) := by
  by_cases ha : (s[k]'h).toNat < 128
  · exact decode_ascii s k h ha
  · have := (decode_high s k h (by omega)).1
    omega

theorem index_sign : ∀ (k : Nat) (_ : k < 4) (w : World), (Instr.index 9 (.string ⟨#[114, 119, 103, 99]⟩) (.int .i64 k)).run Tryd.prog w = .ok (.int .u8 (sgn k)) w
  | 0, _, _ => by kernel_rfl
  | 1, _, _ => by kernel_rfl
  | 2, _, _ => by kernel_rfl
  | 3, _, _ => by kernel_rfl
  | k + 4, h, _ => absurd h (by omega)

/-- One sign more: it is the right's own, or a hyphen. -/
theorem step_yes {s : ByteArray} {k r : Nat} (hk : k < 4) (hr : r < 2 ^ k) (hA : ∀ j (hj : j < s.size), j < k → ((s[j]'hj).toNat : Int) = sg r j) (hks : k < s.size) (he : ((s[k]'hks).toNat : Int) = sgn k) :
    bits .or .i64 (r : Int) (worth k : Nat) = ((r + 2 ^ k : Nat) : Int) ∧ r + 2 ^ k < 2 ^ (k + 1) ∧ ∀ j (hj : j < s.size), j < k + 1 → ((s[j]'hj).toNat : Int) = sg (r + 2 ^ k) j := by
  have hr16 : r < 16 := Nat.lt_of_lt_of_le hr (Nat.le_trans (Nat.pow_le_pow_right (by omega) (show k ≤ 4 by omega)) (by omega))
  obtain ⟨h1, h2, h3, h4⟩ := sg_yes ⟨k, hk⟩ ⟨r, hr16⟩ hr
  refine ⟨h1, h4, fun j hj hjk => ?_⟩
  by_cases e : j = k
  · subst e; rw [he]; exact h3.symm
  · rw [hA j hj (by omega)]; exact (h2 ⟨j, by omega⟩ (by show j < k; omega)).symm
theorem step_no {s : ByteArray} {k r : Nat} (hk : k < 4) (hr : r < 2 ^ k) (hA : ∀ j (hj : j < s.size), j < k → ((s[j]'hj).toNat : Int) = sg r j) (hks : k < s.size) (he : ((s[k]'hks).toNat : Int) = 45) :
    r < 2 ^ (k + 1) ∧ ∀ j (hj : j < s.size), j < k + 1 → ((s[j]'hj).toNat : Int) = sg r j := by
  have hr16 : r < 16 := Nat.lt_of_lt_of_le hr (Nat.le_trans (Nat.pow_le_pow_right (by omega) (show k ≤ 4 by omega)) (by omega))
  refine ⟨by rw [Nat.pow_succ]; omega, fun j hj hjk => ?_⟩
  by_cases e : j = k
  · subst e; rw [he]; exact (sg_no ⟨j, hk⟩ ⟨r, hr16⟩ hr).symm
  · exact hA j hj (by omega)
theorem step_bad {s : ByteArray} {k : Nat} (hk : k < 4) (hks : k < s.size) (h1 : ((s[k]'hks).toNat : Int) ≠ sgn k) (h2 : ((s[k]'hks).toNat : Int) ≠ 45) : parO s = none := by
  refine parO_none fun r hr e => ?_
  obtain ⟨h4, h⟩ := text_at hr e
  have a := h k hk
  rcases (sg_range ⟨r, hr⟩ ⟨k, hk⟩).2.2 with b | b
  · exact h2 (a.trans b)
  · exact h1 (a.trans b)

set_option maxHeartbeats 400000 in
theorem parse_len (s : ByteArray) (w : World) (hn : s.size ≠ 4) :
    Calls Tryd.prog 10 #[.string s] w fun e w' => e = .returned (.tuple #[.int .i64 0, .int .i64 20]) ∧ w' = w := by
  have hn' : (((s.size : Nat) : Int) != 4) = true := by rw [bne_iff_ne]; omega
  go_enter Tryd.func10, Tryd.ntmps10
  go_wp2
  go_ret2
  exact ⟨rfl, rfl⟩

set_option maxRecDepth 100000 in
set_option maxHeartbeats 2000000 in
theorem parse_some (s : ByteArray) (w : World) (hn : s.size = 4) (hT : Tab w) :
    Calls Tryd.prog 10 #[.string s] w fun e w' => e = .returned (.tuple #[.int .i64 (parT s), .int .i64 (parE s)]) ∧ Below w.heap.size w w' := by
  have HN : Hid (s.size = 4) := hn
  have hn' : (((s.size : Nat) : Int) != 4) = false := by rw [bne_eq_false_iff_eq]; omega
  clear hn
  have HT : Hid (Tab w) := hT
  clear hT
  have HB : Hid (∀ p, Below w.heap.size w (w.iter s p)) := fun p => (Below.refl _ w).alloc (Nat.le_refl _) _
  go_enter Tryd.func10, Tryd.ntmps10
  go_wp2
  go_loopw [4] (fun v wr => ∃ k r : Nat, k ≤ 4 ∧ v = .int .i64 r ∧ wr = w.iter s k ∧ Hid (r < 2 ^ k) ∧ Hid (∀ j (hj : j < s.size), j < k → ((s[j]'hj).toNat : Int) = sg r j)) (fun _ wr => 4 - wr.iterPos w.heap.size)
  case atStart => exact ⟨0, 0, by omega, rfl, rfl, Nat.zero_lt_one, fun j _ h => absurd h (by omega)⟩
  case round =>
    obtain ⟨k, r, hk, rfl, rfl, hr, hA⟩ := hrel
    by_cases hlt : k < 4
    · have hks : k < s.size := by rw [HN.out]; exact hlt
      have hr16 : Hid (r < 16) := Nat.lt_of_lt_of_le hr.out (Nat.le_trans (Nat.pow_le_pow_right (by omega) (show k ≤ 4 by omega)) (by omega))
      obtain ⟨D, hD⟩ : ∃ D, (Utf8.decode s k).1 = D := ⟨_, rfl⟩
      obtain ⟨W, hW⟩ : ∃ W, (Utf8.decode s k).2 = W := ⟨_, rfl⟩
      have hnx := fun ty => run_next_any (P := Tryd.prog) w s k ty hks
      rw [hD, hW] at hnx
      have HD : Hid (D < 128 → D = (s[k]'hks).toNat ∧ W = 1) := fun h => by
        have := dec_low s k hks (by rw [hD]; exact h)
        rw [this] at hD hW
        exact ⟨hD.symm, hW.symm⟩
      have HD2 : Hid ((s[k]'hks).toNat < 128 → D = (s[k]'hks).toNat) := fun h => by
        rw [decode_ascii s k hks h] at hD
        exact hD.symm
      clear hD hW
      have hcell := (HT.out.below (HB.out (k + W))).cell k hlt
      have hix := index_sign k hlt
      obtain ⟨c, hc⟩ : ∃ c, sgn k = c := ⟨_, rfl⟩
      have hc0 : 0 ≤ c ∧ c < 128 := hc ▸ sgn_lt k hlt
      rw [hc] at hix
      obtain ⟨x, hx⟩ : ∃ x : Nat, worth k = x := ⟨_, rfl⟩
      rw [hx] at hcell
      have HC : Hid (sgn k = c ∧ worth k = x) := ⟨hc, hx⟩
      clear hc hx
      cases hb : ((D : Int) == c) with
      | true =>
        have hDc : (D : Int) = c := by simpa using hb
        have hd := HD.out (by omega)
        have HY : Hid _ := step_yes hlt hr.out hA.out hks (by rw [← hd.1, HC.out.1]; exact hDc)
        have HW : Hid (W = 1) := hd.2
        clear hDc hd
        go_wp2
        refine ⟨⟨k + 1, r + 2 ^ k, by omega, by rw [← HC.out.2]; exact congrArg _ HY.out.1, by rw [HW.out], HY.out.2.1, HY.out.2.2⟩, ?_⟩
        simp [HW.out]
        omega
      | false =>
        have hDc : (D : Int) ≠ c := by simpa using hb
        cases hb2 : ((D : Int) == 45) with
        | true =>
          have hD45 : (D : Int) = 45 := by simpa using hb2
          have hd := HD.out (by omega)
          have HY : Hid _ := step_no hlt hr.out hA.out hks (by rw [← hd.1]; exact hD45)
          have HW : Hid (W = 1) := hd.2
          clear hDc hd hD45
          go_wp2
          refine ⟨⟨k + 1, r, by omega, rfl, by rw [HW.out], HY.out.1, HY.out.2⟩, ?_⟩
          simp [HW.out]
          omega
        | false =>
          have hD45 : (D : Int) ≠ 45 := by simpa using hb2
          have HZ : Hid (parO s = none) := by
            refine step_bad hlt hks ?_ ?_
            · intro e
              have := HD2.out (by have := sgn_lt k hlt; omega)
              rw [HC.out.1] at e
              omega
            · intro e
              have := HD2.out (by omega)
              omega
          clear hDc hD45
          go_wp2
          go_ret2
          exact ⟨by simp [parT, parE, HZ.out], HB.out _⟩
    · obtain rfl : k = 4 := by omega
      have HZ : Hid (parO s = some r) := parO_some hr.out (text_of hr.out HN.out (fun j hj => hA.out j (by rw [HN.out]; exact hj) hj))
      have hnx := fun ty => run_next_end (P := Tryd.prog) w s 4 ty (by rw [HN.out]; omega)
      go_wp2
      go_ret2
      exact ⟨by simp [parT, parE, HZ.out], HB.out _⟩

/-- PARSE, OF WHATEVER TEXT. -/
theorem parse_any (s : ByteArray) (w : World) (hT : Tab w) :
    Calls Tryd.prog 10 #[.string s] w fun e w' => e = .returned (.tuple #[.int .i64 (parT s), .int .i64 (parE s)]) ∧ Below w.heap.size w w' := by
  by_cases hn : s.size = 4
  · exact parse_some s w hn hT
  · have e : parO s = none := parO_none fun r hr e => hn (text_at hr e).1
    refine (parse_len s w hn).mono ?_
    rintro e1 w1 ⟨rfl, rfl⟩
    exact ⟨by simp [parT, parE, e], Below.refl _ _⟩
/-- TEXT, OF WHATEVER NUMBER. -/
theorem text_any (r : Int) (w : World) (hT : Tab w) :
    Calls Tryd.prog 16 #[.int .i64 r] w fun e w' => e = .returned (.string (textT r)) ∧ Below w.heap.size w w' := by
  cases h : isR r with
  | false =>
    refine (text_no r w h).mono ?_
    rintro e1 w1 ⟨rfl, rfl⟩
    exact ⟨by simp [textT, h], Below.refl _ _⟩
  | true =>
    obtain ⟨n, hn, rfl⟩ := isR_nat h
    refine (text_yes n w h hT).mono ?_
    rintro e1 w1 ⟨rfl, b⟩
    exact ⟨by simp [textT, h], b⟩
end Go.Proofs.YtepadldbhjbjaaaDoor.Rt
