/- What Put does: the program's, the document's (and Digits). -/
import Derived.Test.YtaooijjppdfnfabDoorScBld
namespace Go.Proofs.YtaooijjppdfnfabDoor.Sc
open Go.RowKit

theorem str_cells (l : List UInt8) : Lib.strCells ⟨l.toArray⟩ = Lib.byteCells l := by simp [Lib.strCells, Lib.byteCells]
theorem ba_size (l : List UInt8) : (ByteArray.mk l.toArray).size = l.length := by simp [ByteArray.size]
theorem room1 (l : List UInt8) (m : Nat) (h : l.length + 1 ≤ m) : (Lib.byteCells l).length + 1 ≤ m := by rw [Lib.byteCells_length]; exact h
theorem room2 (l d : List UInt8) (m : Nat) (h : l.length + d.length ≤ m) : (Lib.byteCells l).length + (ByteArray.mk d.toArray).size ≤ m := by rw [Lib.byteCells_length, ba_size]; exact h
theorem room3 (l d : List UInt8) (u : Value) (m : Nat) (h : l.length + 1 + d.length ≤ m) : (Lib.byteCells l ++ [u]).length + (ByteArray.mk d.toArray).size ≤ m := by rw [List.length_append, Lib.byteCells_length, ba_size]; exact h
theorem bytes_one : Lib.byteCells [32] = [.int .u8 32] := rfl
theorem take_one (l : List Int) (k : Nat) (hk : k < l.length) : l.take (k + 1) = l.take k ++ [l.getD k 0] := by
  rw [List.take_succ_eq_append_getElem hk]; simp [List.getD, hk]
theorem take_ne (l : List Int) (k : Nat) (hk : k < l.length) (h0 : k ≠ 0) : l.take k ≠ [] := by
  intro e
  have := congrArg List.length e
  rw [List.length_take, List.length_nil] at this
  omega
theorem put_first (l : List Int) (h : 0 < l.length) : Lib.byteCells (putS (l.take 0)) ++ Lib.byteCells (dig (l.getD 0 0)) = Lib.byteCells (putS (l.take 1)) := by
  have := take_one l 0 h
  simp only [Nat.zero_add] at this
  rw [this]
  simp [putS_one, putS_nil, Lib.byteCells]
theorem put_next (l : List Int) (k : Nat) (hk : k < l.length) (h0 : k ≠ 0) : (Lib.byteCells (putS (l.take k)) ++ [.int .u8 32]) ++ Lib.byteCells (dig (l.getD k 0)) = Lib.byteCells (putS (l.take (k + 1))) := by
  rw [take_one l k hk, putS_snoc _ (take_ne l k hk h0)]
  simp [Lib.byteCells]
theorem take_mem {l : List Int} {k : Nat} {P : Int → Prop} (h : ∀ x ∈ l, P x) : ∀ x ∈ l.take k, P x := fun x hx => h x (List.mem_of_mem_take hx)
theorem putS_take (l : List Int) (k : Nat) (h : ∀ x ∈ l, 0 ≤ x ∧ x < 64) : (putS (l.take k)).length ≤ 3 * l.length := by
  have h1 := putS_len (l.take k) (take_mem h)
  have : (l.take k).length ≤ l.length := by simp; omega
  omega

set_option maxRecDepth 100000 in
set_option maxHeartbeats 2000000 in
theorem put_yes (ao : Option Addr) (l : List Int) (n cap : Nat) (w : World) (HN : Hid (n = l.length)) (hs : n ≤ 2000000) (RR : Hid (Row w ao (vals l))) (HK : Hid (okL l 64 = true)) :
    Calls Tryd.prog 11 #[.slice ao n cap] w fun e w' => e = .returned (.string ⟨(putS l).toArray⟩) ∧ Below w.heap.size w w' := by
  go_enter Tryd.func11, Tryd.ntmps11
  go_wp2_with (go_at_call 5; refine (check_core ao l n cap 64 0 _ HN (by omega) RR (chk_zero.2 HK.out).symm).mono ?_; rintro e w1 ⟨rfl, hw⟩; rw [hw]; clear hw w1)
  go_loopw [11] (fun i wr => ∃ k : Nat, k ≤ n ∧ i = .int .i64 k ∧ Hid (Lib.IsBuilder 47 5 w.heap.size w.heap.size (Lib.byteCells (putS (l.take k))) wr) ∧ Hid (Below w.heap.size w wr)) (fun i _ => n - (intOf i).toNat)
  case atStart => exact ⟨0, Nat.zero_le _, rfl, by simpa [putS_nil, Lib.byteCells, hid] using hid (Lib.fresh_isBuilder 47 5 w), hid (alloc_below w _)⟩
  case round =>
    obtain ⟨k, hk, rfl, HI, HB⟩ := hrel
    by_cases hlt : k < n
    · have hkl : Hid (k < l.length) := by have := HN.out; show k < l.length; omega
      obtain ⟨a, rfl, hc⟩ := row_at (RR.out.below HB.out) k hkl.out
      have hx0 := scr HK.out (l.getD k 0) (by have := hkl.out; simp [List.getD, this])
      obtain ⟨i, hi⟩ := Int.eq_ofNat_of_zero_le hx0.1
      have HI0 := hid hi
      rw [hi] at hc hx0
      have hi64 : Hid (i < 100) := by show i < 100; omega
      have HD : Hid (dig (l.getD k 0) = Lib.decDigits i) := by show dig _ = _; rw [hi]; rfl
      have hlen : Hid ((putS (l.take k)).length ≤ 3 * l.length) := putS_take l k (scr HK.out)
      have hdl : Hid ((Lib.decDigits i).length ≤ 2) := by rw [← HD.out]; exact (dig_len _ (by omega) (by omega)).1
      clear hi hx0
      by_cases h0 : k = 0
      · have hkz : ¬ (0 : Int) < (k : Int) := by omega
        have H0 := hid h0
        clear h0
        go_wp2_with (go_at_call 20; refine (Tryd.strconv_Itoa_small i hi64.out _).mono ?_; rintro e w1 ⟨rfl, hw⟩; rw [hw]; clear hw w1)
        refine (wstr_any w.heap.size w.heap.size _ ⟨(Lib.decDigits i).toArray⟩ _ HI (by have := hlen.out; have := hdl.out; have := HN.out; exact room2 _ _ _ (by omega)) HB.out.size).mono ?_
        rintro e w2 ⟨rfl, hb2, b2⟩
        have HI2 : Hid (Lib.IsBuilder 47 5 w.heap.size w.heap.size (Lib.byteCells (putS (l.take (k + 1)))) w2) := by
          have hk0 := H0.out
          subst hk0
          have hp := put_first l hkl.out
          rw [HD.out] at hp
          rw [str_cells, hp] at hb2
          exact .inr hb2
        have HB2 := hid (HB.out.trans b2)
        clear hb2 b2
        go_wp2_with fail
        go_roundw
        case rel => exact ⟨k + 1, by omega, by go_num, HI2, HB2⟩
        case measure => simp [intOf]; omega
      · have hkp : (0 : Int) < (k : Int) := by omega
        go_wp2_with fail
        refine (wbyte_any w.heap.size w.heap.size _ 32 _ HI (by have := hlen.out; have := HN.out; exact room1 _ _ (by omega)) HB.out.size).mono ?_
        rintro e w2 ⟨rfl, hb2, b2⟩
        have HI2 : Hid (Lib.IsBuilder 47 5 w.heap.size w.heap.size (Lib.byteCells (putS (l.take k)) ++ [.int .u8 32]) w2) := .inr hb2
        have HB2 := hid (HB.out.trans b2)
        clear hb2 b2
        go_wp2_with (go_at_call 20; refine (Tryd.strconv_Itoa_small i hi64.out _).mono ?_; rintro e w1 ⟨rfl, hw⟩; rw [hw]; clear hw w1)
        refine (wstr_any w.heap.size w.heap.size _ ⟨(Lib.decDigits i).toArray⟩ _ HI2 (by have := hlen.out; have := hdl.out; have := HN.out; exact room3 _ _ _ _ (by omega)) HB2.out.size).mono ?_
        rintro e w3 ⟨rfl, hb3, b3⟩
        have HI3 : Hid (Lib.IsBuilder 47 5 w.heap.size w.heap.size (Lib.byteCells (putS (l.take (k + 1)))) w3) := by
          have hp := put_next l k hkl.out h0
          rw [HD.out] at hp
          rw [str_cells, hp] at hb3
          exact .inr hb3
        have HB3 := hid (HB2.out.trans b3)
        clear hb3 b3
        go_wp2_with fail
        go_roundw
        case rel => exact ⟨k + 1, by omega, by go_num, HI3, HB3⟩
        case measure => simp [intOf]; omega
    · obtain rfl : k = n := by omega
      have HT : Hid (l.take k = l) := by show l.take k = l; rw [HN.out, List.take_length]
      go_wp2_with fail
      refine (Tryd.Builder_String_any w.heap.size w.heap.size _ _ HI.out HB.out.size).mono ?_
      rintro e w2 ⟨rfl, b2⟩
      have HB2 := hid (HB.out.trans b2)
      clear b2
      go_wp2_with fail
      go_ret
      exact ⟨by rw [HT.out]; rfl, HB2.out⟩

set_option maxRecDepth 100000 in
set_option maxHeartbeats 400000 in
theorem put_no (ao : Option Addr) (l : List Int) (n cap : Nat) (w : World) (HN : Hid (n = l.length)) (hs : n ≤ 2000000) (RR : Hid (Row w ao (vals l))) (HK : Hid (okL l 64 = false)) :
    Calls Tryd.prog 11 #[.slice ao n cap] w fun e w' => e = .returned (.string ⟨#[]⟩) ∧ Below w.heap.size w w' := by
  go_enter Tryd.func11, Tryd.ntmps11
  go_wp2_with (go_at_call 5; refine (check_core ao l n cap 64 2 _ HN (by omega) RR (by show _ = _; simp [chk, HK.out])).mono ?_; rintro e w1 ⟨rfl, hw⟩; rw [hw]; clear hw w1)
  go_ret
  exact ⟨rfl, Below.refl _ _⟩
theorem put_any (ao : Option Addr) (l : List Int) (n cap : Nat) (w : World) (hn : n = l.length) (hs : n ≤ 2000000) (hr : Row w ao (vals l)) :
    Calls Tryd.prog 11 #[.slice ao n cap] w fun e w' => e = .returned (.string ⟨(putT l).toArray⟩) ∧ Below w.heap.size w w' := by
  unfold putT
  cases h : okL l 64 with
  | true => exact put_yes ao l n cap w hn hs hr h
  | false => exact put_no ao l n cap w hn hs hr h
end Go.Proofs.YtaooijjppdfnfabDoor.Sc
