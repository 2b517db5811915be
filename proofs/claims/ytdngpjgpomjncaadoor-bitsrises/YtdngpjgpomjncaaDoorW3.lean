/- What digitValue, Parse and Text do, in a world whose table of digits is the program's. -/
import Derived.Test.YtdngpjgpomjncaaDoorChecked
import Derived.Test.YtdngpjgpomjncaaDoorMath
import Derived.Test.YtdngpjgpomjncaaDoorW1
import Derived.WalkKit
import Derived.WalkLawsBesides
import Derived.Laws.Rows
namespace Go.Proofs.YtdngpjgpomjncaaDoor
open Go.RowKit

/-- The digits, by their places. -/
def dig (k : Nat) : Int := if k < 10 then 48 + k else 87 + k
def digCells : Array Value := #[.int .u8 48, .int .u8 49, .int .u8 50, .int .u8 51, .int .u8 52, .int .u8 53, .int .u8 54, .int .u8 55, .int .u8 56, .int .u8 57, .int .u8 97, .int .u8 98, .int .u8 99, .int .u8 100, .int .u8 101, .int .u8 102]
/-- THE TABLE LIES IN BLOCK 0. -/
def Dig (w : World) : Prop := ∃ (t : TypeId) (fr : Nat × Nat), w.heap[0]? = some (.cells digCells t fr)
theorem Dig.pos {w : World} (h : Dig w) : 0 < w.heap.size := by
  obtain ⟨t, fr, h⟩ := h
  exact (Array.getElem?_eq_some_iff.1 h).1
theorem Dig.below {w w' : World} (h : Dig w) (hb : Below w.heap.size w w') : Dig w' := by
  have hp := h.pos
  obtain ⟨t, fr, h⟩ := h
  exact ⟨t, fr, (hb.block 0 hp).trans h⟩
theorem dig_at (k : Nat) (hk : k < 16) : digCells[k]? = some (.int .u8 (dig k)) := by
  have : k = 0 ∨ k = 1 ∨ k = 2 ∨ k = 3 ∨ k = 4 ∨ k = 5 ∨ k = 6 ∨ k = 7 ∨ k = 8 ∨ k = 9 ∨ k = 10 ∨ k = 11 ∨ k = 12 ∨ k = 13 ∨ k = 14 ∨ k = 15 := by omega
  rcases this with rfl | rfl | rfl | rfl | rfl | rfl | rfl | rfl | rfl | rfl | rfl | rfl | rfl | rfl | rfl | rfl <;> rfl
theorem Dig.cell {w : World} (h : Dig w) (k : Nat) (hk : k < 16) : w.cell? ⟨0, k, none⟩ = some (.int .u8 (dig k)) := by
  obtain ⟨t, fr, h⟩ := h
  simp [World.cell?, h, dig_at k hk]

theorem index_dig : ∀ (k : Nat) (_ : k < 16) (w : World), (Instr.index 52 (.agg digCells) (.int .i64 k)).run Tryd.prog w = .ok (.int .u8 (dig k)) w
  | 0, _, _ => by kernel_rfl
  | 1, _, _ => by kernel_rfl
  | 2, _, _ => by kernel_rfl
  | 3, _, _ => by kernel_rfl
  | 4, _, _ => by kernel_rfl
  | 5, _, _ => by kernel_rfl
  | 6, _, _ => by kernel_rfl
  | 7, _, _ => by kernel_rfl
  | 8, _, _ => by kernel_rfl
  | 9, _, _ => by kernel_rfl
  | 10, _, _ => by kernel_rfl
  | 11, _, _ => by kernel_rfl
  | 12, _, _ => by kernel_rfl
  | 13, _, _ => by kernel_rfl
  | 14, _, _ => by kernel_rfl
  | 15, _, _ => by kernel_rfl
  | k + 16, h, _ => absurd h (by omega)

/-- What a byte is worth as a digit; whether it is one. -/
def dvalI (c : Int) : Int := if 48 ≤ c ∧ c ≤ 57 then c - 48 else if 97 ≤ c ∧ c ≤ 102 then c - 87 else 0
def dvalB (c : Int) : Bool := decide ((48 ≤ c ∧ c ≤ 57) ∨ (97 ≤ c ∧ c ≤ 102))
theorem dval_hit {c : Int} {k : Nat} (hk : k < 16) (h : dig k = c) : dvalI c = k ∧ dvalB c = true := by
  unfold dig at h
  unfold dvalI dvalB
  split at h
  · rw [if_pos (by omega)]; simp; omega
  · rw [if_neg (by omega), if_pos (by omega)]; simp; omega
theorem dval_miss {c : Int} (h : ∀ j, j < 16 → dig j ≠ c) : dvalI c = 0 ∧ dvalB c = false := by
  have hn : ¬ (48 ≤ c ∧ c ≤ 57) := fun hc => h (c - 48).toNat (by omega) (by unfold dig; rw [if_pos (by omega)]; omega)
  have hm : ¬ (97 ≤ c ∧ c ≤ 102) := fun hc => h (c - 87).toNat (by omega) (by unfold dig; rw [if_neg (by omega)]; omega)
  unfold dvalI dvalB
  rw [if_neg hn, if_neg hm]
  exact ⟨rfl, decide_eq_false (by omega)⟩
theorem ret_val {x y : Int} {a b : Bool} (h1 : x = y) (h2 : a = b) : Ending.returned (.tuple #[.int .u64 x, .bool a]) = .returned (.tuple #[.int .u64 y, .bool b]) := by rw [h1, h2]

set_option maxRecDepth 100000 in
set_option maxHeartbeats 1000000 in
theorem digitValue_any (c : Int) (w : World) (hD : Dig w) :
    Calls Tryd.prog 32 #[.int .u8 c] w fun e w' => e = .returned (.tuple #[.int .u64 (dvalI c), .bool (dvalB c)]) ∧ w' = w := by
  obtain ⟨t, fr, hg⟩ := hD
  have HG : Hid (w.heap[0]? = some (.cells digCells t fr)) := hg
  clear hg
  have hix := index_dig
  go_enter Tryd.func32, Tryd.ntmps32
  go_wp2_with (refine wpList_load_row rfl 52 _ rfl 0 rfl t digCells fr _ HG.out Tryd.underlying52 rfl (by kernel_rfl) ?_)
  go_loop [7] (fun i => ∃ k : Nat, k ≤ 16 ∧ i = .int .i64 k ∧ Hid (∀ j, j < k → dig j ≠ c)) (fun i => 16 - (intOf i).toNat)
  case atStart => exact ⟨0, by omega, rfl, fun j hj => absurd hj (by omega)⟩
  case round =>
    obtain ⟨k, hk, rfl, hne⟩ := hrel
    by_cases hlt : k < 16
    · by_cases he : dig k = c
      · have heb : (dig k == c) = true := beq_iff_eq.2 he
        have HE := dval_hit hlt he
        have H1 : Hid (dvalI c = k) := HE.1
        have H2 : Hid (dvalB c = true) := HE.2
        clear he HE
        go_wp2
        go_ret2
        exact ⟨ret_val H1.out.symm H2.out.symm, rfl⟩
      · have heb : (dig k == c) = false := beq_eq_false_iff_ne.2 he
        have HE : Hid (dig k ≠ c) := he
        clear he
        go_wp2
        go_round
        case rel => exact ⟨k + 1, by omega, by go_num, fun j hj => if e : j = k then e ▸ HE.out else hne.out j (by omega)⟩
        case measure => simp [intOf]; omega
    · obtain rfl : k = 16 := by omega
      have HE := dval_miss hne.out
      have H1 : Hid (dvalI c = 0) := HE.1
      have H2 : Hid (dvalB c = false) := HE.2
      clear HE
      go_wp2
      go_ret2
      exact ⟨ret_val H1.out.symm H2.out.symm, rfl⟩

/-! ### Parse -/
def bval (c : UInt8) : Nat := (dvalI c.toNat).toNat
def accum (l : List UInt8) : Nat := l.foldl (fun w c => w * 16 + bval c) 0
def allDig (l : List UInt8) : Bool := l.all fun c => dvalB c.toNat
theorem bval_lt (c : UInt8) : bval c < 16 := by
  unfold bval dvalI
  split
  · omega
  · split <;> omega
theorem bval_cast (c : UInt8) : (bval c : Int) = dvalI c.toNat := by
  have : 0 ≤ dvalI c.toNat := by unfold dvalI; split <;> (try split) <;> omega
  unfold bval; omega
theorem accum_snoc (l : List UInt8) (c : UInt8) : accum (l ++ [c]) = accum l * 16 + bval c := by simp [accum]
theorem accum_lt (l : List UInt8) : accum l < 16 ^ l.length := by
  suffices h : ∀ (l : List UInt8) (a n : Nat), a < 16 ^ n → l.foldl (fun w c => w * 16 + bval c) a < 16 ^ (n + l.length) from by simpa [accum] using h l 0 0 (by simp)
  intro l
  induction l with
  | nil => intro a n h; simpa using h
  | cons c r ih =>
    intro a n h
    have hb := bval_lt c
    have := ih (a * 16 + bval c) (n + 1) (by rw [Nat.pow_succ]; omega)
    simpa [Nat.add_assoc, Nat.add_comm 1] using this
theorem allDig_snoc (l : List UInt8) (c : UInt8) : allDig (l ++ [c]) = (allDig l && dvalB c.toNat) := by simp [allDig]
theorem take_snoc (s : ByteArray) (k : Nat) (h : k < s.size) : s.data.toList.take (k + 1) = s.data.toList.take k ++ [s[k]] := by
  rw [List.take_succ_eq_append_getElem (by simpa using h)]; rfl
theorem pow_16_le {k : Nat} (h : k < 16) : 16 ^ k ≤ 1152921504606846976 := by
  have : 16 ^ k ≤ 16 ^ 15 := Nat.pow_le_pow_right (by omega) (by omega)
  omega
theorem par_step (w v : Nat) (hw : w < 1152921504606846976) (hv : v < 16) : bits .or .u64 (IntKind.u64.wrap ((w : Int) * 16)) (v : Int) = ((w * 16 + v : Nat) : Int) := by
  have e : IntKind.u64.wrap ((w : Int) * 16) = ((w * 16 : Nat) : Int) := by rw [IntKind.wrap_u64]; omega
  rw [e, u64_or_nat _ _ (by omega) (by omega)]
  have := nat_join 4 (w * 16) v (by omega) (by omega)
  rw [this]

def parOk (s : ByteArray) : Bool := decide (s.size = 16) && allDig s.data.toList
def parT (s : ByteArray) : Int := if parOk s then (accum s.data.toList : Int) else 0
def parE (s : ByteArray) : Int := if parOk s then 0 else 10

set_option maxHeartbeats 400000 in
theorem parse_len (s : ByteArray) (w : World) (hn : s.size ≠ 16) :
    Calls Tryd.prog 24 #[.string s] w fun e w' => e = .returned (.tuple #[.int .u64 0, .int .i64 10]) ∧ w' = w := by
  have hn' : (((s.size : Nat) : Int) != 16) = true := by rw [bne_iff_ne]; omega
  go_enter Tryd.func24, Tryd.ntmps24
  go_wp2
  go_ret2
  exact ⟨rfl, rfl⟩

set_option maxRecDepth 100000 in
set_option maxHeartbeats 1000000 in
theorem parse_some (s : ByteArray) (w : World) (hn : s.size = 16) (hD : Dig w) :
    Calls Tryd.prog 24 #[.string s] w fun e w' => e = .returned (.tuple #[.int .u64 (parT s), .int .i64 (parE s)]) ∧ w' = w := by
  have HN : Hid (s.size = 16) := hn
  have hn' : (((s.size : Nat) : Int) != 16) = false := by rw [bne_eq_false_iff_eq]; omega
  have hsz : s.size ≤ 16 := by omega
  have hsz2 : 16 ≤ s.size := by omega
  clear hn
  have HD : Hid (Dig w) := hD
  clear hD
  go_enter Tryd.func24, Tryd.ntmps24
  go_wp2
  go_loop [4, 13] (fun t i => ∃ k : Nat, k ≤ s.size ∧ i = .int .i64 k ∧ t = .int .u64 (accum (s.data.toList.take k)) ∧ Hid (allDig (s.data.toList.take k) = true)) (fun _ i => s.size - (intOf i).toNat)
  case atStart => exact ⟨0, Nat.zero_le _, rfl, rfl, rfl⟩
  case round =>
    obtain ⟨k, hk, rfl, rfl, hA⟩ := hrel
    by_cases hlt : k < s.size
    · have ht := take_snoc s k hlt
      have hac := accum_lt (s.data.toList.take k)
      have hl : (s.data.toList.take k).length ≤ k := List.length_take_le _ _
      have hp := pow_16_le (show k < 16 by omega)
      have hq : 16 ^ (s.data.toList.take k).length ≤ 16 ^ k := Nat.pow_le_pow_right (by omega) hl
      have HB : Hid (accum (s.data.toList.take k) < 1152921504606846976) := (by omega : accum (s.data.toList.take k) < 1152921504606846976)
      have HT : Hid (s.data.toList.take (k + 1) = s.data.toList.take k ++ [s[k]]) := ht
      clear ht hac hl hp hq
      cases hb : dvalB (s[k].toNat : Int) with
      | true =>
        have HS : Hid (accum (s.data.toList.take (k + 1)) = accum (s.data.toList.take k) * 16 + bval s[k]) := by rw [HT.out]; exact accum_snoc _ _
        have HA : Hid (allDig (s.data.toList.take (k + 1)) = true) := by rw [HT.out]; show allDig _ = true; rw [allDig_snoc, hA.out, hb]; rfl
        go_wp2_with (go_at_call 32; refine (digitValue_any _ _ HD.out).mono ?_; rintro e w' ⟨rfl, rfl⟩)
        go_round
        case rel => exact ⟨k + 1, by omega, by go_num, by rw [HS.out, ← par_step _ _ HB.out (bval_lt _), bval_cast], HA⟩
        case measure => simp [intOf]; omega
      | false =>
        have HZ : Hid (parOk s = false) := by
          show parOk s = false
          unfold parOk
          have : allDig s.data.toList = false := by
            rw [← List.take_append_drop (k + 1) s.data.toList, HT.out]
            simp [allDig, hb]
          rw [this, Bool.and_false]
        go_wp2_with (go_at_call 32; refine (digitValue_any _ _ HD.out).mono ?_; rintro e w' ⟨rfl, rfl⟩)
        go_ret2
        exact ⟨by simp [parT, parE, HZ.out], rfl⟩
    · obtain rfl : k = s.size := by omega
      have HZ : Hid (parOk s = true) := by
        show parOk s = true
        have := hA.out
        rw [List.take_of_length_le (by simp)] at this
        simp [parOk, HN.out, this]
      have HV : Hid (accum (s.data.toList.take s.size) = accum s.data.toList) := by
        show accum (s.data.toList.take s.size) = _
        rw [List.take_of_length_le (by simp)]
      go_wp2
      go_ret2
      exact ⟨by simp [parT, parE, HZ.out, HV.out], rfl⟩

theorem parse_any (s : ByteArray) (w : World) (hD : Dig w) :
    Calls Tryd.prog 24 #[.string s] w fun e w' => e = .returned (.tuple #[.int .u64 (parT s), .int .i64 (parE s)]) ∧ w' = w := by
  by_cases hn : s.size = 16
  · exact parse_some s w hn hD
  · have e1 : parT s = 0 := by simp [parT, parOk, hn]
    have e2 : parE s = 10 := by simp [parE, parOk, hn]
    rw [e1, e2]
    exact parse_len s w hn
end Go.Proofs.YtdngpjgpomjncaaDoor
