/- The walk of BitsRises: it answers true; texts rise as words do. -/
import Derived.Test.YtdngpjgpomjncaaDoorRefC
import Derived.Test.YtdngpjgpomjncaaDoorW5
namespace Go.Proofs.YtdngpjgpomjncaaDoor
open Go.RowKit

/-- A number out of its digits, the greatest first. -/
def numD : List Nat → Nat
  | [] => 0
  | d :: r => d * 16 ^ r.length + numD r
theorem numD_lt : ∀ l : List Nat, (∀ d ∈ l, d < 16) → numD l < 16 ^ l.length
  | [], _ => by simp [numD]
  | d :: r, h => by
    have h1 := numD_lt r fun e he => h e (by simp [he])
    have h2 := h d (by simp)
    rw [numD, List.length_cons, Nat.pow_succ]
    have : d * 16 ^ r.length ≤ 15 * 16 ^ r.length := Nat.mul_le_mul_right _ (by omega)
    omega
def dByte (d : Nat) : UInt8 := UInt8.ofNat (dig d).toNat
theorem dByte_val (d : Nat) (h : d < 16) : (dByte d).toNat = if d < 10 then 48 + d else 87 + d := by
  have : d = 0 ∨ d = 1 ∨ d = 2 ∨ d = 3 ∨ d = 4 ∨ d = 5 ∨ d = 6 ∨ d = 7 ∨ d = 8 ∨ d = 9 ∨ d = 10 ∨ d = 11 ∨ d = 12 ∨ d = 13 ∨ d = 14 ∨ d = 15 := by omega
  rcases this with rfl | rfl | rfl | rfl | rfl | rfl | rfl | rfl | rfl | rfl | rfl | rfl | rfl | rfl | rfl | rfl <;> rfl
theorem dByte_lt (d e : Nat) (hd : d < 16) (he : e < 16) : dByte d < dByte e ↔ d < e := by
  rw [UInt8.lt_iff_toNat_lt, dByte_val d hd, dByte_val e he]
  split <;> split <;> omega
theorem dByte_eq (d e : Nat) (hd : d < 16) (he : e < 16) : dByte d = dByte e ↔ d = e := by
  constructor
  · intro h
    have := congrArg UInt8.toNat h
    rw [dByte_val d hd, dByte_val e he] at this
    split at this <;> split at this <;> omega
  · rintro rfl; rfl
theorem less_num : ∀ l m : List Nat, l.length = m.length → (∀ d ∈ l, d < 16) → (∀ d ∈ m, d < 16) → Op.bytesLess (l.map dByte) (m.map dByte) = decide (numD l < numD m)
  | [], [], _, _, _ => rfl
  | d :: l, e :: m, hl, h1, h2 => by
    have ih := less_num l m (by simpa using hl) (fun x hx => h1 x (by simp [hx])) (fun x hx => h2 x (by simp [hx]))
    have a1 := numD_lt l fun x hx => h1 x (by simp [hx])
    have a2 := numD_lt m fun x hx => h2 x (by simp [hx])
    have hd := h1 d (by simp)
    have he := h2 e (by simp)
    have hlen : l.length = m.length := by simpa using hl
    rw [List.map_cons, List.map_cons, Op.bytesLess, ih, numD, numD, hlen]
    rw [hlen] at a1
    have hlt := dByte_lt d e hd he
    have heq := dByte_eq d e hd he
    rw [Bool.eq_iff_iff]
    simp only [Bool.or_eq_true, Bool.and_eq_true, decide_eq_true_eq, beq_iff_eq, hlt, heq]
    generalize 16 ^ m.length = P at a1 a2
    constructor
    · rintro (h | ⟨rfl, h⟩)
      · have : (d + 1) * P ≤ e * P := Nat.mul_le_mul_right _ h
        rw [Nat.add_mul] at this
        omega
      · omega
    · intro h
      by_cases h3 : d < e
      · exact .inl h3
      · by_cases h4 : d = e
        · subst h4; exact .inr ⟨rfl, by omega⟩
        · have : (e + 1) * P ≤ d * P := Nat.mul_le_mul_right _ (by omega)
          rw [Nat.add_mul] at this
          omega

/-- The digits of a word. -/
def digsL (x j : Nat) : List Nat := (List.range j).map (digN x)
theorem numD_snoc : ∀ (l : List Nat) (d : Nat), numD (l ++ [d]) = numD l * 16 + d
  | [], d => by simp [numD]
  | e :: l, d => by
    rw [List.cons_append, numD, numD, numD_snoc l d, List.length_append, List.length_singleton, Nat.pow_succ, Nat.add_mul, Nat.mul_assoc]
    omega
theorem numD_digs (x : Nat) (hx : x < 18446744073709551616) : ∀ j, j ≤ 16 → numD (digsL x j) = x / 2 ^ (64 - 4 * j) := by
  intro j
  induction j with
  | zero => intro _; rw [Nat.div_eq_of_lt (by omega)]; rfl
  | succ j ih =>
    intro hj
    have e : digsL x (j + 1) = digsL x j ++ [digN x j] := by simp [digsL, List.range_succ]
    rw [e, numD_snoc, ih (by omega)]
    have e1 : 64 - 4 * (j + 1) = 60 - 4 * j := by omega
    have e2 : 64 - 4 * j = 60 - 4 * j + 4 := by omega
    unfold digN
    rw [e1, e2, Nat.pow_add, ← Nat.div_div_eq_div_mul]
    have := Nat.div_add_mod (x / 2 ^ (60 - 4 * j)) (2 ^ 4)
    omega
theorem textS_list (x : Nat) : (textS x).data.toList = (digsL x 16).map dByte := by
  rw [← preS_text]
  simp [preS, digsL]
  intro a _
  rfl
theorem digs_lt (x j : Nat) : ∀ d ∈ digsL x j, d < 16 := by
  intro d hd
  simp only [digsL, List.mem_map] at hd
  obtain ⟨k, _, rfl⟩ := hd
  exact digN_lt x k
theorem text_less (x y : Nat) (hx : x < 18446744073709551616) (hy : y < 18446744073709551616) : Op.bytesLess (textS x).toList (textS y).toList = decide (x < y) := by
  rw [ByteArray.toList_eq, ByteArray.toList_eq, textS_list, textS_list, less_num _ _ (by simp [digsL]) (digs_lt x 16) (digs_lt y 16), numD_digs x hx 16 (by omega), numD_digs y hy 16 (by omega)]
  simp
theorem text_size (x : Nat) : (textS x).size = 16 := by rw [← preS_text]; exact preS_size x 16
theorem accum_dig : ∀ (l : List Nat), (∀ d ∈ l, d < 16) → allDig (l.map dByte) = true ∧ ∀ a, (l.map dByte).foldl (fun w c => w * 16 + bval c) a = a * 16 ^ l.length + numD l
  | [], _ => ⟨rfl, fun a => by simp [numD]⟩
  | d :: r, h => by
    obtain ⟨h1, h2⟩ := accum_dig r fun e he => h e (by simp [he])
    have hd := h d (by simp)
    have hv := dByte_val d hd
    have hb : dvalB (dByte d).toNat = true ∧ bval (dByte d) = d := by
      unfold bval dvalB dvalI
      rw [hv]
      split
      · rw [if_pos (by omega)]; simp; omega
      · rw [if_neg (by omega), if_pos (by omega)]; simp; omega
    refine ⟨by simp only [allDig, List.map_cons, List.all_cons, hb.1, Bool.true_and]; exact h1, fun a => ?_⟩
    rw [List.map_cons, List.foldl_cons, h2, hb.2, numD, List.length_cons, Nat.pow_succ, Nat.add_mul, Nat.mul_assoc, Nat.mul_comm 16]
    omega
theorem parse_text (x : Nat) (hx : x < 18446744073709551616) : parT (textS x) = x ∧ parE (textS x) = 0 := by
  obtain ⟨h1, h2⟩ := accum_dig (digsL x 16) (digs_lt x 16)
  have hok : parOk (textS x) = true := by
    unfold parOk
    rw [text_size, textS_list, h1]
    rfl
  have ha : accum (textS x).data.toList = x := by
    rw [textS_list]
    show List.foldl _ 0 _ = x
    rw [h2 0, numD_digs x hx 16 (by omega)]
    simp
  exact ⟨by rw [parT, if_pos hok, ha], by rw [parE, if_pos hok]⟩

set_option maxRecDepth 100000 in
set_option maxHeartbeats 2000000 in
theorem rises_core (v x : Int) (s t : ByteArray) (w : World) (HD : Hid (Dig w))
    (H1 : Hid (∀ W : World, Dig W → Calls Tryd.prog 26 #[.int .u64 v] W fun e w' => e = .returned (.string s) ∧ Below W.heap.size W w'))
    (H2 : Hid (∀ W : World, Dig W → Calls Tryd.prog 26 #[.int .u64 x] W fun e w' => e = .returned (.string t) ∧ Below W.heap.size W w'))
    (H3 : Hid (∀ W : World, Dig W → Calls Tryd.prog 24 #[.string s] W fun e w' => e = .returned (.tuple #[.int .u64 v, .int .i64 0]) ∧ w' = W))
    (hs : s.size = 16) (hc : Hid ((decide (v < x) = true ∧ Op.bytesLess s.toList t.toList = true) ∨ (decide (v < x) = false ∧ Op.bytesLess s.toList t.toList = false))) :
    Calls Tryd.prog 8 #[.int .u64 v, .int .u64 x] w fun e w' => e = .returned (.bool true) ∧ Below w.heap.size w w' := by
  rcases hc.out with ⟨h1, h2⟩ | ⟨h1, h2⟩
  all_goals
    clear hc
    go_enter Tryd.func8, Tryd.ntmps8
    go_wp2_with fail
    refine (H1.out _ HD.out).mono ?_
    rintro e w1 ⟨rfl, b1⟩
    go_wp2_with fail
    refine (H3.out _ (HD.out.below b1)).mono ?_
    rintro e w2 ⟨rfl, rfl⟩
    go_wp2_with fail
    refine (H1.out _ (HD.out.below b1)).mono ?_
    rintro e w3 ⟨rfl, b3⟩
    replace b3 := q_trans b1 b3
    go_wp2_with fail
    refine (H2.out _ (HD.out.below b3)).mono ?_
    rintro e w4 ⟨rfl, b4⟩
    replace b4 := q_trans b3 b4
    clear b1 b3
    go_wp2_with (first | (go_at_call 15; refine (num_any _ _).mono ?_; rintro e w5 ⟨rfl, rfl⟩) | (go_at_call 16; refine (live_any _ (HD.out.below b4)).mono ?_; rintro e w9 ⟨rfl, b9⟩; replace b9 := q_trans b4 b9))
    go_ret
    exact ⟨rfl, b9⟩

theorem rises_any (v x : Int) (w : World) (hv : U64 v) (hx : U64 x) (hD : Dig w) :
    Calls Tryd.prog 8 #[.int .u64 v, .int .u64 x] w fun e w' => e = .returned (.bool true) ∧ Below w.heap.size w w' := by
  obtain ⟨y, rfl⟩ := Int.eq_ofNat_of_zero_le hv.1
  obtain ⟨z, rfl⟩ := Int.eq_ofNat_of_zero_le hx.1
  have hy : y < 18446744073709551616 := by have := hv.2; omega
  have hz : z < 18446744073709551616 := by have := hx.2; omega
  refine rises_core y z (textS y) (textS z) w hD (fun W h => text_any y W hy h) (fun W h => text_any z W hz h) (fun W h => ?_) (text_size y) ?_
  · have := parse_any (textS y) W h
    rw [(parse_text y hy).1, (parse_text y hy).2] at this
    exact this
  · show _ ∨ _
    rw [text_less y z hy hz]
    by_cases h : y < z
    · exact .inl ⟨decide_eq_true (by omega), by simp [h]⟩
    · exact .inr ⟨decide_eq_false (by omega), by simp [h]⟩
end Go.Proofs.YtdngpjgpomjncaaDoor
