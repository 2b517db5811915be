/- What num, Check, Less, Cell, Key, compare, key do; '==' of keys. -/
import Derived.Test.YthonibklaijejaaOrMem
import Derived.Laws.StructEq
namespace Go.Proofs.Ythonibklaijejaa.Or
open Go.RowKit

set_option maxHeartbeats 400000 in
theorem num_any (x : Int) (w : World) :
    Calls Try.prog 11 #[.int .i64 x] w fun e w' => e = .returned (.int .i64 x) ∧ w' = w := by
  go_enter Try.func11, Try.ntmps11
  go_wp2
  go_ret
  exact ⟨rfl, rfl⟩
theorem eq2 (a b : K) (w : World) : (Op.equalIn 10000 23 (.agg #[.int .i64 a.1, .int .i64 a.2]) (.agg #[.int .i64 b.1, .int .i64 b.2])).run Try.prog w = .ok (decide (a = b)) w := by
  have u3 := Try.underlying3
  have a3 := Try.isAgg3
  have z3 := Try.sizeOf3
  have hS : Try.prog.underlying 23 = some (.struct (Try.prog.fieldsOf 23)) := by kernel_rfl
  rw [show (10000 : Nat) = 9999 + 1 from rfl, run_equalIn_agg w 9999 23 _ _ hS (by kernel_rfl)]
  simp only [Program.fieldsOf, Try.underlying23]
  go_simp
  by_cases h1 : a.1 = b.1 <;> by_cases h2 : a.2 = b.2 <;> simp [h1, h2, Prod.ext_iff]
theorem eq_yes {a b : K} (h : a = b) (w : World) : (Op.equalIn 10000 23 (.agg #[.int .i64 a.1, .int .i64 a.2]) (.agg #[.int .i64 b.1, .int .i64 b.2])).run Try.prog w = .ok true w := by rw [eq2]; simp [h]
theorem eq_no {a b : K} (h : ¬ a = b) (w : World) : (Op.equalIn 10000 23 (.agg #[.int .i64 a.1, .int .i64 a.2]) (.agg #[.int .i64 b.1, .int .i64 b.2])).run Try.prog w = .ok false w := by rw [eq2]; simp [h]

set_option maxHeartbeats 1000000 in
theorem check_any (k : K) (w : World) :
    Calls Try.prog 12 #[(.agg #[.int .i64 k.1, .int .i64 k.2])] w fun e w' => e = .returned (.int .i64 (chk k)) ∧ Grows w w' := by
  by_cases h1 : 0 ≤ k.1
  · by_cases h2 : k.1 ≤ 1023
    · by_cases h3 : -1 ≤ k.2
      · by_cases h4 : k.2 < 8
        · have H : Hid (chk k = 0) := by unfold Hid chk; rw [if_pos (ok_iff.2 (by omega))]
          go_enter Try.func12, Try.ntmps12
          go_wp2
          go_ret
          exact ⟨ret_int H.out.symm, (Grows.refl _).alloc _⟩
        · have H : Hid (chk k = 2) := by unfold Hid chk; rw [if_neg (by rw [ok_iff]; omega)]
          go_enter Try.func12, Try.ntmps12
          go_wp2
          go_ret
          exact ⟨ret_int H.out.symm, (Grows.refl _).alloc _⟩
      · have H : Hid (chk k = 2) := by unfold Hid chk; rw [if_neg (by rw [ok_iff]; omega)]
        go_enter Try.func12, Try.ntmps12
        go_wp2
        go_ret
        exact ⟨ret_int H.out.symm, (Grows.refl _).alloc _⟩
    · have H : Hid (chk k = 2) := by unfold Hid chk; rw [if_neg (by rw [ok_iff]; omega)]
      go_enter Try.func12, Try.ntmps12
      go_wp2
      go_ret
      exact ⟨ret_int H.out.symm, (Grows.refl _).alloc _⟩
  · have H : Hid (chk k = 2) := by unfold Hid chk; rw [if_neg (by rw [ok_iff]; omega)]
    go_enter Try.func12, Try.ntmps12
    go_wp2
    go_ret
    exact ⟨ret_int H.out.symm, (Grows.refl _).alloc _⟩
theorem check_yes {k : K} (h : okK k = true) (w : World) : Calls Try.prog 12 #[(.agg #[.int .i64 k.1, .int .i64 k.2])] w fun e w' => e = .returned (.int .i64 0) ∧ Below w.heap.size w w' := by
  refine (check_any k w).mono ?_
  rintro e w' ⟨rfl, g⟩
  exact ⟨by simp [chk, h], g.below⟩
theorem check_no {k : K} (h : okK k = false) (w : World) : Calls Try.prog 12 #[(.agg #[.int .i64 k.1, .int .i64 k.2])] w fun e w' => e = .returned (.int .i64 2) ∧ Below w.heap.size w w' := by
  refine (check_any k w).mono ?_
  rintro e w' ⟨rfl, g⟩
  exact ⟨by simp [chk, h], g.below⟩

set_option maxHeartbeats 1000000 in
theorem less_any (a b : K) (w : World) :
    Calls Try.prog 14 #[(.agg #[.int .i64 a.1, .int .i64 a.2]), (.agg #[.int .i64 b.1, .int .i64 b.2])] w fun e w' => e = .returned (.bool (ltK a b)) ∧ Grows w w' := by
  by_cases h1 : a.1 < b.1
  · have H : Hid (ltK a b = true) := lt_iff.2 (by omega)
    go_enter Try.func14, Try.ntmps14
    go_wp2
    go_ret
    exact ⟨ret_bool H.out.symm, ((Grows.refl _).alloc _).alloc _⟩
  · by_cases h2 : a.1 = b.1
    · have H2 := hid h2
      have h3 : (a.1 == b.1) = true := by simp [h2]
      clear h2
      by_cases h4 : a.2 < b.2
      · have H : Hid (ltK a b = true) := lt_iff.2 (by have := H2.out; omega)
        go_enter Try.func14, Try.ntmps14
        go_wp2
        go_ret
        exact ⟨ret_bool H.out.symm, ((Grows.refl _).alloc _).alloc _⟩
      · have H : Hid (ltK a b = false) := lt_not.2 (by have := H2.out; omega)
        go_enter Try.func14, Try.ntmps14
        go_wp2
        go_ret
        exact ⟨ret_bool H.out.symm, ((Grows.refl _).alloc _).alloc _⟩
    · have H : Hid (ltK a b = false) := lt_not.2 (by omega)
      have h3 : (a.1 == b.1) = false := by simp [h2]
      clear h2
      go_enter Try.func14, Try.ntmps14
      go_wp2
      go_ret
      exact ⟨ret_bool H.out.symm, ((Grows.refl _).alloc _).alloc _⟩
theorem less_is {a b : K} {r : Bool} (h : ltK a b = r) (w : World) : Calls Try.prog 14 #[(.agg #[.int .i64 a.1, .int .i64 a.2]), (.agg #[.int .i64 b.1, .int .i64 b.2])] w fun e w' => e = .returned (.bool r) ∧ Below w.heap.size w w' := by
  refine (less_any a b w).mono ?_
  rintro e w' ⟨rfl, g⟩
  exact ⟨by rw [h], g.below⟩

set_option maxHeartbeats 1000000 in
theorem cell_any (k : K) (w : World) :
    Calls Try.prog 16 #[(.agg #[.int .i64 k.1, .int .i64 k.2])] w fun e w' => e = .returned (.int .i64 (cellK k)) ∧ Below w.heap.size w w' := by
  cases hk : okK k with
  | true =>
    have H : Hid (cellK k = 9 * k.1 + k.2 + 1) := cell_ok hk
    have hr := ok_iff.1 hk
    obtain ⟨r1, r2, r3, r4⟩ := hr
    have hc := fun W => check_yes hk W
    clear hk
    go_enter Try.func16, Try.ntmps16
    go_wp2_with fail
    refine (hc _).mono ?_
    rintro e w1 ⟨rfl, b1⟩
    have A1 := (at_new w k 23).below b1
    obtain ⟨c0, c1⟩ := A1
    have B1 := hid (q_trans (alloc_below w _) b1)
    clear b1 hc
    go_wp2
    go_ret
    exact ⟨ret_int (by rw [H.out]), B1.out⟩
  | false =>
    have H : Hid (cellK k = -1) := cell_no hk
    have hc := fun W => check_no hk W
    clear hk
    go_enter Try.func16, Try.ntmps16
    go_wp2_with fail
    refine (hc _).mono ?_
    rintro e w1 ⟨rfl, b1⟩
    have B1 := hid (q_trans (alloc_below w _) b1)
    clear b1 hc
    go_wp2
    go_ret
    exact ⟨ret_int H.out.symm, B1.out⟩
set_option maxHeartbeats 400000 in
theorem key_any (o s : Int) (w : World) :
    Calls Try.prog 28 #[.int .i64 o, .int .i64 s] w fun e w' => e = .returned (.agg #[.int .i64 o, .int .i64 s]) ∧ Below w.heap.size w w' := by
  go_enter Try.func28, Try.ntmps28
  go_wp2
  refine bodyPost_ret (v := .agg #[.int .i64 o, .int .i64 s]) (by simp [results, Try.results28, go_sem]) rfl ⟨rfl, ?_⟩
  repeat (first | exact q_alloc (Below.refl _ _) _ | refine q_set ?_ (by simp) _)
/-- What the program, and the document, divide. -/
theorem quo_rem (c : Int) : ∃ q r : Int, Int.tdiv c 9 = q ∧ Int.tmod c 9 = r ∧ c = 9 * q + r ∧ -9 < r ∧ r < 9 ∧ (0 ≤ c → 0 ≤ r ∧ 0 ≤ q) ∧ (c < 0 → r ≤ 0 ∧ q ≤ 0) := by
  refine ⟨_, _, rfl, rfl, ?_, ?_, ?_, ?_, ?_⟩
  · have := Int.mul_tdiv_add_tmod c 9
    omega
  · have := Int.lt_tmod_of_pos c (b := 9) (by omega)
    omega
  · exact Int.tmod_lt_of_pos c (by omega)
  · intro h
    exact ⟨Int.tmod_nonneg _ h, Int.tdiv_nonneg h (by omega)⟩
  · intro h
    have h1 := Int.tmod_nonneg (b := 9) (a := -c) (by omega)
    have h2 := Int.tdiv_nonneg (a := -c) (b := 9) (by omega) (by omega)
    rw [Int.neg_tmod] at h1
    rw [Int.neg_tdiv] at h2
    omega
theorem key_quo {c q r : Int} (h : c = 9 * q + r) (h1 : -9 < r) (h2 : r < 9) (h3 : 0 ≤ c → 0 ≤ r ∧ 0 ≤ q) (h4 : c < 0 → r ≤ 0 ∧ q ≤ 0) : okK (q, r + -1) = decide (0 ≤ c ∧ c < 9216) := by
  by_cases hc : 0 ≤ c ∧ c < 9216
  · rw [decide_eq_true hc, ok_iff]
    have := h3 hc.1
    simp only
    omega
  · rw [decide_eq_false hc, ok_not]
    simp only
    by_cases h0 : 0 ≤ c
    · have := h3 h0
      omega
    · have := h4 (by omega)
      omega
theorem keyK_quo {c q r : Int} (h : c = 9 * q + r) (h2 : r < 9) (h3 : 0 ≤ c → 0 ≤ r ∧ 0 ≤ q) (hc : 0 ≤ c ∧ c < 9216) : keyK c = (q, r + -1) := by
  have := h3 hc.1
  unfold keyK
  rw [if_pos hc]
  apply Prod.ext <;> simp only <;> omega
/-- An int. -/
abbrev InI (x : Int) : Prop := -9223372036854775808 ≤ x ∧ x ≤ 9223372036854775807
set_option maxHeartbeats 1000000 in
theorem keyOf_any (c : Int) (w : World) (hi : InI c) :
    Calls Try.prog 9 #[.int .i64 c] w fun e w' => e = .returned (.tuple #[(.agg #[.int .i64 (keyK c).1, .int .i64 (keyK c).2]), .int .i64 (keyE c)]) ∧ Below w.heap.size w w' := by
  obtain ⟨q, r, e1, e2, h, h1, h2, h3, h4⟩ := quo_rem c
  have hok := key_quo h h1 h2 h3 h4
  have b1 : -9223372036854775808 ≤ q := by omega
  have b2 : q ≤ 9223372036854775807 := by omega
  by_cases hc : 0 ≤ c ∧ c < 9216
  · have HK := hid (keyK_quo h h2 h3 hc)
    have HE : Hid (keyE c = 0) := by unfold Hid keyE; rw [if_pos hc]
    rw [decide_eq_true hc] at hok
    have hch := fun W => check_yes hok W
    clear hok h h3 h4 hc
    go_enter Try.func9, Try.ntmps9
    go_wp2_with fail
    refine (hch _).mono ?_
    rintro e w1 ⟨rfl, b⟩
    have B1 := hid (q_trans (q_alloc (alloc_below w _) _) b)
    have a0 : w1.cell? ⟨w.heap.size, 0, none⟩ = some (.int .i64 0) := (b.cell (by simp; omega)).trans (by simp)
    have a1 : w1.cell? ⟨w.heap.size, 1, none⟩ = some (.int .i64 0) := (b.cell (by simp; omega)).trans (by simp)
    have f0 : w1.frozen? ⟨w.heap.size, 0, none⟩ = false := (b.frozen (by simp; omega)).trans (by simp)
    have f1 : w1.frozen? ⟨w.heap.size, 1, none⟩ = false := (b.frozen (by simp; omega)).trans (by simp)
    have c0 : w1.cell? ⟨w.heap.size + 1, 0, none⟩ = some (.int .i64 q) := (b.cell (by simp)).trans (by simp)
    have c1 : w1.cell? ⟨w.heap.size + 1, 1, none⟩ = some (.int .i64 (r + -1)) := (b.cell (by simp)).trans (by simp)
    clear b hch
    go_wp2
    refine bodyPost_ret (v := .tuple #[.agg #[.int .i64 q, .int .i64 (r + -1)], .int .i64 0]) (by simp [results, Try.results9, go_sem, *]) rfl ⟨by rw [HK.out, HE.out], ?_⟩
    exact q_set (q_set B1.out (Nat.le_refl _) _) (Nat.le_refl _) _
  · have HK : Hid (keyK c = (0, 0)) := by unfold Hid keyK; rw [if_neg hc]
    have HE : Hid (keyE c = 2) := by unfold Hid keyE; rw [if_neg hc]
    rw [decide_eq_false hc] at hok
    have hch := fun W => check_no hok W
    clear hok h h3 h4 hc
    go_enter Try.func9, Try.ntmps9
    go_wp2_with fail
    refine (hch _).mono ?_
    rintro e w1 ⟨rfl, b⟩
    have B1 := hid (q_trans (q_alloc (alloc_below w _) _) b)
    have a0 : w1.cell? ⟨w.heap.size, 0, none⟩ = some (.int .i64 0) := (b.cell (by simp; omega)).trans (by simp)
    have a1 : w1.cell? ⟨w.heap.size, 1, none⟩ = some (.int .i64 0) := (b.cell (by simp; omega)).trans (by simp)
    have f0 : w1.frozen? ⟨w.heap.size, 0, none⟩ = false := (b.frozen (by simp; omega)).trans (by simp)
    have f1 : w1.frozen? ⟨w.heap.size, 1, none⟩ = false := (b.frozen (by simp; omega)).trans (by simp)
    clear b hch
    go_wp2
    refine bodyPost_ret (v := .tuple #[.agg #[.int .i64 0, .int .i64 0], .int .i64 2]) (by simp [results, Try.results9, go_sem, *]) rfl ⟨by rw [HK.out, HE.out], ?_⟩
    exact q_set (q_set B1.out (Nat.le_refl _) _) (Nat.le_refl _) _

/-! ### compare -/
/-- What compare says. -/
def cmpK (a b : K) : Int := if a = b then 0 else if ltK a b then -1 else 1
theorem cmp_lt (a b : K) : (decide (cmpK a b < 0)) = ltK a b := by
  unfold cmpK
  by_cases h : a = b
  · subst h
    rw [lt_irr]
    simp
  · cases hl : ltK a b <;> simp [h]
set_option maxHeartbeats 1000000 in
theorem compare_any (a b : K) (w : World) :
    Calls Try.prog 31 #[(.agg #[.int .i64 a.1, .int .i64 a.2]), (.agg #[.int .i64 b.1, .int .i64 b.2])] w fun e w' => e = .returned (.int .i64 (cmpK a b)) ∧ Grows w w' := by
  by_cases h : a = b
  · have HC : Hid (cmpK a b = 0) := by unfold Hid cmpK; rw [if_pos h]
    have q := eq_yes h
    clear h
    go_enter Try.func31, Try.ntmps31
    go_wp2
    go_ret
    exact ⟨ret_int HC.out.symm, ((Grows.refl _).alloc _).alloc _⟩
  · have q := eq_no h
    have hl := fun W => less_any a b W
    cases hlt : ltK a b with
    | true =>
      have HC : Hid (cmpK a b = -1) := by unfold Hid cmpK; rw [if_neg h, if_pos hlt]
      rw [hlt] at hl
      clear h hlt
      go_enter Try.func31, Try.ntmps31
      go_wp2_with fail
      refine (hl _).mono ?_
      rintro e w1 ⟨rfl, g⟩
      have G := hid ((((Grows.refl w).alloc _).alloc _).trans g)
      clear g hl
      go_wp2
      go_ret
      exact ⟨ret_int HC.out.symm, G.out⟩
    | false =>
      have HC : Hid (cmpK a b = 1) := by unfold Hid cmpK; rw [if_neg h, if_neg (by simp [hlt])]
      rw [hlt] at hl
      clear h hlt
      go_enter Try.func31, Try.ntmps31
      go_wp2_with fail
      refine (hl _).mono ?_
      rintro e w1 ⟨rfl, g⟩
      have G := hid ((((Grows.refl w).alloc _).alloc _).trans g)
      clear g hl
      go_wp2
      go_ret
      exact ⟨ret_int HC.out.symm, G.out⟩
end Go.Proofs.Ythonibklaijejaa.Or
