/- What the document's Is, Less, Cell, Key do. -/
import Derived.Test.YthonibklaijejaaOrW1
namespace Go.Proofs.Ythonibklaijejaa.Or
open Go.RowKit

set_option maxHeartbeats 1000000 in
theorem ris_any (k : K) (w : World) :
    Calls Try.prog 13 #[(.agg #[.int .i64 k.1, .int .i64 k.2])] w fun e w' => e = .returned (.bool (okK k)) ∧ Below w.heap.size w w' := by
  by_cases h1 : 0 ≤ k.1
  · by_cases h2 : k.1 ≤ 1023
    · by_cases h3 : -1 ≤ k.2
      · by_cases h4 : k.2 ≤ 7
        · have H : Hid (okK k = true) := ok_iff.2 (by omega)
          go_enter Try.func13, Try.ntmps13
          go_wp2
          go_ret
          exact ⟨ret_bool H.out.symm, alloc_below _ _⟩
        · have H : Hid (okK k = false) := ok_not.2 (by omega)
          go_enter Try.func13, Try.ntmps13
          go_wp2
          go_ret
          exact ⟨ret_bool H.out.symm, alloc_below _ _⟩
      · have H : Hid (okK k = false) := ok_not.2 (by omega)
        go_enter Try.func13, Try.ntmps13
        go_wp2
        go_ret
        exact ⟨ret_bool H.out.symm, alloc_below _ _⟩
    · have H : Hid (okK k = false) := ok_not.2 (by omega)
      go_enter Try.func13, Try.ntmps13
      go_wp2
      go_ret
      exact ⟨ret_bool H.out.symm, alloc_below _ _⟩
  · have H : Hid (okK k = false) := ok_not.2 (by omega)
    go_enter Try.func13, Try.ntmps13
    go_wp2
    go_ret
    exact ⟨ret_bool H.out.symm, alloc_below _ _⟩
theorem ris_is {k : K} {r : Bool} (h : okK k = r) (w : World) : Calls Try.prog 13 #[(.agg #[.int .i64 k.1, .int .i64 k.2])] w fun e w' => e = .returned (.bool r) ∧ Below w.heap.size w w' := by
  rw [← h]
  exact ris_any k w
set_option maxHeartbeats 1000000 in
theorem rless_any (a b : K) (w : World) :
    Calls Try.prog 15 #[(.agg #[.int .i64 a.1, .int .i64 a.2]), (.agg #[.int .i64 b.1, .int .i64 b.2])] w fun e w' => e = .returned (.bool (ltK a b)) ∧ Grows w w' := by
  by_cases h1 : a.1 < b.1
  · have H : Hid (ltK a b = true) := lt_iff.2 (by omega)
    go_enter Try.func15, Try.ntmps15
    go_wp2
    go_ret
    exact ⟨ret_bool H.out.symm, ((Grows.refl _).alloc _).alloc _⟩
  · by_cases h2 : a.1 = b.1
    · have H2 := hid h2
      have h3 : (a.1 == b.1) = true := by simp [h2]
      clear h2
      by_cases h4 : a.2 < b.2
      · have H : Hid (ltK a b = true) := lt_iff.2 (by have := H2.out; omega)
        go_enter Try.func15, Try.ntmps15
        go_wp2
        go_ret
        exact ⟨ret_bool H.out.symm, ((Grows.refl _).alloc _).alloc _⟩
      · have H : Hid (ltK a b = false) := lt_not.2 (by have := H2.out; omega)
        go_enter Try.func15, Try.ntmps15
        go_wp2
        go_ret
        exact ⟨ret_bool H.out.symm, ((Grows.refl _).alloc _).alloc _⟩
    · have H : Hid (ltK a b = false) := lt_not.2 (by omega)
      have h3 : (a.1 == b.1) = false := by simp [h2]
      clear h2
      go_enter Try.func15, Try.ntmps15
      go_wp2
      go_ret
      exact ⟨ret_bool H.out.symm, ((Grows.refl _).alloc _).alloc _⟩
theorem rless_is {a b : K} {r : Bool} (h : ltK a b = r) (w : World) : Calls Try.prog 15 #[(.agg #[.int .i64 a.1, .int .i64 a.2]), (.agg #[.int .i64 b.1, .int .i64 b.2])] w fun e w' => e = .returned (.bool r) ∧ Below w.heap.size w w' := by
  refine (rless_any a b w).mono ?_
  rintro e w' ⟨rfl, g⟩
  exact ⟨by rw [h], g.below⟩

set_option maxHeartbeats 1000000 in
theorem rcell_any (k : K) (w : World) :
    Calls Try.prog 17 #[(.agg #[.int .i64 k.1, .int .i64 k.2])] w fun e w' => e = .returned (.int .i64 (cellK k)) ∧ Below w.heap.size w w' := by
  cases hk : okK k with
  | true =>
    have H : Hid (cellK k = 9 * k.1 + k.2 + 1) := cell_ok hk
    have hr := ok_iff.1 hk
    obtain ⟨r1, r2, r3, r4⟩ := hr
    have hc := fun W => ris_is hk W
    clear hk
    go_enter Try.func17, Try.ntmps17
    go_wp2_with fail
    refine (hc _).mono ?_
    rintro e w1 ⟨rfl, b1⟩
    have A1 := (at_new w k 23).below b1
    obtain ⟨c0, c1⟩ := A1
    have B1 := hid (q_trans (alloc_below w _) b1)
    clear b1 hc
    go_wp2
    go_ret
    exact ⟨ret_int (by rw [H.out]), B1.out⟩
  | false =>
    have H : Hid (cellK k = -1) := cell_no hk
    have hc := fun W => ris_is hk W
    clear hk
    go_enter Try.func17, Try.ntmps17
    go_wp2_with fail
    refine (hc _).mono ?_
    rintro e w1 ⟨rfl, b1⟩
    have B1 := hid (q_trans (alloc_below w _) b1)
    clear b1 hc
    go_wp2
    go_ret
    exact ⟨ret_int H.out.symm, B1.out⟩
set_option maxHeartbeats 1000000 in
theorem rkeyOf_any (c : Int) (w : World) (hi : InI c) :
    Calls Try.prog 10 #[.int .i64 c] w fun e w' => e = .returned (.tuple #[(.agg #[.int .i64 (keyK c).1, .int .i64 (keyK c).2]), .int .i64 (keyE c)]) ∧ Below w.heap.size w w' := by
  obtain ⟨q, r, e1, e2, h, h1, h2, h3, h4⟩ := quo_rem c
  have hok := key_quo h h1 h2 h3 h4
  rw [show r + -1 = r - 1 by omega] at hok
  have b1 : -9223372036854775808 ≤ q := by omega
  have b2 : q ≤ 9223372036854775807 := by omega
  by_cases hc : 0 ≤ c ∧ c < 9216
  · have HK : Hid (keyK c = (q, r - 1)) := by
      rw [show r - 1 = r + -1 by omega]
      exact keyK_quo h h2 h3 hc
    have HE : Hid (keyE c = 0) := by unfold Hid keyE; rw [if_pos hc]
    rw [decide_eq_true hc] at hok
    have hch := fun W => ris_is hok W
    have h0 := hc.1
    clear hok h h3 h4 hc
    go_enter Try.func10, Try.ntmps10
    go_wp2_with fail
    refine (hch _).mono ?_
    rintro e w1 ⟨rfl, b⟩
    have B1 := hid (q_trans (q_alloc (alloc_below w _) _) b)
    have a0 : w1.cell? ⟨w.heap.size, 0, none⟩ = some (.int .i64 0) := (b.cell (by simp; omega)).trans (by simp)
    have a1 : w1.cell? ⟨w.heap.size, 1, none⟩ = some (.int .i64 0) := (b.cell (by simp; omega)).trans (by simp)
    have f0 : w1.frozen? ⟨w.heap.size, 0, none⟩ = false := (b.frozen (by simp; omega)).trans (by simp)
    have f1 : w1.frozen? ⟨w.heap.size, 1, none⟩ = false := (b.frozen (by simp; omega)).trans (by simp)
    have c0 : w1.cell? ⟨w.heap.size + 1, 0, none⟩ = some (.int .i64 q) := (b.cell (by simp)).trans (by simp)
    have c1 : w1.cell? ⟨w.heap.size + 1, 1, none⟩ = some (.int .i64 (r - 1)) := (b.cell (by simp)).trans (by simp)
    clear b hch
    go_wp2
    refine bodyPost_ret (v := .tuple #[.agg #[.int .i64 q, .int .i64 (r - 1)], .int .i64 0]) (by simp [results, Try.results10, go_sem, *]) rfl ⟨by rw [HK.out, HE.out], ?_⟩
    exact q_set (q_set B1.out (Nat.le_refl _) _) (Nat.le_refl _) _
  · have HK : Hid (keyK c = (0, 0)) := by unfold Hid keyK; rw [if_neg hc]
    have HE : Hid (keyE c = 2) := by unfold Hid keyE; rw [if_neg hc]
    by_cases h0 : c < 0
    · clear hok h h3 h4 hc
      go_enter Try.func10, Try.ntmps10
      go_wp2_with fail
      refine bodyPost_ret (v := .tuple #[.agg #[.int .i64 0, .int .i64 0], .int .i64 2]) (by simp [results, Try.results10, go_sem]) rfl ⟨by rw [HK.out, HE.out], ?_⟩
      repeat (first | exact q_alloc (alloc_below _ _) _ | refine q_set ?_ (by simp) _)
    · rw [decide_eq_false hc] at hok
      have hch := fun W => ris_is hok W
      clear hok h h3 h4 hc
      go_enter Try.func10, Try.ntmps10
      go_wp2_with fail
      refine (hch _).mono ?_
      rintro e w1 ⟨rfl, b⟩
      have B1 := hid (q_trans (q_alloc (alloc_below w _) _) b)
      have a0 : w1.cell? ⟨w.heap.size, 0, none⟩ = some (.int .i64 0) := (b.cell (by simp; omega)).trans (by simp)
      have a1 : w1.cell? ⟨w.heap.size, 1, none⟩ = some (.int .i64 0) := (b.cell (by simp; omega)).trans (by simp)
      have f0 : w1.frozen? ⟨w.heap.size, 0, none⟩ = false := (b.frozen (by simp; omega)).trans (by simp)
      have f1 : w1.frozen? ⟨w.heap.size, 1, none⟩ = false := (b.frozen (by simp; omega)).trans (by simp)
      clear b hch
      go_wp2
      refine bodyPost_ret (v := .tuple #[.agg #[.int .i64 0, .int .i64 0], .int .i64 2]) (by simp [results, Try.results10, go_sem, *]) rfl ⟨by rw [HK.out, HE.out], ?_⟩
      exact q_set (q_set B1.out (Nat.le_refl _) _) (Nat.le_refl _) _
end Go.Proofs.Ythonibklaijejaa.Or
