/- What the program's order.Check, order.Cell, Find do. -/
import Derived.Test.YtcldnacpddebcabTrRFind
import Derived.Test.YtcldnacpddebcabPkA
namespace Go.Proofs.Ytcldnacpddebcab.Tr
open Go.RowKit

def chk (k : P) : Int := if okK k then 0 else 2
def cellK (k : P) : Int := if okK k then 9 * k.1 + k.2 + 1 else -1
theorem cell_ok {k : P} (h : okK k = true) : cellK k = 9 * k.1 + k.2 + 1 := by simp [cellK, h]
theorem cell_no {k : P} (h : okK k = false) : cellK k = -1 := by simp [cellK, h]
theorem cell_range {k : P} (h : okK k = true) : 0 ≤ cellK k ∧ cellK k < 9216 := by rw [cell_ok h]; rw [okK_iff] at h; omega
theorem cell_inj {k l : P} (hk : okK k = true) (hl : okK l = true) (h : cellK k = cellK l) : k = l := by
  rw [cell_ok hk, cell_ok hl] at h
  rw [okK_iff] at hk hl
  exact Prod.ext (by omega) (by omega)
set_option maxHeartbeats 1000000 in
theorem ocheck_any (k : P) (w : World) :
    Calls Try.prog 33 #[(.agg #[.int .i64 k.1, .int .i64 k.2])] w fun e w' => e = .returned (.int .i64 (chk k)) ∧ Below w.heap.size w w' := by
  by_cases h1 : 0 ≤ k.1
  · by_cases h2 : k.1 ≤ 1023
    · by_cases h3 : -1 ≤ k.2
      · by_cases h4 : k.2 < 8
        · have H : Hid (chk k = 0) := by unfold Hid chk; rw [if_pos (okK_iff.2 (by omega))]
          go_enter Try.func33, Try.ntmps33
          go_wp2
          go_ret
          exact ⟨ret_int H.out.symm, alloc_below _ _⟩
        · have H : Hid (chk k = 2) := by unfold Hid chk; rw [if_neg (by rw [okK_iff]; omega)]
          go_enter Try.func33, Try.ntmps33
          go_wp2
          go_ret
          exact ⟨ret_int H.out.symm, alloc_below _ _⟩
      · have H : Hid (chk k = 2) := by unfold Hid chk; rw [if_neg (by rw [okK_iff]; omega)]
        go_enter Try.func33, Try.ntmps33
        go_wp2
        go_ret
        exact ⟨ret_int H.out.symm, alloc_below _ _⟩
    · have H : Hid (chk k = 2) := by unfold Hid chk; rw [if_neg (by rw [okK_iff]; omega)]
      go_enter Try.func33, Try.ntmps33
      go_wp2
      go_ret
      exact ⟨ret_int H.out.symm, alloc_below _ _⟩
  · have H : Hid (chk k = 2) := by unfold Hid chk; rw [if_neg (by rw [okK_iff]; omega)]
    go_enter Try.func33, Try.ntmps33
    go_wp2
    go_ret
    exact ⟨ret_int H.out.symm, alloc_below _ _⟩
theorem ocheck_yes {k : P} (h : okK k = true) (w : World) : Calls Try.prog 33 #[(.agg #[.int .i64 k.1, .int .i64 k.2])] w fun e w' => e = .returned (.int .i64 0) ∧ Below w.heap.size w w' := by
  have := ocheck_any k w
  rwa [show chk k = 0 by simp [chk, h]] at this
theorem ocheck_no {k : P} (h : okK k = false) (w : World) : Calls Try.prog 33 #[(.agg #[.int .i64 k.1, .int .i64 k.2])] w fun e w' => e = .returned (.int .i64 2) ∧ Below w.heap.size w w' := by
  have := ocheck_any k w
  rwa [show chk k = 2 by simp [chk, h]] at this
set_option maxHeartbeats 1000000 in
theorem ocell_any (k : P) (w : World) :
    Calls Try.prog 24 #[(.agg #[.int .i64 k.1, .int .i64 k.2])] w fun e w' => e = .returned (.int .i64 (cellK k)) ∧ Below w.heap.size w w' := by
  cases hk : okK k with
  | true =>
    have H : Hid (cellK k = 9 * k.1 + k.2 + 1) := cell_ok hk
    have hr := okK_iff.1 hk
    obtain ⟨r1, r2, r3, r4⟩ := hr
    have hc := fun W => ocheck_yes hk W
    clear hk
    go_enter Try.func24, Try.ntmps24
    go_wp2_with fail
    refine (hc _).mono ?_
    rintro e w1 ⟨rfl, b1⟩
    have A1 := (at_new w k 34).below b1
    obtain ⟨c0, c1⟩ := A1
    have B1 := hid (q_trans (alloc_below w _) b1)
    clear b1 hc
    go_wp2
    go_ret
    exact ⟨ret_int (by rw [H.out]), B1.out⟩
  | false =>
    have H : Hid (cellK k = -1) := cell_no hk
    have hc := fun W => ocheck_no hk W
    clear hk
    go_enter Try.func24, Try.ntmps24
    go_wp2_with fail
    refine (hc _).mono ?_
    rintro e w1 ⟨rfl, b1⟩
    have B1 := hid (q_trans (alloc_below w _) b1)
    clear b1 hc
    go_wp2
    go_ret
    exact ⟨ret_int H.out.symm, B1.out⟩
end Go.Proofs.Ytcldnacpddebcab.Tr
