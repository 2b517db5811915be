/- What the program's order.Check, order.Cell, Find do. -/
import Derived.Test.YtcldnacpddebcaaTrRFind
import Derived.Test.YtcldnacpddebcaaPkA
namespace Go.Proofs.Ytcldnacpddebcaa.Tr
open Go.RowKit

def chk (k : P) : Int := if okK k then 0 else 2
def cellK (k : P) : Int := if okK k then 9 * k.1 + k.2 + 1 else -1
theorem cell_ok {k : P} (h : okK k = true) : cellK k = 9 * k.1 + k.2 + 1 := by simp [cellK, h]
theorem cell_no {k : P} (h : okK k = false) : cellK k = -1 := by simp [cellK, h]
theorem cell_range {k : P} (h : okK k = true) : 0 ≤ cellK k ∧ cellK k < 9216 := by rw [cell_ok h]; rw [okK_iff] at h; omega
theorem cell_inj {k l : P} (hk : okK k = true) (hl : okK l = true) (h : cellK k = cellK l) : k = l := by
  rw [cell_ok hk, cell_ok hl] at h
  rw [okK_iff] at hk hl
  exact Prod.ext (by omega) (by omega)
set_option maxHeartbeats 1000000 in
theorem ocheck_any (k : P) (w : World) :
    Calls Try.prog 63 #[(.agg #[.int .i64 k.1, .int .i64 k.2])] w fun e w' => e = .returned (.int .i64 (chk k)) ∧ Below w.heap.size w w' := by
  by_cases h1 : 0 ≤ k.1
  · by_cases h2 : k.1 ≤ 1023
    · by_cases h3 : -1 ≤ k.2
      · by_cases h4 : k.2 < 8
        · have H : Hid (chk k = 0) := by unfold Hid chk; rw [if_pos (okK_iff.2 (by omega))]
          go_enter Try.func63, Try.ntmps63
          go_wp2
          go_ret
          exact ⟨ret_int H.out.symm, alloc_below _ _⟩
        · have H : Hid (chk k = 2) := by unfold Hid chk; rw [if_neg (by rw [okK_iff]; omega)]
          go_enter Try.func63, Try.ntmps63
          go_wp2
          go_ret
          exact ⟨ret_int H.out.symm, alloc_below _ _⟩
      · have H : Hid (chk k = 2) := by unfold Hid chk; rw [if_neg (by rw [okK_iff]; omega)]
        go_enter Try.func63, Try.ntmps63
        go_wp2
        go_ret
        exact ⟨ret_int H.out.symm, alloc_below _ _⟩
    · have H : Hid (chk k = 2) := by unfold Hid chk; rw [if_neg (by rw [okK_iff]; omega)]
      go_enter Try.func63, Try.ntmps63
      go_wp2
      go_ret
      exact ⟨ret_int H.out.symm, alloc_below _ _⟩
  · have H : Hid (chk k = 2) := by unfold Hid chk; rw [if_neg (by rw [okK_iff]; omega)]
    go_enter Try.func63, Try.ntmps63
    go_wp2
    go_ret
    exact ⟨ret_int H.out.symm, alloc_below _ _⟩
theorem ocheck_yes {k : P} (h : okK k = true) (w : World) : Calls Try.prog 63 #[(.agg #[.int .i64 k.1, .int .i64 k.2])] w fun e w' => e = .returned (.int .i64 0) ∧ Below w.heap.size w w' := by
  have := ocheck_any k w
  rwa [show chk k = 0 by simp [chk, h]] at this
theorem ocheck_no {k : P} (h : okK k = false) (w : World) : Calls Try.prog 63 #[(.agg #[.int .i64 k.1, .int .i64 k.2])] w fun e w' => e = .returned (.int .i64 2) ∧ Below w.heap.size w w' := by
  have := ocheck_any k w
  rwa [show chk k = 2 by simp [chk, h]] at this
set_option maxHeartbeats 1000000 in
theorem ocell_any (k : P) (w : World) :
    Calls Try.prog 42 #[(.agg #[.int .i64 k.1, .int .i64 k.2])] w fun e w' => e = .returned (.int .i64 (cellK k)) ∧ Below w.heap.size w w' := by
  cases hk : okK k with
  | true =>
    have H : Hid (cellK k = 9 * k.1 + k.2 + 1) := cell_ok hk
    have hr := okK_iff.1 hk
    obtain ⟨r1, r2, r3, r4⟩ := hr
    have hc := fun W => ocheck_yes hk W
    clear hk
    go_enter Try.func42, Try.ntmps42
    go_wp2_with fail
    refine (hc _).mono ?_
    rintro e w1 ⟨rfl, b1⟩
    have A1 := (at_new w k 27).below b1
    obtain ⟨c0, c1⟩ := A1
    have B1 := hid (q_trans (alloc_below w _) b1)
    clear b1 hc
    go_wp2
    go_ret
    exact ⟨ret_int (by rw [H.out]), B1.out⟩
  | false =>
    have H : Hid (cellK k = -1) := cell_no hk
    have hc := fun W => ocheck_no hk W
    clear hk
    go_enter Try.func42, Try.ntmps42
    go_wp2_with fail
    refine (hc _).mono ?_
    rintro e w1 ⟨rfl, b1⟩
    have B1 := hid (q_trans (alloc_below w _) b1)
    clear b1 hc
    go_wp2
    go_ret
    exact ⟨ret_int H.out.symm, B1.out⟩
set_option maxRecDepth 100000 in
set_option maxHeartbeats 1000000 in
theorem find_any (ao : Option Addr) (n cap : Nat) (t : List Br) (k : P) (w : World) (hs : n ≤ 9223372036854775806) (HH : Hid (HasB w ao n cap t)) :
    Calls Try.prog 31 #[.slice ao n cap, (.agg #[.int .i64 k.1, .int .i64 k.2])] w fun e w' => e = .returned (.tuple #[.int .i64 (plc t k : Nat), .bool (hasK t k)]) ∧ Below w.heap.size w w' := by
  have HN := hid HH.out.len
  go_enter Try.func31, Try.ntmps31
  go_wp2_with fail
  have HK0 := hid (at_new w k 27)
  have HB0 := hid (alloc_below w (.cells #[.int .i64 k.1, .int .i64 k.2] 27))
  generalize hw0 : w.alloc (.cells #[.int .i64 k.1, .int .i64 k.2] 27) = W0 at HK0 HB0 ⊢
  clear hw0
  go_loopw [10] (fun i wr => ∃ q : Nat, q ≤ n ∧ i = .int .i64 q ∧ Hid (∀ m, m < q → Ky t m ≠ k) ∧ Hid (AtP wr ⟨w.heap.size, 0, none⟩ k) ∧ Hid (Below w.heap.size w wr)) (fun i _ => n - (intOf i).toNat)
  case atStart => exact ⟨0, Nat.zero_le _, rfl, fun c hc => absurd hc (by omega), HK0, HB0⟩
  case round =>
    obtain ⟨q, hq, rfl, HU, HK, HB⟩ := hrel
    clear HK0 HB0
    by_cases hlt : q < n
    · have i1 : (0 : Int) ≤ (q : Int) := by omega
      have i2 : (q : Int) < (n : Int) := by omega
      obtain ⟨a, rfl, ca⟩ := (HH.out.below HB.out).at q hlt
      obtain ⟨x, hx⟩ : ∃ x, t.getD q zB = x := ⟨_, rfl⟩
      have HX := hid hx
      rw [hx] at ca
      obtain ⟨f0, f1, f2, f3⟩ := ca
      clear hx
      have HB9 := hid (q_alloc HB.out (.cells #[.int .i64 x.1.1, .int .i64 x.1.2, .int .i64 x.2.1, .bool x.2.2] 79))
      have HK9 := hid (HK.out.below (alloc_below wr (.cells #[.int .i64 x.1.1, .int .i64 x.1.2, .int .i64 x.2.1, .bool x.2.2] 79)))
      obtain ⟨k0, k1⟩ := HK9.out
      by_cases e : x.1 = k
      · have HE : Hid (fd k t = some q) := fd_go (by have := HN.out; omega) (by unfold Ky; rw [HX.out]; exact e) HU.out
        have ee := eqk_yes e
        clear e
        go_wp2_with fail
        go_ret2
        exact ⟨by simp [plc, hasK, HE.out], HB9.out⟩
      · have HE := hid e
        have ee := eqk_no e
        clear e
        go_wp2_with fail
        go_roundw
        case rel =>
          refine ⟨q + 1, by omega, by go_num, fun m hm => ?_, HK9, HB9⟩
          rcases Nat.lt_or_ge m q with y | y
          · exact HU.out m y
          · obtain rfl : m = q := by omega
            unfold Ky
            rw [HX.out]
            exact HE.out
        case measure => simp [intOf]; omega
    · obtain rfl : q = n := by omega
      have HE : Hid (fd k t = none) := fd_none.2 fun j hj => HU.out j (by have := HN.out; omega)
      go_wp2_with fail
      go_ret2
      exact ⟨by simp [plc, hasK, HE.out], HB.out⟩
end Go.Proofs.Ytcldnacpddebcaa.Tr
