/- What the program's place, inStep, mayWait do. -/
import Derived.Test.YtejghoncihdfkaaEpCon
namespace Go.Proofs.Ytejghoncihdfkaa.Ep
open Go.RowKit

/-- Whether it is an object's place. -/
def plB (x : Int) : Bool := decide (0 ≤ x) && decide (x ≤ 63)
theorem place_any (x : Int) (w : World) :
    Calls Try.prog 40 #[.int .i64 x] w fun r w' => r = .returned (.bool (plB x)) ∧ w' = w := by
  by_cases h0 : 0 ≤ x
  · by_cases h1 : x ≤ 63
    · have HR : Hid (plB x = true) := by simp [Hid, plB, h0, h1]
      have h2 : x < 64 := by omega
      clear h1
      go_enter Try.func40, Try.ntmps40
      go_wp2
      go_ret
      exact ⟨ret_bool HR.out.symm, rfl⟩
    · have HR : Hid (plB x = false) := by simp [Hid, plB]; omega
      have h2 : decide (x < 64) = false := by simp; omega
      clear h1
      go_enter Try.func40, Try.ntmps40
      go_wp2
      go_ret
      exact ⟨ret_bool HR.out.symm, rfl⟩
  · have HR : Hid (plB x = false) := by simp [Hid, plB]; omega
    go_enter Try.func40, Try.ntmps40
    go_wp2
    go_ret
    exact ⟨ret_bool HR.out.symm, rfl⟩
/-- Whether a pin does not hold the epoch back. -/
def isB (n p : Int) : Bool := decide (p = 0) || decide (p = n + 1)
theorem inStep_any (y : WE) (n p : Int) (w : World) (h1 : 1 ≤ n) (h2 : n ≤ 1099511627776) :
    Calls Try.prog 32 #[(.agg #[.int .i64 n, .slice y.p.o y.p.n y.p.c, .slice y.l.o y.l.n y.l.c]), .int .i64 p] w fun r w' => r = .returned (.bool (isB n p)) ∧ Below w.heap.size w w' := by
  by_cases q0 : p = 0
  · have HR : Hid (isB n p = true) := by simp [Hid, isB, q0]
    have d0 := beq_yes q0
    clear q0
    go_enter Try.func32, Try.ntmps32
    go_wp2
    go_ret
    exact ⟨ret_bool HR.out.symm, alloc_below _ _⟩
  · have d0 := beq_no q0
    by_cases q1 : p = n + 1
    · have HR : Hid (isB n p = true) := by simp [Hid, isB, q1]
      have d1 := beq_yes q1
      clear q0 q1
      go_enter Try.func32, Try.ntmps32
      go_wp2
      go_ret
      exact ⟨ret_bool HR.out.symm, alloc_below _ _⟩
    · have HR : Hid (isB n p = false) := by simp [Hid, isB, q0, q1]
      have d1 := beq_no q1
      clear q0 q1
      go_enter Try.func32, Try.ntmps32
      go_wp2
      go_ret
      exact ⟨ret_bool HR.out.symm, alloc_below _ _⟩
/-- The least epoch that the next one may have. -/
def leastE (l : List W) (i : Nat) : Int := if i = 0 then 1 else (l.getD (i - 1) (0, 0)).2
theorem least_one {n : Int} {l : List W} {i : Nat} (h : UpL n l i) : 1 ≤ leastE l i := by
  unfold leastE
  split
  · exact Int.le_refl _
  · exact (okW_iff.1 (h (i - 1) (by omega)).1).2.2.1
theorem least_next (l : List W) (i : Nat) : leastE l (i + 1) = (l.getD i (0, 0)).2 := by simp [leastE]
theorem least_falls {n : Int} {l : List W} {i : Nat} (hi : i < l.length) (h : (l.getD i (0, 0)).2 < leastE l i) : okL n l = false := by
  unfold leastE at h
  split at h
  · exact okL_bad hi (okW_not.2 (by omega))
  · exact okL_falls hi (by omega)
theorem least_step {n : Int} {l : List W} {i : Nat} (h : UpL n l i) (h1 : 0 ≤ (l.getD i (0, 0)).1) (h2 : (l.getD i (0, 0)).1 ≤ 63) (h3 : leastE l i ≤ (l.getD i (0, 0)).2) (h4 : (l.getD i (0, 0)).2 ≤ n) : UpL n l (i + 1) := by
  have := least_one h
  refine upL_step h (okW_iff.2 ⟨h1, h2, by omega, h4⟩) (fun h0 => ?_)
  unfold leastE at h3
  rw [if_neg (by omega)] at h3
  exact h3
set_option maxRecDepth 100000 in
set_option maxHeartbeats 2000000 in
/-- mayWait: WHETHER A CORE's LIST MAY BE. -/
theorem mayWait_any (ao : Option Addr) (N cap : Nat) (l : List W) (n : Int) (w : World) (hs : N ≤ 1000) (HW : Hid (HasW w ao N cap l)) :
    Calls Try.prog 33 #[.slice ao N cap, .int .i64 n] w fun r w' => r = .returned (.bool (okL n l)) ∧ Below w.heap.size w w' := by
  by_cases h8 : N ≤ 8
  · have i8 : (N : Int) ≤ 8 := by omega
    go_enter Try.func33, Try.ntmps33
    go_wp2_with fail
    go_loopw [5, 13] (fun s i wr => ∃ (k : Nat) (m : Int), k ≤ N ∧ s = .int .i64 m ∧ i = .int .i64 k ∧ Hid (m = leastE l k) ∧ Hid (UpL n l k) ∧ Hid (Below w.heap.size w wr)) (fun _ i _ => N - (intOf i).toNat)
    case atStart => exact ⟨0, 1, Nat.zero_le _, rfl, rfl, rfl, fun j hj => absurd hj (by omega), Below.refl _ _⟩
    case round =>
      obtain ⟨k, m, hk, rfl, rfl, HM, HU, HB⟩ := hrel
      by_cases hlt : k < N
      · have i1 : (0 : Int) ≤ (k : Int) := by omega
        have i2 : (k : Int) < (N : Int) := by omega
        have HL := hid HW.out.len
        obtain ⟨a, rfl, c0, c1⟩ := atW_of (HW.out.below HB.out).row k (by have := HL.out; omega)
        obtain ⟨z, hz⟩ : ∃ z, l.getD k (0, 0) = z := ⟨_, rfl⟩
        rw [hz] at c0 c1
        have HZ := hid hz
        clear hz
        have HB2 := hid (q_alloc HB.out (.cells #[.int .i64 z.1, .int .i64 z.2] 51))
        by_cases p1 : plB z.1 = true
        · have HP : Hid (0 ≤ z.1 ∧ z.1 ≤ 63) := by simpa [Hid, plB] using p1
          by_cases p2 : z.2 < m
          · have HF : Hid (okL n l = false) := least_falls (i := k) (by have := HL.out; omega) (by rw [HZ.out, ← HM.out]; exact p2)
            go_wp2_with (first | (go_at_call 40; refine (place_any _ _).mono ?_; rintro r w8 ⟨rfl, hw⟩; rw [hw, p1]; clear hw w8))
            go_ret
            exact ⟨ret_bool HF.out.symm, HB2.out⟩
          · have p2' : m ≤ z.2 := by omega
            clear p2
            by_cases p3 : n < z.2
            · have HF : Hid (okL n l = false) := okL_bad (i := k) (by have := HL.out; omega) (by rw [HZ.out]; exact okW_not.2 (by omega))
              go_wp2_with (first | (go_at_call 40; refine (place_any _ _).mono ?_; rintro r w8 ⟨rfl, hw⟩; rw [hw, p1]; clear hw w8))
              go_ret
              exact ⟨ret_bool HF.out.symm, HB2.out⟩
            · have p3' : z.2 ≤ n := by omega
              clear p3
              have HU2 : Hid (UpL n l (k + 1)) := by
                have h := HP.out
                rw [← HZ.out] at h p2' p3'
                rw [HM.out] at p2'
                exact least_step HU.out h.1 h.2 p2' p3'
              have HM2 : Hid (z.2 = leastE l (k + 1)) := by rw [Hid, least_next, HZ.out]
              go_wp2_with (first | (go_at_call 40; refine (place_any _ _).mono ?_; rintro r w8 ⟨rfl, hw⟩; rw [hw, p1]; clear hw w8))
              go_roundw
              case rel => exact ⟨k + 1, z.2, by omega, rfl, by go_num, HM2, HU2, HB2⟩
              case measure => simp [intOf]; omega
        · have p1' : plB z.1 = false := by simpa using p1
          have HF : Hid (okL n l = false) := okL_bad (i := k) (by have := HL.out; omega) (by
            rw [HZ.out]
            refine okW_not.2 (fun h => p1 ?_)
            simp [plB, h.1, h.2.1])
          clear p1
          go_wp2_with (first | (go_at_call 40; refine (place_any _ _).mono ?_; rintro r w8 ⟨rfl, hw⟩; rw [hw, p1']; clear hw w8))
          go_ret
          exact ⟨ret_bool HF.out.symm, HB2.out⟩
      · obtain rfl : k = N := by omega
        have HT : Hid (okL n l = true) := upL_ok (by rw [← HW.out.len]; exact h8) (by rw [← HW.out.len]; exact HU.out)
        go_wp2_with fail
        go_ret
        exact ⟨ret_bool HT.out.symm, HB.out⟩
  · have HF : Hid (okL n l = false) := okL_long (by rw [← HW.out.len]; exact h8)
    have i8 : (8 : Int) < (N : Int) := by omega
    clear h8
    go_enter Try.func33, Try.ntmps33
    go_wp2
    go_ret
    exact ⟨ret_bool HF.out.symm, Below.refl _ _⟩
theorem is_may {ao : Option Addr} {N cap : Nat} {l : List W} {n : Int} {w : World} {r : Bool} (hs : N ≤ 1000) (h : HasW w ao N cap l) (hr : okL n l = r) : Calls Try.prog 33 #[.slice ao N cap, .int .i64 n] w fun v w' => v = .returned (.bool r) ∧ Below w.heap.size w w' := hr ▸ mayWait_any ao N cap l n w hs h
theorem is_step {y : WE} {n p : Int} {w : World} {r : Bool} (h1 : 1 ≤ n) (h2 : n ≤ 1099511627776) (hr : isB n p = r) : Calls Try.prog 32 #[(.agg #[.int .i64 n, .slice y.p.o y.p.n y.p.c, .slice y.l.o y.l.n y.l.c]), .int .i64 p] w fun v w' => v = .returned (.bool r) ∧ Below w.heap.size w w' := hr ▸ inStep_any y n p w h1 h2
end Go.Proofs.Ytejghoncihdfkaa.Ep
