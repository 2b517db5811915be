/- What Word does. -/
import Derived.Test.YtgjkocbfpcgccabDoorCpW2
namespace Go.Proofs.YtgjkocbfpcgccabDoor.Cp
open Go.RowKit

/-- The part that the field i holds. -/
def part (c : K) (i : Nat) : Int := match i with | 0 => c.t | 1 => c.r | 2 => c.b | 3 => c.o | _ => c.g
/-- What is put behind i fields. -/
def acc (c : K) : Nat → Int
  | 0 => 0
  | i + 1 => putT (acc c i) (fldAt i) (fldW i) (part c i)
def wordT (c : K) : Int := if okB c then acc c 5 else 0

theorem most_le (t : Int) : most t ≤ 65535 := by unfold most; split <;> (try split) <;> omega
theorem part_ok {c : K} (h : okB c = true) (i : Nat) : 0 ≤ part c i ∧ part c i ≤ 65535 := by
  simp only [okB, Bool.or_eq_true] at h
  rcases h with h | h
  · obtain ⟨h0, h1, h2, h3, h4⟩ := noneB_iff.1 h
    unfold part
    split <;> omega
  · simp only [someB, Bool.and_eq_true, decide_eq_true_eq, up_iff, Rt.isR_iff] at h
    have := most_le c.t
    unfold part
    split <;> omega
theorem acc_u64 {c : K} (h : okB c = true) : ∀ i, U64 (acc c i)
  | 0 => u64_of 0 (by omega)
  | i + 1 => putT_u64 (acc_u64 h i) (by have := part_ok h i; exact ⟨by omega, by omega⟩)

theorem wrap_u64 {x : Int} (h0 : 0 ≤ x) (h1 : x < 18446744073709551616) : IntKind.u64.wrap x = x := by
  simp [IntKind.wrap, IntKind.bits, IntKind.signed]
  omega
theorem index_part (c : K) (k : Nat) (hk : k < 5) (w : World) : (Instr.index 41 (.agg #[.int .i64 c.t, .int .i64 c.r, .int .i64 c.b, .int .i64 c.o, .int .i64 c.g]) (.int .i64 k)).run Tryd.prog w = .ok (.int .i64 (part c k)) w := by
  have : k = 0 ∨ k = 1 ∨ k = 2 ∨ k = 3 ∨ k = 4 := by omega
  rcases this with rfl | rfl | rfl | rfl | rfl <;> simp [Instr.index, go_sem, part]

set_option maxHeartbeats 400000 in
theorem word_bad (c : K) (w : World) (hT : Tabs w) (h : okB c = false) :
    Calls Tryd.prog 8 #[(.agg #[.int .i64 c.t, .int .i64 c.r, .int .i64 c.b, .int .i64 c.o, .int .i64 c.g])] w fun e w' => e = .returned (.tuple #[.int .u64 0, .int .i64 30]) ∧ Below w.heap.size w w' := by
  have HC : Hid (∀ W : World, Tabs W → Calls Tryd.prog 17 #[(.agg #[.int .i64 c.t, .int .i64 c.r, .int .i64 c.b, .int .i64 c.o, .int .i64 c.g])] W fun e w' => e = .returned (.int .i64 30) ∧ Below W.heap.size W w') := fun W hW => by
    have := check_any c W hW
    rwa [show chkE c = 30 by simp [chkE, h]] at this
  have HT : Hid (Tabs w) := hT
  clear hT h
  go_enter Tryd.func8, Tryd.ntmps8
  go_wp2_with (go_at_call 17; refine (HC.out _ (HT.out.below (q_alloc (Below.refl _ _) _))).mono ?_; rintro e w1 ⟨rfl, b1⟩)
  go_ret2
  exact ⟨rfl, q_trans (q_alloc (Below.refl _ _) _) b1⟩

set_option maxRecDepth 100000 in
set_option maxHeartbeats 2000000 in
theorem word_ok (c : K) (w : World) (hT : Tabs w) (h : okB c = true) :
    Calls Tryd.prog 8 #[(.agg #[.int .i64 c.t, .int .i64 c.r, .int .i64 c.b, .int .i64 c.o, .int .i64 c.g])] w fun e w' => e = .returned (.tuple #[.int .u64 (acc c 5), .int .i64 0]) ∧ Below w.heap.size w w' := by
  have HC : Hid (∀ W : World, Tabs W → Calls Tryd.prog 17 #[(.agg #[.int .i64 c.t, .int .i64 c.r, .int .i64 c.b, .int .i64 c.o, .int .i64 c.g])] W fun e w' => e = .returned (.int .i64 0) ∧ Below W.heap.size W w') := fun W hW => by
    have := check_any c W hW
    rwa [show chkE c = 0 by simp [chkE, h]] at this
  have HT : Hid (Tabs w) := hT
  have HO : Hid (okB c = true) := h
  have HI := in_new w c 23
  clear hT h
  go_enter Tryd.func8, Tryd.ntmps8
  go_wp2_with fail
  refine (HC.out _ (HT.out.below (q_alloc (Below.refl _ _) _))).mono ?_
  rintro e w1 ⟨rfl, b1⟩
  obtain ⟨c0, c1, c2, c3, c4⟩ := HI.below b1
  have HB1 : Hid (Below w.heap.size w w1) := q_trans (q_alloc (Below.refl _ _) _) b1
  clear b1 HI
  go_wp2_with fail
  refine (parts_any c _).mono ?_
  rintro e w2 ⟨rfl, b2⟩
  have HB2 : Hid (Below w.heap.size w w2) := q_trans HB1.out b2
  clear b2 c0 c1 c2 c3 c4 HB1
  go_wp2_with fail
  go_loopw [5, 15] (fun v i wr => ∃ k : Nat, k ≤ 5 ∧ i = .int .i64 k ∧ v = .int .u64 (acc c k) ∧ Hid (Below w.heap.size w wr)) (fun _ i _ => 5 - (intOf i).toNat)
  case atStart => exact ⟨0, by omega, rfl, rfl, HB2⟩
  case round =>
    obtain ⟨k, hk, rfl, rfl, hI⟩ := hrel
    by_cases hlt : k < 5
    · have hix := index_part c k hlt
      have i1 : (0 : Int) ≤ (k : Int) := by omega
      have i2 : (k : Int) < 5 := by omega
      have hp := part_ok HO.out k
      have hwr : IntKind.u64.wrap (part c k) = part c k := wrap_u64 hp.1 (by omega)
      go_wp2_with fail
      have HTr := HT.out.below hI.out
      have hfa : ∀ g : Later wr, g.now.cell? ⟨0, k * 2, none⟩ = some (.int .i64 (fldAt k)) := fun g => g.cell (HTr.fa k hlt)
      have hfw : ∀ g : Later wr, g.now.cell? ⟨0, k * 2 + 1, none⟩ = some (.int .i64 (fldW k)) := fun g => g.cell (HTr.fw k hlt)
      have HU : Hid (U64 (acc c k)) := acc_u64 HO.out k
      have HV : Hid (U64 (part c k)) := ⟨hp.1, by omega⟩
      clear HTr
      have hne : Nonempty (Later wr) := ⟨⟨wr, Below.refl _ _⟩⟩
      refine wp_region_later (by kernel_rfl) (by kernel_rfl) ?_
      repeat (go_big_quiet_step ((go_at_call 19; exact later_call (put_any _ _ _ _ _ HU.out HV.out))))
      refine wpQuiet_nil ?_
      rintro w3 ⟨⟨_, b3⟩, rfl⟩
      go_wp2_with fail
      exact ⟨⟨k + 1, by omega, by go_num, rfl, q_trans hI.out b3⟩, by simp [intOf]; omega⟩
    · obtain rfl : k = 5 := by omega
      go_wp2_with fail
      go_ret2
      exact ⟨rfl, hI.out⟩

/-- WORD, OF WHATEVER CAPABILITY. -/
theorem word_any (c : K) (w : World) (hT : Tabs w) :
    Calls Tryd.prog 8 #[(.agg #[.int .i64 c.t, .int .i64 c.r, .int .i64 c.b, .int .i64 c.o, .int .i64 c.g])] w fun e w' => e = .returned (.tuple #[.int .u64 (wordT c), .int .i64 (chkE c)]) ∧ Below w.heap.size w w' := by
  cases h : okB c with
  | true =>
    rw [show wordT c = acc c 5 by simp [wordT, h], show chkE c = 0 by simp [chkE, h]]
    exact word_ok c w hT h
  | false =>
    rw [show wordT c = 0 by simp [wordT, h], show chkE c = 30 by simp [chkE, h]]
    exact word_bad c w hT h
theorem wordT_u64 (c : K) : U64 (wordT c) := by
  cases h : okB c with
  | true => rw [show wordT c = acc c 5 by simp [wordT, h]]; exact acc_u64 h 5
  | false => rw [show wordT c = 0 by simp [wordT, h]]; exact u64_of 0 (by omega)
end Go.Proofs.YtgjkocbfpcgccabDoor.Cp
