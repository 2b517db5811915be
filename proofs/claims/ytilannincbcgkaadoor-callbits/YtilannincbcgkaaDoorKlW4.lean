/- What Put does. -/
import Derived.Test.YtilannincbcgkaaDoorKlW3
namespace Go.Proofs.YtilannincbcgkaaDoor.Kl
open Go.RowKit
open Ad (q_trans q_alloc q_set ret_int ret_bool hid Later wp_region_later later_call)

/-- What Put and Parse say where they answer words. -/
def PutR (c : C) (w : World) (e : Ending) (w' : World) : Prop :=
  ∃ ao n cap, e = .returned (.tuple #[.slice ao n cap, .int .i64 (chE c)]) ∧ MineU w' w.heap.size ao n cap (putL c) ∧ Below w.heap.size w w'
theorem index_part (c : C) (k : Nat) (hk : k < 5) (w : World) : (Instr.index 45 (.agg #[.int .i64 (part c 0), .int .i64 (part c 1), .int .i64 (part c 2), .int .i64 (part c 3), .int .i64 (part c 4)]) (.int .i64 k)).run Tryd.prog w = .ok (.int .i64 (part c k)) w := by
  have : k = 0 ∨ k = 1 ∨ k = 2 ∨ k = 3 ∨ k = 4 := by omega
  rcases this with rfl | rfl | rfl | rfl | rfl <;> simp [Instr.index, go_sem]
set_option maxHeartbeats 400000 in
theorem put_bad (c : C) (w : World) (hc : Wf c) (h : okC c = false) : Calls Tryd.prog 9 #[(.agg #[.int .i64 c.k, .int .u64 c.a, .int .u64 c.b, .int .i64 c.r, .int .i64 c.g, .int .i64 c.t, .int .i64 c.s, .int .i64 c.v])] w (PutR c w) := by
  have HC : Hid (∀ W : World, Calls Tryd.prog 14 #[(.agg #[.int .i64 c.k, .int .u64 c.a, .int .u64 c.b, .int .i64 c.r, .int .i64 c.g, .int .i64 c.t, .int .i64 c.s, .int .i64 c.v])] W fun e w' => e = .returned (.int .i64 150) ∧ Below W.heap.size W w') := fun W => by
    have := check_any c W hc
    rwa [(put_no h).2] at this
  have HP := hid (put_no h)
  clear hc h
  go_enter Tryd.func9, Tryd.ntmps9
  go_wp2_with fail
  refine (HC.out _).mono ?_
  rintro e w1 ⟨rfl, b1⟩
  have HB := hid (q_trans (q_alloc (Below.refl _ _) _) b1)
  clear b1
  go_wp2_with fail
  go_ret2
  exact ⟨none, 0, 0, by rw [HP.out.2]; rfl, by rw [HP.out.1]; exact mineU_nil _ _, HB.out⟩
set_option maxRecDepth 100000 in
set_option maxHeartbeats 2000000 in
theorem put_ok (c : C) (w : World) (hT : Tabs w) (hc : Wf c) (h : okC c = true) : Calls Tryd.prog 9 #[(.agg #[.int .i64 c.k, .int .u64 c.a, .int .u64 c.b, .int .i64 c.r, .int .i64 c.g, .int .i64 c.t, .int .i64 c.s, .int .i64 c.v])] w (PutR c w) := by
  have HC : Hid (∀ W : World, Calls Tryd.prog 14 #[(.agg #[.int .i64 c.k, .int .u64 c.a, .int .u64 c.b, .int .i64 c.r, .int .i64 c.g, .int .i64 c.t, .int .i64 c.s, .int .i64 c.v])] W fun e w' => e = .returned (.int .i64 0) ∧ Below W.heap.size W w') := fun W => by
    have := check_any c W hc
    rwa [(put_yes h).2] at this
  have HT : Hid (Tabs w) := hT
  have HO : Hid (okC c = true) := h
  have HP := hid (put_yes h)
  have HI := in_new w c 24
  clear hT h hc
  go_enter Tryd.func9, Tryd.ntmps9
  go_wp2_with fail
  refine (HC.out _).mono ?_
  rintro e w1 ⟨rfl, b1⟩
  have HI1 := hid (HI.below b1)
  obtain ⟨c0, c1, c2, c3, c4, c5, c6, c7⟩ := HI.below b1
  have HB1 : Hid (Below w.heap.size w w1) := q_trans (q_alloc (Below.refl _ _) _) b1
  clear b1 HI
  go_wp2_with fail
  refine (parts_any c _).mono ?_
  rintro e w2 ⟨rfl, b2⟩
  have HB2 : Hid (Below w.heap.size w w2) := q_trans HB1.out b2
  have HI2 := hid (HI1.out.below b2)
  clear b2 c0 c1 c2 c3 c4 c5 c6 c7 HB1 HI1
  go_wp2_with fail
  go_loopw [5, 15] (fun v i wr => ∃ k : Nat, k ≤ 5 ∧ i = .int .i64 k ∧ v = .int .u64 (acc c k) ∧ Hid (In wr w.heap.size c) ∧ Hid (Below w.heap.size w wr)) (fun _ i _ => 5 - (intOf i).toNat)
  case atStart => exact ⟨0, by omega, rfl, rfl, HI2, HB2⟩
  case round =>
    obtain ⟨k, hk, rfl, rfl, hJ, hI⟩ := hrel
    by_cases hlt : k < 5
    · have hix := index_part c k hlt
      have i1 : (0 : Int) ≤ (k : Int) := by omega
      have i2 : (k : Int) < 5 := by omega
      have hp := part_ok HO.out k
      have hwr : IntKind.u64.wrap (part c k) = part c k := wrap_u64 hp.1 (by omega)
      go_wp2_with fail
      have HTr := HT.out.below hI.out
      have hfa : ∀ g : Later wr, g.now.cell? ⟨0, k * 2, none⟩ = some (.int .i64 (fldAt k)) := fun g => g.cell (HTr.fa k hlt)
      have hfw : ∀ g : Later wr, g.now.cell? ⟨0, k * 2 + 1, none⟩ = some (.int .i64 (fldW k)) := fun g => g.cell (HTr.fw k hlt)
      have HU : Hid (U64 (acc c k)) := acc_u64 HO.out k
      have HV : Hid (U64 (part c k)) := ⟨hp.1, by omega⟩
      clear HTr
      have hne : Nonempty (Later wr) := ⟨⟨wr, Below.refl _ _⟩⟩
      refine wp_region_later (by kernel_rfl) (by kernel_rfl) ?_
      repeat (go_big_quiet_step ((go_at_call 20; exact later_call (put_any _ _ _ _ _ HU.out HV.out))))
      refine wpQuiet_nil ?_
      rintro w3 ⟨⟨_, b3⟩, rfl⟩
      go_wp2_with fail
      exact ⟨⟨k + 1, by omega, by go_num, rfl, hJ.out.below b3, q_trans hI.out b3⟩, by simp [intOf]; omega⟩
    · obtain rfl : k = 5 := by omega
      obtain ⟨c0, c1, c2, c3, c4, c5, c6, c7⟩ := hJ.out
      go_wp2_with fail
      go_ret2
      exact ⟨_, 4, 4, by rw [HP.out.2]; rfl, by rw [HP.out.1]; exact ⟨(four_new wr _ _ _ _ _).has, fun a e => by cases e; exact hI.out.size⟩, q_alloc hI.out _⟩
/-- PUT, OF WHATEVER CALL. -/
theorem put_c (c : C) (w : World) (hT : Tabs w) (hc : Wf c) : Calls Tryd.prog 9 #[(.agg #[.int .i64 c.k, .int .u64 c.a, .int .u64 c.b, .int .i64 c.r, .int .i64 c.g, .int .i64 c.t, .int .i64 c.s, .int .i64 c.v])] w (PutR c w) := by
  cases h : okC c with
  | true => exact put_ok c w hT hc h
  | false => exact put_bad c w hc h
end Go.Proofs.YtilannincbcgkaaDoor.Kl
