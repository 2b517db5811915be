/- What the document's Put does. -/
import Derived.Test.YtilannincbcgkaaDoorKlR1
import Derived.Test.YtilannincbcgkaaDoorRefAc
namespace Go.Proofs.YtilannincbcgkaaDoor.Kl
open Go.RowKit
open Ad (q_trans q_alloc q_set ret_int ret_bool hid Later wp_region_later later_call)

/-- Five numbers lie one behind the other. -/
structure Five (w : World) (b : Nat) (f : Nat → Int) : Prop where
  at_ : ∀ k, k < 5 → w.cell? ⟨b, k, none⟩ = some (.int .i64 (f k))
theorem five_new (w : World) (f : Nat → Int) (x0 x1 x2 x3 x4 : Int) (T : TypeId) (h0 : f 0 = x0) (h1 : f 1 = x1) (h2 : f 2 = x2) (h3 : f 3 = x3) (h4 : f 4 = x4) : Five (w.alloc (.cells #[.int .i64 x0, .int .i64 x1, .int .i64 x2, .int .i64 x3, .int .i64 x4] T)) w.heap.size f := by
  subst h0 h1 h2 h3 h4
  refine ⟨fun k hk => ?_⟩
  have : k = 0 ∨ k = 1 ∨ k = 2 ∨ k = 3 ∨ k = 4 := by omega
  rcases this with rfl | rfl | rfl | rfl | rfl <;> simp
theorem Five.below {w w' : World} {b : Nat} {f : Nat → Int} (h : Five w b f) (hb : Below w.heap.size w w') : Five w' b f :=
  ⟨fun k hk => (hb.cell (p := ⟨b, k, none⟩) (cell_lt (h.at_ k hk))).trans (h.at_ k hk)⟩
theorem three_new (w : World) (c : C) (T : TypeId) (o0 o1 o2 : Obj) (h0 : o0 = .cells #[.int .i64 0, .int .i64 4, .int .i64 8, .int .i64 12, .int .i64 28] T) (h1 : o1 = .cells #[.int .i64 4, .int .i64 4, .int .i64 4, .int .i64 16, .int .i64 21] T) (h2 : o2 = .cells #[.int .i64 c.k, .int .i64 c.r, .int .i64 c.t, .int .i64 c.g, .int .i64 c.s] T) :
    Five (((w.alloc o0).alloc o1).alloc o2) w.heap.size fldAt ∧ Five (((w.alloc o0).alloc o1).alloc o2) (w.heap.size + 1) fldW ∧ Five (((w.alloc o0).alloc o1).alloc o2) (w.heap.size + 1 + 1) (part c) := by
  subst h0 h1 h2
  have a0 := five_new w fldAt 0 4 8 12 28 T rfl rfl rfl rfl rfl
  have a1 := five_new (w.alloc (.cells #[.int .i64 0, .int .i64 4, .int .i64 8, .int .i64 12, .int .i64 28] T)) fldW 4 4 4 16 21 T rfl rfl rfl rfl rfl
  have a2 := five_new ((w.alloc (.cells #[.int .i64 0, .int .i64 4, .int .i64 8, .int .i64 12, .int .i64 28] T)).alloc (.cells #[.int .i64 4, .int .i64 4, .int .i64 4, .int .i64 16, .int .i64 21] T)) (part c) c.k c.r c.t c.g c.s T rfl rfl rfl rfl rfl
  simp only [World.size_alloc] at a1 a2
  exact ⟨(a0.below (q_alloc (Below.refl _ _) _)).below (q_alloc (Below.refl _ _) _), a1.below (q_alloc (Below.refl _ _) _), a2⟩
set_option maxHeartbeats 400000 in
theorem rput_bad (c : C) (w : World) (hc : Wf c) (h : okC c = false) : Calls Tryd.prog 10 #[(.agg #[.int .i64 c.k, .int .u64 c.a, .int .u64 c.b, .int .i64 c.r, .int .i64 c.g, .int .i64 c.t, .int .i64 c.s, .int .i64 c.v])] w (PutR c w) := by
  have HC : Hid (∀ W : World, Calls Tryd.prog 15 #[(.agg #[.int .i64 c.k, .int .u64 c.a, .int .u64 c.b, .int .i64 c.r, .int .i64 c.g, .int .i64 c.t, .int .i64 c.s, .int .i64 c.v])] W fun e w' => e = .returned (.bool false) ∧ Below W.heap.size W w') := fun W => by
    have := ris_any c W hc
    rwa [h] at this
  have HP := hid (put_no h)
  clear hc h
  go_enter Tryd.func10, Tryd.ntmps10
  go_wp2_with fail
  refine (HC.out _).mono ?_
  rintro e w1 ⟨rfl, b1⟩
  have HB := hid (q_trans (q_alloc (Below.refl _ _) _) b1)
  clear b1
  go_wp2_with fail
  go_ret2
  exact ⟨none, 0, 0, by rw [HP.out.2]; rfl, by rw [HP.out.1]; exact mineU_nil _ _, HB.out⟩
set_option maxRecDepth 100000 in
set_option maxHeartbeats 2000000 in
theorem rput_ok (c : C) (w : World) (hc : Wf c) (h : okC c = true) : Calls Tryd.prog 10 #[(.agg #[.int .i64 c.k, .int .u64 c.a, .int .u64 c.b, .int .i64 c.r, .int .i64 c.g, .int .i64 c.t, .int .i64 c.s, .int .i64 c.v])] w (PutR c w) := by
  have HC : Hid (∀ W : World, Calls Tryd.prog 15 #[(.agg #[.int .i64 c.k, .int .u64 c.a, .int .u64 c.b, .int .i64 c.r, .int .i64 c.g, .int .i64 c.t, .int .i64 c.s, .int .i64 c.v])] W fun e w' => e = .returned (.bool true) ∧ Below W.heap.size W w') := fun W => by
    have := ris_any c W hc
    rwa [h] at this
  have HO : Hid (okC c = true) := h
  have HP := hid (put_yes h)
  have HI := in_new w c 24
  clear h hc
  go_enter Tryd.func10, Tryd.ntmps10
  go_wp2_with fail
  refine (HC.out _).mono ?_
  rintro e w1 ⟨rfl, b1⟩
  have HI1 := hid (HI.below b1)
  obtain ⟨c0, c1, c2, c3, c4, c5, c6, c7⟩ := HI.below b1
  have HB1 : Hid (Below w.heap.size w w1) := q_trans (q_alloc (Below.refl _ _) _) b1
  clear b1 HI
  have hlt := HI1.out.lt
  go_wp2_with fail
  have H3 := hid (three_new w1 c 3 _ _ _ rfl rfl rfl)
  go_loopw [4, 8] (fun v i wr => ∃ k : Nat, k ≤ 5 ∧ i = .int .i64 k ∧ v = .int .u64 (acc c k) ∧ Hid (Five wr w1.heap.size fldAt ∧ Five wr (w1.heap.size + 1) fldW ∧ Five wr (w1.heap.size + 1 + 1) (part c)) ∧ Hid (In wr w.heap.size c) ∧ Hid (Below w.heap.size w wr)) (fun _ i _ => 5 - (intOf i).toNat)
  case atStart => exact ⟨0, by omega, rfl, rfl, H3, ((HI1.out.below (q_alloc (Below.refl _ _) _)).below (q_alloc (Below.refl _ _) _)).below (q_alloc (Below.refl _ _) _), q_alloc (q_alloc (q_alloc HB1.out _) _) _⟩
  case round =>
    obtain ⟨k, hk, rfl, rfl, hF, hJ, hI⟩ := hrel
    clear c0 c1 c2 c3 c4 c5 c6 c7
    by_cases hlt : k < 5
    · have i1 : (0 : Int) ≤ (k : Int) := by omega
      have i2 : (k : Int) < 5 := by omega
      have hp := part_ok HO.out k
      have hwr : IntKind.u64.wrap (part c k) = part c k := wrap_u64 hp.1 (by omega)
      go_wp2_with fail
      have hfa : ∀ g : Later wr, g.now.cell? ⟨w1.heap.size, k, none⟩ = some (.int .i64 (fldAt k)) := fun g => g.cell (hF.out.1.at_ k hlt)
      have hfw : ∀ g : Later wr, g.now.cell? ⟨w1.heap.size + 1, k, none⟩ = some (.int .i64 (fldW k)) := fun g => g.cell (hF.out.2.1.at_ k hlt)
      have hfp : ∀ g : Later wr, g.now.cell? ⟨w1.heap.size + 1 + 1, k, none⟩ = some (.int .i64 (part c k)) := fun g => g.cell (hF.out.2.2.at_ k hlt)
      have HU : Hid (U64 (acc c k)) := acc_u64 HO.out k
      have HV : Hid (U64 (part c k)) := ⟨hp.1, by omega⟩
      have hne : Nonempty (Later wr) := ⟨⟨wr, Below.refl _ _⟩⟩
      refine wp_region_later (by kernel_rfl) (by kernel_rfl) ?_
      repeat (go_big_quiet_step ((go_at_call 21; exact later_same (rput_any _ _ _ _ _ HU.out HV.out))))
      refine wpQuiet_nil ?_
      rintro w3 ⟨⟨_, b3⟩, rfl⟩
      go_wp2_with fail
      exact ⟨⟨k + 1, by omega, by go_num, rfl, ⟨hF.out.1.below b3, hF.out.2.1.below b3, hF.out.2.2.below b3⟩, hJ.out.below b3, q_trans hI.out b3⟩, by simp [intOf]; omega⟩
    · obtain rfl : k = 5 := by omega
      obtain ⟨c0, c1, c2, c3, c4, c5, c6, c7⟩ := hJ.out
      go_wp2_with fail
      go_ret2
      exact ⟨_, 4, 4, by rw [HP.out.2]; rfl, by rw [HP.out.1]; exact ⟨(four_new wr _ _ _ _ _).has, fun a e => by cases e; exact hI.out.size⟩, q_alloc hI.out _⟩
/-- THE DOCUMENT's PUT. -/
theorem rput_c (c : C) (w : World) (hc : Wf c) : Calls Tryd.prog 10 #[(.agg #[.int .i64 c.k, .int .u64 c.a, .int .u64 c.b, .int .i64 c.r, .int .i64 c.g, .int .i64 c.t, .int .i64 c.s, .int .i64 c.v])] w (PutR c w) := by
  cases h : okC c with
  | true => exact rput_ok c w hc h
  | false => exact rput_bad c w hc h
end Go.Proofs.YtilannincbcgkaaDoor.Kl
