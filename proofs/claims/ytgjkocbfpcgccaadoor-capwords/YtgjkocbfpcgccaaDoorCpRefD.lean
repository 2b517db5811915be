/- What the reference's Word and Parse do. -/
import Derived.Test.YtgjkocbfpcgccaaDoorRefAc
import Derived.Test.YtgjkocbfpcgccaaDoorCpRefA
import Derived.Test.YtgjkocbfpcgccaaDoorCpFacts
namespace Go.Proofs.YtgjkocbfpcgccaaDoor.Cp
open Go.RowKit

/-- Three lists of five numbers lie in three blocks. -/
structure Sl (w W : World) (A : Nat) (c : K) : Prop where
  a : ∀ k, k < 5 → W.cell? ⟨A, k, none⟩ = some (.int .i64 (fldAt k))
  n : ∀ k, k < 5 → W.cell? ⟨A + 1, k, none⟩ = some (.int .i64 (fldW k))
  v : ∀ k, k < 5 → W.cell? ⟨A + 1 + 1, k, none⟩ = some (.int .i64 (part c k))
  low : Below w.heap.size w W
theorem Sl.below {w W W' : World} {A : Nat} {c : K} (h : Sl w W A c) (hb : Below W.heap.size W W') : Sl w W' A c :=
  ⟨fun k hk => (Later.mk W' hb).cell (h.a k hk), fun k hk => (Later.mk W' hb).cell (h.n k hk), fun k hk => (Later.mk W' hb).cell (h.v k hk), q_trans h.low hb⟩
theorem In.spot {w : World} {b : Nat} {c : K} (h : In w b c) (k : Nat) (hk : k < 5) : w.cell? ⟨b, k, none⟩ = some (.int .i64 (part c k)) := by
  have : k = 0 ∨ k = 1 ∨ k = 2 ∨ k = 3 ∨ k = 4 := by omega
  rcases this with rfl | rfl | rfl | rfl | rfl
  · exact h.c0
  · exact h.c1
  · exact h.c2
  · exact h.c3
  · exact h.c4
theorem part_at (k : Nat) (hk : k < 5) : part ⟨0, 4, 8, 24, 34⟩ k = fldAt k := by
  have : k = 0 ∨ k = 1 ∨ k = 2 ∨ k = 3 ∨ k = 4 := by omega
  rcases this with rfl | rfl | rfl | rfl | rfl <;> rfl
theorem part_w (k : Nat) (hk : k < 5) : part ⟨4, 4, 16, 10, 12⟩ k = fldW k := by
  have : k = 0 ∨ k = 1 ∨ k = 2 ∨ k = 3 ∨ k = 4 := by omega
  rcases this with rfl | rfl | rfl | rfl | rfl <;> rfl
theorem sl_new {w W : World} (c : K) (hb : Below w.heap.size w W) : Sl w (((W.alloc (.cells #[.int .i64 0, .int .i64 4, .int .i64 8, .int .i64 24, .int .i64 34] 3)).alloc (.cells #[.int .i64 4, .int .i64 4, .int .i64 16, .int .i64 10, .int .i64 12] 3)).alloc (.cells #[.int .i64 c.t, .int .i64 c.r, .int .i64 c.b, .int .i64 c.o, .int .i64 c.g] 3)) W.heap.size c := by
  have h1 := in_new W ⟨0, 4, 8, 24, 34⟩ 3
  have h2 := in_new (W.alloc (.cells #[.int .i64 0, .int .i64 4, .int .i64 8, .int .i64 24, .int .i64 34] 3)) ⟨4, 4, 16, 10, 12⟩ 3
  have h3 := in_new ((W.alloc (.cells #[.int .i64 0, .int .i64 4, .int .i64 8, .int .i64 24, .int .i64 34] 3)).alloc (.cells #[.int .i64 4, .int .i64 4, .int .i64 16, .int .i64 10, .int .i64 12] 3)) c 3
  rw [show (W.alloc (.cells #[.int .i64 0, .int .i64 4, .int .i64 8, .int .i64 24, .int .i64 34] 3)).heap.size = W.heap.size + 1 by simp] at h2
  rw [show ((W.alloc (.cells #[.int .i64 0, .int .i64 4, .int .i64 8, .int .i64 24, .int .i64 34] 3)).alloc (.cells #[.int .i64 4, .int .i64 4, .int .i64 16, .int .i64 10, .int .i64 12] 3)).heap.size = W.heap.size + 1 + 1 by simp] at h3
  refine ⟨fun k hk => ?_, fun k hk => ?_, fun k hk => h3.spot k hk, q_alloc (q_alloc (q_alloc hb _) _) _⟩
  · have := ((h1.below (q_alloc (Below.refl _ _) (.cells #[.int .i64 4, .int .i64 4, .int .i64 16, .int .i64 10, .int .i64 12] 3))).below (q_alloc (Below.refl _ _) (.cells #[.int .i64 c.t, .int .i64 c.r, .int .i64 c.b, .int .i64 c.o, .int .i64 c.g] 3))).spot k hk
    rw [part_at k hk] at this
    exact this
  · have := (h2.below (q_alloc (Below.refl _ _) (.cells #[.int .i64 c.t, .int .i64 c.r, .int .i64 c.b, .int .i64 c.o, .int .i64 c.g] 3))).spot k hk
    rw [part_w k hk] at this
    exact this

set_option maxHeartbeats 400000 in
theorem rword_bad (c : K) (w : World) (h : okB c = false) :
    Calls Tryd.prog 10 #[(.agg #[.int .i64 c.t, .int .i64 c.r, .int .i64 c.b, .int .i64 c.o, .int .i64 c.g])] w fun e w' => e = .returned (.tuple #[.int .u64 0, .int .i64 30]) ∧ Below w.heap.size w w' := by
  go_enter Tryd.func10, Tryd.ntmps10
  go_wp2_with (go_at_call 15; refine (ris_any c _).mono ?_; rintro e w1 ⟨rfl, b1⟩)
  go_ret2
  exact ⟨rfl, q_trans (q_alloc (Below.refl _ _) _) b1⟩

set_option maxRecDepth 100000 in
set_option maxHeartbeats 600000 in
theorem rword_ok (c : K) (w : World) (h : okB c = true) :
    Calls Tryd.prog 10 #[(.agg #[.int .i64 c.t, .int .i64 c.r, .int .i64 c.b, .int .i64 c.o, .int .i64 c.g])] w fun e w' => e = .returned (.tuple #[.int .u64 (acc c 5), .int .i64 0]) ∧ Below w.heap.size w w' := by
  have HO : Hid (okB c = true) := h
  have HI := in_new w c 23
  go_enter Tryd.func10, Tryd.ntmps10
  go_wp2_with fail
  refine (ris_any c _).mono ?_
  rintro e w1 ⟨rfl, b1⟩
  have HB1 : Hid (Below w.heap.size w w1) := q_trans (q_alloc (Below.refl _ _) _) b1
  have HI1 := HI.below b1
  have hl1 := HI1.lt
  obtain ⟨c0, c1, c2, c3, c4⟩ := HI1
  clear b1 HI
  go_wp2_with fail
  have HS := sl_new c HB1.out
  clear c0 c1 c2 c3 c4
  go_loopw [4, 8] (fun x i wr => ∃ k : Nat, k ≤ 5 ∧ i = .int .i64 k ∧ x = .int .u64 (acc c k) ∧ Hid (Sl w wr w1.heap.size c)) (fun _ i _ => 5 - (intOf i).toNat)
  case atStart => exact ⟨0, by omega, rfl, rfl, HS⟩
  case round =>
    obtain ⟨k, hk, rfl, rfl, hS⟩ := hrel
    by_cases hlt : k < 5
    · have i1 : (0 : Int) ≤ (k : Int) := by omega
      have i2 : (k : Int) < 5 := by omega
      have hp := part_ok HO.out k
      have hwr : IntKind.u64.wrap (part c k) = part c k := wrap_u64 hp.1 (by omega)
      have HU : Hid (U64 (acc c k)) := acc_u64 HO.out k
      have HV : Hid (U64 (part c k)) := ⟨hp.1, by omega⟩
      have q1 : ∀ g : Later wr, g.now.cell? ⟨w1.heap.size, k, none⟩ = some (.int .i64 (fldAt k)) := fun g => g.cell (hS.out.a k hlt)
      have q2 : ∀ g : Later wr, g.now.cell? ⟨w1.heap.size + 1, k, none⟩ = some (.int .i64 (fldW k)) := fun g => g.cell (hS.out.n k hlt)
      have q3 : ∀ g : Later wr, g.now.cell? ⟨w1.heap.size + 1 + 1, k, none⟩ = some (.int .i64 (part c k)) := fun g => g.cell (hS.out.v k hlt)
      have hne : Nonempty (Later wr) := ⟨⟨wr, Below.refl _ _⟩⟩
      go_wp2_with fail
      refine wp_region_later (by kernel_rfl) (by kernel_rfl) ?_
      repeat (go_big_quiet_step ((go_at_call 28; exact later_same (rput_any _ _ _ _ _ HU.out HV.out))))
      refine wpQuiet_nil ?_
      rintro w3 ⟨⟨_, b3⟩, rfl⟩
      go_wp2_with fail
      exact ⟨⟨k + 1, by omega, by go_num, rfl, hS.out.below b3⟩, by simp [intOf]; omega⟩
    · obtain rfl : k = 5 := by omega
      go_wp2_with fail
      go_ret2
      exact ⟨rfl, hS.out.low⟩
/-- WORD, OF WHATEVER CAPABILITY. -/
theorem rword_any (c : K) (w : World) :
    Calls Tryd.prog 10 #[(.agg #[.int .i64 c.t, .int .i64 c.r, .int .i64 c.b, .int .i64 c.o, .int .i64 c.g])] w fun e w' => e = .returned (.tuple #[.int .u64 (wordT c), .int .i64 (chkE c)]) ∧ Below w.heap.size w w' := by
  cases h : okB c with
  | true =>
    rw [show wordT c = acc c 5 by simp [wordT, h], show chkE c = 0 by simp [chkE, h]]
    exact rword_ok c w h
  | false =>
    rw [show wordT c = 0 by simp [wordT, h], show chkE c = 30 by simp [chkE, h]]
    exact rword_bad c w h

theorem wrap_gp (x : Int) (i : Nat) : wrap64 (getT x (fldAt i) (fldW i)) = gp x i := by
  have h := gp_range x i
  show wrap64 (gp x i) = gp x i
  unfold wrap64
  omega
set_option maxRecDepth 100000 in
set_option maxHeartbeats 600000 in
theorem rparse_any (x : Int) (w : World) (hx : U64 x) :
    Calls Tryd.prog 12 #[.int .u64 x] w fun e w' => e = .returned (.tuple #[(.agg #[.int .i64 (parC x).t, .int .i64 (parC x).r, .int .i64 (parC x).b, .int .i64 (parC x).o, .int .i64 (parC x).g]), .int .i64 (parE x)]) ∧ Below w.heap.size w w' := by
  have HX : Hid (U64 x) := hx
  have HO : ∀ w : World, Own ((w.alloc (.cells #[.int .i64 0, .int .i64 0, .int .i64 0, .int .i64 0, .int .i64 0] 23)).alloc (.cells #[.int .i64 (parK x).t, .int .i64 (parK x).r, .int .i64 (parK x).b, .int .i64 (parK x).o, .int .i64 (parK x).g] 23)) w.heap.size K.zero := fun w => (own_new w K.zero 23).alloc _
  have HP : ∀ w : World, In ((w.alloc (.cells #[.int .i64 0, .int .i64 0, .int .i64 0, .int .i64 0, .int .i64 0] 23)).alloc (.cells #[.int .i64 (parK x).t, .int .i64 (parK x).r, .int .i64 (parK x).b, .int .i64 (parK x).o, .int .i64 (parK x).g] 23)) (w.heap.size + 1) (parK x) := fun w => by
    have h := in_new (w.alloc (.cells #[.int .i64 0, .int .i64 0, .int .i64 0, .int .i64 0, .int .i64 0] 23)) (parK x) 23
    rw [show (w.alloc (.cells #[.int .i64 0, .int .i64 0, .int .i64 0, .int .i64 0, .int .i64 0] 23)).heap.size = w.heap.size + 1 by simp] at h
    exact h
  have HO : Hid _ := HO
  have HP : Hid _ := HP
  have k0 : wrap64 (getT x 0 4) = (parK x).t := wrap_gp x 0
  have k1 : wrap64 (getT x 4 4) = (parK x).r := wrap_gp x 1
  have k2 : wrap64 (getT x 8 16) = (parK x).b := wrap_gp x 2
  have k3 : wrap64 (getT x 24 10) = (parK x).o := wrap_gp x 3
  have k4 : wrap64 (getT x 34 12) = (parK x).g := wrap_gp x 4
  clear hx
  cases h1 : okB (parK x) with
  | false =>
    have HR : Hid (parC x = K.zero ∧ parE x = 30) := by simp [Hid, parC, parE, parB, h1]
    have HC : Hid (∀ W : World, Calls Tryd.prog 10 #[(.agg #[.int .i64 (parK x).t, .int .i64 (parK x).r, .int .i64 (parK x).b, .int .i64 (parK x).o, .int .i64 (parK x).g])] W fun e w' => e = .returned (.tuple #[.int .u64 0, .int .i64 30]) ∧ Below W.heap.size W w') := fun W => by
      have := rword_any (parK x) W
      rwa [show wordT (parK x) = 0 by simp [wordT, h1], show chkE (parK x) = 30 by simp [chkE, h1]] at this
    go_enter Tryd.func12, Tryd.ntmps12
    go_wp2_with (go_at_call 31; refine (rget_any _ _ _ _ HX.out).mono ?_; rintro e w5 ⟨rfl, rfl⟩)
    refine (HC.out _).mono ?_
    rintro e w2 ⟨rfl, b2⟩
    have HB2 := q_trans (q_alloc (q_alloc (Below.refl _ _) _) _) b2
    obtain ⟨⟨z0, z1, z2, z3, z4⟩, g0, g1, g2, g3, g4⟩ := (HO.out _).below b2
    obtain ⟨p0, p1, p2, p3, p4⟩ := (HP.out _).below b2
    have HB2 : Hid _ := HB2
    clear b2
    go_wp2_with fail
    refine bodyPost_ret (v := .tuple #[.agg #[.int .i64 0, .int .i64 0, .int .i64 0, .int .i64 0, .int .i64 0], .int .i64 30]) (by simp [results, Tryd.results12, go_sem, *]) rfl ⟨by rw [HR.out.1, HR.out.2]; rfl, ?_⟩
    exact q_set (q_set (q_set (q_set (q_set HB2.out (Nat.le_refl _) _) (Nat.le_refl _) _) (Nat.le_refl _) _) (Nat.le_refl _) _) (Nat.le_refl _) _
  | true =>
    by_cases h2 : wordT (parK x) = x
    · have HR : Hid (parC x = parK x ∧ parE x = 0) := by simp [Hid, parC, parE, parB, h1, h2]
      have HC : Hid (∀ W : World, Calls Tryd.prog 10 #[(.agg #[.int .i64 (parK x).t, .int .i64 (parK x).r, .int .i64 (parK x).b, .int .i64 (parK x).o, .int .i64 (parK x).g])] W fun e w' => e = .returned (.tuple #[.int .u64 x, .int .i64 0]) ∧ Below W.heap.size W w') := fun W => by
        have := rword_any (parK x) W
        rwa [h2, show chkE (parK x) = 0 by simp [chkE, h1]] at this
      clear h2
      go_enter Tryd.func12, Tryd.ntmps12
      go_wp2_with (go_at_call 31; refine (rget_any _ _ _ _ HX.out).mono ?_; rintro e w5 ⟨rfl, rfl⟩)
      refine (HC.out _).mono ?_
      rintro e w2 ⟨rfl, b2⟩
      have HB2 := q_trans (q_alloc (q_alloc (Below.refl _ _) _) _) b2
      obtain ⟨⟨z0, z1, z2, z3, z4⟩, g0, g1, g2, g3, g4⟩ := (HO.out _).below b2
      obtain ⟨p0, p1, p2, p3, p4⟩ := (HP.out _).below b2
      have HB2 : Hid _ := HB2
      clear b2
      go_wp2_with fail
      refine bodyPost_ret (v := .tuple #[(.agg #[.int .i64 (parK x).t, .int .i64 (parK x).r, .int .i64 (parK x).b, .int .i64 (parK x).o, .int .i64 (parK x).g]), .int .i64 0]) (by simp [results, Tryd.results12, go_sem, *]) rfl ⟨by rw [HR.out.1, HR.out.2], ?_⟩
      exact q_set (q_set (q_set (q_set (q_set HB2.out (Nat.le_refl _) _) (Nat.le_refl _) _) (Nat.le_refl _) _) (Nat.le_refl _) _) (Nat.le_refl _) _
    · have HR : Hid (parC x = K.zero ∧ parE x = 30) := by simp [Hid, parC, parE, parB, h1, h2]
      have HC : Hid (∀ W : World, Calls Tryd.prog 10 #[(.agg #[.int .i64 (parK x).t, .int .i64 (parK x).r, .int .i64 (parK x).b, .int .i64 (parK x).o, .int .i64 (parK x).g])] W fun e w' => e = .returned (.tuple #[.int .u64 (wordT (parK x)), .int .i64 0]) ∧ Below W.heap.size W w') := fun W => by
        have := rword_any (parK x) W
        rwa [show chkE (parK x) = 0 by simp [chkE, h1]] at this
      go_enter Tryd.func12, Tryd.ntmps12
      go_wp2_with (go_at_call 31; refine (rget_any _ _ _ _ HX.out).mono ?_; rintro e w5 ⟨rfl, rfl⟩)
      refine (HC.out _).mono ?_
      rintro e w2 ⟨rfl, b2⟩
      have HB2 := q_trans (q_alloc (q_alloc (Below.refl _ _) _) _) b2
      obtain ⟨⟨z0, z1, z2, z3, z4⟩, g0, g1, g2, g3, g4⟩ := (HO.out _).below b2
      obtain ⟨p0, p1, p2, p3, p4⟩ := (HP.out _).below b2
      have HB2 : Hid _ := HB2
      clear b2
      go_wp2_with fail
      refine bodyPost_ret (v := .tuple #[.agg #[.int .i64 0, .int .i64 0, .int .i64 0, .int .i64 0, .int .i64 0], .int .i64 30]) (by simp [results, Tryd.results12, go_sem, *]) rfl ⟨by rw [HR.out.1, HR.out.2]; rfl, ?_⟩
      exact q_set (q_set (q_set (q_set (q_set HB2.out (Nat.le_refl _) _) (Nat.le_refl _) _) (Nat.le_refl _) _) (Nat.le_refl _) _) (Nat.le_refl _) _
end Go.Proofs.YtgjkocbfpcgccaaDoor.Cp
