/- What isSome, Derive, May, Names do. -/
import Derived.Test.YtgjkocbfpcgccabDoorCpW4
import Derived.Test.YtgjkocbfpcgccabDoorCpEq
namespace Go.Proofs.YtgjkocbfpcgccabDoor.Cp
open Go.RowKit

theorem okB_some {c : K} (h : noneB c = false) : okB c = someB c := by simp [okB, h]
theorem someB_none {c : K} (h : noneB c = true) : someB c = false := by
  cases hs : someB c with
  | false => rfl
  | true => rw [some_not_none hs] at h; cases h

set_option maxHeartbeats 400000 in
theorem isSome_any (c : K) (w : World) (hT : Tabs w) :
    Calls Tryd.prog 10 #[(.agg #[.int .i64 c.t, .int .i64 c.r, .int .i64 c.b, .int .i64 c.o, .int .i64 c.g])] w fun e w' => e = .returned (.bool (someB c)) ∧ Below w.heap.size w w' := by
  have HT : Hid (Tabs w) := hT
  have HI := in_new w c 23
  clear hT
  cases hn : noneB c with
  | true =>
    have HS : Hid (someB c = false) := someB_none hn
    go_enter Tryd.func10, Tryd.ntmps10
    go_wp2_with (go_at_call 22; refine (isNone_any c _).mono ?_; rintro e w1 ⟨rfl, b1⟩)
    go_ret
    exact ⟨Rt.ret_bool HS.out.symm, q_trans (q_alloc (Below.refl _ _) _) b1⟩
  | false =>
    have HC : Hid (∀ W : World, Tabs W → Calls Tryd.prog 17 #[(.agg #[.int .i64 c.t, .int .i64 c.r, .int .i64 c.b, .int .i64 c.o, .int .i64 c.g])] W fun e w' => e = .returned (.int .i64 (if someB c then 0 else 30)) ∧ Below W.heap.size W w') := fun W hW => by
      have := check_any c W hW
      rwa [chkE, okB_some hn] at this
    cases hs : someB c with
    | true =>
      rw [hs, if_pos rfl] at HC
      go_enter Tryd.func10, Tryd.ntmps10
      go_wp2_with fail
      refine (isNone_any c _).mono ?_
      rintro e w1 ⟨rfl, b1⟩
      have HB1 : Hid (Below w.heap.size w w1) := q_trans (q_alloc (Below.refl _ _) _) b1
      obtain ⟨c0, c1, c2, c3, c4⟩ := HI.below b1
      clear b1
      go_wp2_with (go_at_call 17; refine (HC.out _ (HT.out.below HB1.out)).mono ?_; rintro e w2 ⟨rfl, b2⟩)
      go_ret
      exact ⟨rfl, q_trans HB1.out b2⟩
    | false =>
      rw [hs, if_neg (by decide)] at HC
      go_enter Tryd.func10, Tryd.ntmps10
      go_wp2_with fail
      refine (isNone_any c _).mono ?_
      rintro e w1 ⟨rfl, b1⟩
      have HB1 : Hid (Below w.heap.size w w1) := q_trans (q_alloc (Below.refl _ _) _) b1
      obtain ⟨c0, c1, c2, c3, c4⟩ := HI.below b1
      clear b1
      go_wp2_with (go_at_call 17; refine (HC.out _ (HT.out.below HB1.out)).mono ?_; rintro e w2 ⟨rfl, b2⟩)
      go_ret
      exact ⟨rfl, q_trans HB1.out b2⟩

/-- Whether it lets one do this. -/
def mayB (c : K) (r : Int) : Bool := someB c && Rt.wiB r c.r
set_option maxHeartbeats 400000 in
theorem may_any (c : K) (r : Int) (w : World) (hT : Tabs w) :
    Calls Tryd.prog 15 #[(.agg #[.int .i64 c.t, .int .i64 c.r, .int .i64 c.b, .int .i64 c.o, .int .i64 c.g]), .int .i64 r] w fun e w' => e = .returned (.bool (mayB c r)) ∧ Below w.heap.size w w' := by
  have HT : Hid (Tabs w) := hT
  have HI := in_new w c 23
  clear hT
  cases hs : someB c with
  | false =>
    go_enter Tryd.func15, Tryd.ntmps15
    go_wp2_with (go_at_call 10; refine (isSome_any c _ (HT.out.below (q_alloc (Below.refl _ _) _))).mono ?_; rintro e w1 ⟨rfl, b1⟩)
    go_ret
    exact ⟨by simp [mayB, hs], q_trans (q_alloc (Below.refl _ _) _) b1⟩
  | true =>
    have HM : Hid (mayB c r = Rt.wiB r c.r) := by simp [Hid, mayB, hs]
    go_enter Tryd.func15, Tryd.ntmps15
    go_wp2_with fail
    refine (isSome_any c _ (HT.out.below (q_alloc (Below.refl _ _) _))).mono ?_
    rintro e w1 ⟨rfl, b1⟩
    have HB1 : Hid (Below w.heap.size w w1) := q_trans (q_alloc (Below.refl _ _) _) b1
    obtain ⟨c0, c1, c2, c3, c4⟩ := HI.below b1
    clear b1
    go_wp2_with (go_at_call 11; refine (within_c _ c _).mono ?_; rintro e w2 ⟨rfl, b2⟩)
    go_ret
    exact ⟨Rt.ret_bool HM.out.symm, q_trans HB1.out b2⟩

/-- Whether two name one object. -/
def namB (c d : K) : Bool := !noneB c && (!noneB d && (c.t == d.t && (c.o == d.o && c.g == d.g)))
set_option maxHeartbeats 1000000 in
theorem names_any (c d : K) (w : World) :
    Calls Tryd.prog 16 #[(.agg #[.int .i64 c.t, .int .i64 c.r, .int .i64 c.b, .int .i64 c.o, .int .i64 c.g]), (.agg #[.int .i64 d.t, .int .i64 d.r, .int .i64 d.b, .int .i64 d.o, .int .i64 d.g])] w fun e w' => e = .returned (.bool (namB c d)) ∧ Below w.heap.size w w' := by
  have HI : In ((w.alloc (.cells #[.int .i64 c.t, .int .i64 c.r, .int .i64 c.b, .int .i64 c.o, .int .i64 c.g] 23)).alloc (.cells #[.int .i64 d.t, .int .i64 d.r, .int .i64 d.b, .int .i64 d.o, .int .i64 d.g] 23)) w.heap.size c := (in_new w c 23).below (q_alloc (Below.refl _ _) _)
  have HJ : In ((w.alloc (.cells #[.int .i64 c.t, .int .i64 c.r, .int .i64 c.b, .int .i64 c.o, .int .i64 c.g] 23)).alloc (.cells #[.int .i64 d.t, .int .i64 d.r, .int .i64 d.b, .int .i64 d.o, .int .i64 d.g] 23)) (w.heap.size + 1) d := by
    have h := in_new (w.alloc (.cells #[.int .i64 c.t, .int .i64 c.r, .int .i64 c.b, .int .i64 c.o, .int .i64 c.g] 23)) d 23
    rw [show (w.alloc (.cells #[.int .i64 c.t, .int .i64 c.r, .int .i64 c.b, .int .i64 c.o, .int .i64 c.g] 23)).heap.size = w.heap.size + 1 by simp] at h
    exact h
  have HB : Hid (Below w.heap.size w ((w.alloc (.cells #[.int .i64 c.t, .int .i64 c.r, .int .i64 c.b, .int .i64 c.o, .int .i64 c.g] 23)).alloc (.cells #[.int .i64 d.t, .int .i64 d.r, .int .i64 d.b, .int .i64 d.o, .int .i64 d.g] 23))) := q_alloc (q_alloc (Below.refl _ _) _) _
  obtain ⟨W, hW⟩ : ∃ W, (w.alloc (.cells #[.int .i64 c.t, .int .i64 c.r, .int .i64 c.b, .int .i64 c.o, .int .i64 c.g] 23)).alloc (.cells #[.int .i64 d.t, .int .i64 d.r, .int .i64 d.b, .int .i64 d.o, .int .i64 d.g] 23) = W := ⟨_, rfl⟩
  rw [hW] at HI HJ HB
  obtain ⟨c0, c1, c2, c3, c4⟩ := HI.always
  obtain ⟨d0, d1, d2, d3, d4⟩ := HJ.always
  have he3 := eq3 c.t c.o c.g d.t d.o d.g
  have hne : Nonempty (Later W) := ⟨⟨W, Below.refl _ _⟩⟩
  clear HI HJ
  cases hc : noneB c with
  | true =>
    go_enter Tryd.func16, Tryd.ntmps16
    go_wp2_with fail
    refine wp_region_later (by kernel_rfl) (by kernel_rfl) ?_
    repeat (go_big_quiet_step (first | (go_at_call 22; exact later_call (isNone_any _ _)) | (go_at_call 26; exact later_call (object_any _ _))))
    refine wpQuiet_nil ?_
    rintro w3 ⟨⟨_, b3⟩, rfl⟩
    go_wp2_with fail
    go_ret
    exact ⟨by simp [namB, hc], q_trans HB.out b3⟩
  | false =>
    cases hd : noneB d with
    | true =>
      go_enter Tryd.func16, Tryd.ntmps16
      go_wp2_with fail
      refine wp_region_later (by kernel_rfl) (by kernel_rfl) ?_
      repeat (go_big_quiet_step (first | (go_at_call 22; exact later_call (isNone_any _ _)) | (go_at_call 26; exact later_call (object_any _ _))))
      refine wpQuiet_nil ?_
      rintro w3 ⟨⟨_, b3⟩, rfl⟩
      go_wp2_with fail
      go_ret
      exact ⟨by simp [namB, hc, hd], q_trans HB.out b3⟩
    | false =>
      go_enter Tryd.func16, Tryd.ntmps16
      go_wp2_with fail
      refine wp_region_later (by kernel_rfl) (by kernel_rfl) ?_
      repeat (go_big_quiet_step (first | (go_at_call 22; exact later_call (isNone_any _ _)) | (go_at_call 26; exact later_call (object_any _ _))))
      refine wpQuiet_nil ?_
      rintro w3 ⟨⟨_, b3⟩, rfl⟩
      go_wp2_with fail
      go_ret
      exact ⟨by simp [namB, hc, hd], q_trans HB.out b3⟩

/-! ### Derive -/
def badB (c : K) (b : Int) : Bool := takesB c && decide (1 ≤ b ∧ b ≤ 65535)
def drvE (c : K) (r b : Int) : Int := if someB c then (if Rt.wiB r c.r then (if b = 0 then 0 else if badB c b then 0 else 2) else 20) else 30
def drvC (c : K) (r b : Int) : K := if drvE c r b = 0 then ⟨c.t, r, if b = 0 then c.b else b, c.o, c.g⟩ else K.zero

theorem drv_some {c : K} {r b : Int} (h : someB c = false) : drvE c r b = 30 ∧ drvC c r b = K.zero := by
  have e : drvE c r b = 30 := by simp [drvE, h]
  exact ⟨e, by rw [drvC, e, if_neg (by decide)]⟩
theorem drv_rights {c : K} {r b : Int} (h : someB c = true) (h1 : Rt.wiB r c.r = false) : drvE c r b = 20 ∧ drvC c r b = K.zero := by
  have e : drvE c r b = 20 := by simp [drvE, h, h1]
  exact ⟨e, by rw [drvC, e, if_neg (by decide)]⟩
theorem drv_zero {c : K} {r : Int} (h : someB c = true) (h1 : Rt.wiB r c.r = true) : drvE c r 0 = 0 ∧ drvC c r 0 = ⟨c.t, r, c.b, c.o, c.g⟩ := by
  have e : drvE c r 0 = 0 := by simp [drvE, h, h1]
  exact ⟨e, by rw [drvC, e, if_pos rfl, if_pos rfl]⟩
theorem drv_arg {c : K} {r b : Int} (h : someB c = true) (h1 : Rt.wiB r c.r = true) (h2 : ¬ b = 0) (h3 : badB c b = false) : drvE c r b = 2 ∧ drvC c r b = K.zero := by
  have e : drvE c r b = 2 := by simp [drvE, h, h1, h2, h3]
  exact ⟨e, by rw [drvC, e, if_neg (by decide)]⟩
theorem drv_badge {c : K} {r b : Int} (h : someB c = true) (h1 : Rt.wiB r c.r = true) (h2 : ¬ b = 0) (h3 : badB c b = true) : drvE c r b = 0 ∧ drvC c r b = ⟨c.t, r, b, c.o, c.g⟩ := by
  have e : drvE c r b = 0 := by simp [drvE, h, h1, h2, h3]
  exact ⟨e, by rw [drvC, e, if_pos rfl, if_neg h2]⟩

set_option maxRecDepth 100000 in
set_option maxHeartbeats 2000000 in
theorem derive_any (c : K) (r b : Int) (w : World) (hT : Tabs w) :
    Calls Tryd.prog 5 #[(.agg #[.int .i64 c.t, .int .i64 c.r, .int .i64 c.b, .int .i64 c.o, .int .i64 c.g]), .int .i64 r, .int .i64 b] w fun e w' => e = .returned (.tuple #[(.agg #[.int .i64 (drvC c r b).t, .int .i64 (drvC c r b).r, .int .i64 (drvC c r b).b, .int .i64 (drvC c r b).o, .int .i64 (drvC c r b).g]), .int .i64 (drvE c r b)]) ∧ Below w.heap.size w w' := by
  have HT : Hid (Tabs w) := hT
  have HI : Hid (In ((w.alloc (.cells #[.int .i64 c.t, .int .i64 c.r, .int .i64 c.b, .int .i64 c.o, .int .i64 c.g] 23)).alloc (.cells #[.int .i64 0, .int .i64 0, .int .i64 0, .int .i64 0, .int .i64 0] 23)) w.heap.size c) := (in_new w c 23).below (q_alloc (Below.refl _ _) _)
  have HO : Hid (Own ((w.alloc (.cells #[.int .i64 c.t, .int .i64 c.r, .int .i64 c.b, .int .i64 c.o, .int .i64 c.g] 23)).alloc (.cells #[.int .i64 0, .int .i64 0, .int .i64 0, .int .i64 0, .int .i64 0] 23)) (w.heap.size + 1) K.zero) := by
    have h := own_new (w.alloc (.cells #[.int .i64 c.t, .int .i64 c.r, .int .i64 c.b, .int .i64 c.o, .int .i64 c.g] 23)) K.zero 23
    rw [show (w.alloc (.cells #[.int .i64 c.t, .int .i64 c.r, .int .i64 c.b, .int .i64 c.o, .int .i64 c.g] 23)).heap.size = w.heap.size + 1 by simp] at h
    exact h
  have HB0 : Hid (Below w.heap.size w ((w.alloc (.cells #[.int .i64 c.t, .int .i64 c.r, .int .i64 c.b, .int .i64 c.o, .int .i64 c.g] 23)).alloc (.cells #[.int .i64 0, .int .i64 0, .int .i64 0, .int .i64 0, .int .i64 0] 23))) := q_alloc (q_alloc (Below.refl _ _) _) _
  clear hT
  cases hs : someB c with
  | false =>
    have HR : Hid (drvE c r b = 30 ∧ drvC c r b = K.zero) := drv_some hs
    go_enter Tryd.func5, Tryd.ntmps5
    go_wp2_with fail
    refine (isSome_any c _ (HT.out.below HB0.out)).mono ?_
    rintro e w1 ⟨rfl, b1⟩
    have HB1 : Hid (Below w.heap.size w w1) := q_trans HB0.out b1
    obtain ⟨⟨z0, z1, z2, z3, z4⟩, g0, g1, g2, g3, g4⟩ := HO.out.below b1
    clear b1
    go_wp2_with fail
    refine bodyPost_ret (v := .tuple #[.agg #[.int .i64 0, .int .i64 0, .int .i64 0, .int .i64 0, .int .i64 0], .int .i64 30]) (by simp [results, Tryd.results5, go_sem, *]) rfl ⟨by rw [HR.out.1, HR.out.2]; rfl, ?_⟩
    exact q_set (q_set (q_set (q_set (q_set HB1.out (Nat.le_succ _) _) (Nat.le_succ _) _) (Nat.le_succ _) _) (Nat.le_succ _) _) (Nat.le_succ _) _
  | true =>
    cases hw : Rt.wiB r c.r with
    | false =>
      have HR : Hid (drvE c r b = 20 ∧ drvC c r b = K.zero) := drv_rights hs hw
      go_enter Tryd.func5, Tryd.ntmps5
      go_wp2_with fail
      refine (isSome_any c _ (HT.out.below HB0.out)).mono ?_
      rintro e w1 ⟨rfl, b1⟩
      have HB1 : Hid (Below w.heap.size w w1) := q_trans HB0.out b1
      have HO1 : Hid (Own w1 (w.heap.size + 1) K.zero) := HO.out.below b1
      obtain ⟨c0, c1, c2, c3, c4⟩ := HI.out.below b1
      clear b1
      go_wp2_with fail
      refine (within_c r c _).mono ?_
      rintro e w2 ⟨rfl, b2⟩
      have HB2 : Hid (Below w.heap.size w w2) := q_trans HB1.out b2
      obtain ⟨⟨z0, z1, z2, z3, z4⟩, g0, g1, g2, g3, g4⟩ := HO1.out.below b2
      clear b2 c0 c1 c2 c3 c4
      go_wp2_with fail
      refine bodyPost_ret (v := .tuple #[.agg #[.int .i64 0, .int .i64 0, .int .i64 0, .int .i64 0, .int .i64 0], .int .i64 20]) (by simp [results, Tryd.results5, go_sem, *]) rfl ⟨by rw [HR.out.1, HR.out.2]; rfl, ?_⟩
      exact q_set (q_set (q_set (q_set (q_set HB2.out (Nat.le_succ _) _) (Nat.le_succ _) _) (Nat.le_succ _) _) (Nat.le_succ _) _) (Nat.le_succ _) _
    | true =>
      go_enter Tryd.func5, Tryd.ntmps5
      go_wp2_with fail
      refine (isSome_any c _ (HT.out.below HB0.out)).mono ?_
      rintro e w1 ⟨rfl, b1⟩
      have HB1 : Hid (Below w.heap.size w w1) := q_trans HB0.out b1
      have HO1 : Hid (Own w1 (w.heap.size + 1) K.zero) := HO.out.below b1
      have HI1 : Hid (In w1 w.heap.size c) := HI.out.below b1
      obtain ⟨c0, c1, c2, c3, c4⟩ := HI1.out
      clear b1
      go_wp2_with fail
      refine (within_c r c _).mono ?_
      rintro e w2 ⟨rfl, b2⟩
      have HB2 : Hid (Below w.heap.size w w2) := q_trans HB1.out b2
      have HO2 : Hid (Own w2 (w.heap.size + 1) K.zero) := HO1.out.below b2
      have HI2 : Hid (In w2 w.heap.size c) := HI1.out.below b2
      clear b2 c0 c1 c2 c3 c4
      obtain ⟨c0, c1, c2, c3, c4⟩ := HI2.out
      have hl2 := HO2.out.held.lt
      have hl1 := HI2.out.lt
      by_cases hb0 : b = 0
      · subst hb0
        have HR : Hid (drvE c r 0 = 0 ∧ drvC c r 0 = ⟨c.t, r, c.b, c.o, c.g⟩) := drv_zero hs hw
        obtain ⟨⟨z0, z1, z2, z3, z4⟩, g0, g1, g2, g3, g4⟩ := HO2.out
        go_wp2_with fail
        refine bodyPost_ret (v := .tuple #[.agg #[.int .i64 c.t, .int .i64 r, .int .i64 c.b, .int .i64 c.o, .int .i64 c.g], .int .i64 0]) (by simp [results, Tryd.results5, go_sem, *]) rfl ⟨by rw [HR.out.1, HR.out.2], ?_⟩
        exact q_alloc (q_set (q_set (q_set (q_set (q_set HB2.out (Nat.le_succ _) _) (Nat.le_succ _) _) (Nat.le_succ _) _) (Nat.le_succ _) _) (Nat.le_succ _) _) _
      · have HD : Hid (Own (w2.alloc (.cells #[.int .i64 c.t, .int .i64 r, .int .i64 c.b, .int .i64 c.o, .int .i64 c.g] 23)) w2.heap.size ⟨c.t, r, c.b, c.o, c.g⟩) := own_new w2 ⟨c.t, r, c.b, c.o, c.g⟩ 23
        go_wp2_with fail
        refine (takes_any c _).mono ?_
        rintro e w3 ⟨rfl, b3⟩
        have HB3 : Hid (Below w.heap.size w w3) := q_trans (q_alloc HB2.out _) b3
        obtain ⟨⟨z0, z1, z2, z3, z4⟩, g0, g1, g2, g3, g4⟩ := (HO2.out.alloc _).below b3
        obtain ⟨⟨y0, y1, y2, y3, y4⟩, x0, x1, x2, x3, x4⟩ := HD.out.below b3
        clear b3 c0 c1 c2 c3 c4
        cases ht : takesB c with
        | false =>
          have HR : Hid (drvE c r b = 2 ∧ drvC c r b = K.zero) := drv_arg hs hw hb0 (by simp [badB, ht])
          go_wp2_with fail
          refine bodyPost_ret (v := .tuple #[.agg #[.int .i64 0, .int .i64 0, .int .i64 0, .int .i64 0, .int .i64 0], .int .i64 2]) (by simp [results, Tryd.results5, go_sem, *]) rfl ⟨by rw [HR.out.1, HR.out.2]; rfl, ?_⟩
          exact q_set (q_set (q_set (q_set (q_set HB3.out (Nat.le_succ _) _) (Nat.le_succ _) _) (Nat.le_succ _) _) (Nat.le_succ _) _) (Nat.le_succ _) _
        | true =>
          by_cases h1 : b < 1
          · have h1' : ¬ 1 ≤ b := by omega
            have HR : Hid (drvE c r b = 2 ∧ drvC c r b = K.zero) := drv_arg hs hw hb0 (by simp [badB, ht, h1'])
            go_wp2_with fail
            refine bodyPost_ret (v := .tuple #[.agg #[.int .i64 0, .int .i64 0, .int .i64 0, .int .i64 0, .int .i64 0], .int .i64 2]) (by simp [results, Tryd.results5, go_sem, *]) rfl ⟨by rw [HR.out.1, HR.out.2]; rfl, ?_⟩
            exact q_set (q_set (q_set (q_set (q_set HB3.out (Nat.le_succ _) _) (Nat.le_succ _) _) (Nat.le_succ _) _) (Nat.le_succ _) _) (Nat.le_succ _) _
          · by_cases h2 : 65535 < b
            · have h2' : ¬ b ≤ 65535 := by omega
              have HR : Hid (drvE c r b = 2 ∧ drvC c r b = K.zero) := drv_arg hs hw hb0 (by simp [badB, ht, h2'])
              go_wp2_with fail
              refine bodyPost_ret (v := .tuple #[.agg #[.int .i64 0, .int .i64 0, .int .i64 0, .int .i64 0, .int .i64 0], .int .i64 2]) (by simp [results, Tryd.results5, go_sem, *]) rfl ⟨by rw [HR.out.1, HR.out.2]; rfl, ?_⟩
              exact q_set (q_set (q_set (q_set (q_set HB3.out (Nat.le_succ _) _) (Nat.le_succ _) _) (Nat.le_succ _) _) (Nat.le_succ _) _) (Nat.le_succ _) _
            · have HR : Hid (drvE c r b = 0 ∧ drvC c r b = ⟨c.t, r, b, c.o, c.g⟩) := drv_badge hs hw hb0 (by simp [badB, ht]; omega)
              go_wp2_with fail
              refine bodyPost_ret (v := .tuple #[.agg #[.int .i64 c.t, .int .i64 r, .int .i64 b, .int .i64 c.o, .int .i64 c.g], .int .i64 0]) (by simp [results, Tryd.results5, go_sem, *]) rfl ⟨by rw [HR.out.1, HR.out.2], ?_⟩
              exact q_set (q_set (q_set (q_set (q_set (q_set HB3.out HB2.out.size _) (Nat.le_succ _) _) (Nat.le_succ _) _) (Nat.le_succ _) _) (Nat.le_succ _) _) (Nat.le_succ _) _
end Go.Proofs.YtgjkocbfpcgccabDoor.Cp
