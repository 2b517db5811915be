/- CarveOrder answers true. -/
import Derived.Test.YteohoipkdjhllaaCaTells
namespace Go.Proofs.Yteohoipkdjhllaa.Ca
open Go.RowKit

theorem bx_three (w : World) (a b c : X) (t : TypeId) : AtX (((w.alloc (.cells #[.int .i64 a.1, .int .i64 a.2] t)).alloc (.cells #[.int .i64 b.1, .int .i64 b.2] t)).alloc (.cells #[.int .i64 c.1, .int .i64 c.2] t)) ⟨w.heap.size, 0, none⟩ a ∧ AtX (((w.alloc (.cells #[.int .i64 a.1, .int .i64 a.2] t)).alloc (.cells #[.int .i64 b.1, .int .i64 b.2] t)).alloc (.cells #[.int .i64 c.1, .int .i64 c.2] t)) ⟨w.heap.size + 1, 0, none⟩ b ∧ AtX (((w.alloc (.cells #[.int .i64 a.1, .int .i64 a.2] t)).alloc (.cells #[.int .i64 b.1, .int .i64 b.2] t)).alloc (.cells #[.int .i64 c.1, .int .i64 c.2] t)) ⟨w.heap.size + 2, 0, none⟩ c := by
  obtain ⟨h1, h2⟩ := at_two w a b t
  refine ⟨h1.below (alloc_below _ _), h2.below (alloc_below _ _), ?_⟩
  have := at_new ((w.alloc (.cells #[.int .i64 a.1, .int .i64 a.2] t)).alloc (.cells #[.int .i64 b.1, .int .i64 b.2] t)) c t
  simpa using this
theorem in_me {a b : X} (h : inB a b = true) : meB a b = true := by
  obtain ⟨h1, h2, h3, h4⟩ := in_iff.1 h
  have := ok_iff.1 h1
  have := ok_iff.1 h2
  exact me_iff.2 ⟨h1, h2, by omega, by omega⟩
theorem in_tr {a b c : X} (h : inB a b = true) (k : inB b c = true) : inB a c = true := by
  obtain ⟨h1, h2, h3, h4⟩ := in_iff.1 h
  obtain ⟨k1, k2, k3, k4⟩ := in_iff.1 k
  exact in_iff.2 ⟨h1, k2, by omega, by omega⟩
theorem in_me2 {a b c : X} (h : inB a b = true) (k : meB a c = true) : meB b c = true := by
  obtain ⟨h1, h2, h3, h4⟩ := in_iff.1 h
  obtain ⟨k1, k2, k3, k4⟩ := me_iff.1 k
  exact me_iff.2 ⟨h2, k2, by omega, by omega⟩
theorem in_eq {a b : X} (h : inB a b = true) (k : inB b a = true) : a = b := by
  obtain ⟨h1, h2, h3, h4⟩ := in_iff.1 h
  obtain ⟨k1, k2, k3, k4⟩ := in_iff.1 k
  apply Prod.ext <;> omega
theorem in_self (a : X) : inB a a = okX a := by
  rw [Bool.eq_iff_iff, in_iff]
  constructor
  · exact fun h => h.1
  · exact fun h => ⟨h, h, Int.le_refl _, Int.le_refl _⟩
/-- Three extents in their boxes. -/
structure T3 (w W : World) (a b c : X) : Prop where
  low : Below w.heap.size w W
  a : AtX W ⟨w.heap.size, 0, none⟩ a
  b : AtX W ⟨w.heap.size + 1, 0, none⟩ b
  c : AtX W ⟨w.heap.size + 2, 0, none⟩ c
theorem t3_start (w : World) (a b c : X) (t : TypeId) : T3 w (((w.alloc (.cells #[.int .i64 a.1, .int .i64 a.2] t)).alloc (.cells #[.int .i64 b.1, .int .i64 b.2] t)).alloc (.cells #[.int .i64 c.1, .int .i64 c.2] t)) a b c :=
  ⟨q_alloc (q_alloc (alloc_below _ _) _) _, (bx_three w a b c t).1, (bx_three w a b c t).2.1, (bx_three w a b c t).2.2⟩
theorem T3.below {w W W' : World} {a b c : X} (h : T3 w W a b c) (k : Below W.heap.size W W') : T3 w W' a b c := ⟨q_trans h.low k, h.a.below k, h.b.below k, h.c.below k⟩
section
variable {w : World}
theorem ins_call {a b : X} {r : Bool} {g : Later w} (h : inB a b = r) : Calls Try.prog 16 #[(.agg #[.int .i64 a.1, .int .i64 a.2]), (.agg #[.int .i64 b.1, .int .i64 b.2])] g.now fun e w'' => e = .returned (.bool r) ∧ ∃ g' : Later w, w'' = g'.now := later_call (is_inside h)
theorem met_call {a b : X} {r : Bool} {g : Later w} (h : meB a b = r) : Calls Try.prog 18 #[(.agg #[.int .i64 a.1, .int .i64 a.2]), (.agg #[.int .i64 b.1, .int .i64 b.2])] g.now fun e w'' => e = .returned (.bool r) ∧ ∃ g' : Later w, w'' = g'.now := later_call (is_meet h)
theorem bne_self (m : Bool) : (m != m) = false := by cases m <;> rfl
end
set_option maxRecDepth 100000 in
set_option maxHeartbeats 8000000 in
/-- CarveOrder ANSWERS true. -/
theorem order_any (a b c : X) (w : World) :
    Calls Try.prog 7 #[(.agg #[.int .i64 a.1, .int .i64 a.2]), (.agg #[.int .i64 b.1, .int .i64 b.2]), (.agg #[.int .i64 c.1, .int .i64 c.2])] w fun e w' => e = .returned (.bool true) ∧ Below w.heap.size w w' := by
  obtain ⟨m, hm⟩ : ∃ m, meB a b = m := ⟨_, rfl⟩
  have hm2 : meB b a = m := by rw [me_comm]; exact hm
  have M1 := hid hm
  have M2 := hid hm2
  clear hm hm2
  cases hi : inB a b with
  | false =>
    have I1 := hid hi
    clear hi
    have em := bne_self m
    cases ho : okX a with
    | true =>
      have I2 := hid ((in_self a).trans ho)
      have HC := hid (chk_yes ho)
      clear ho
      go_enter Try.func7, Try.ntmps7
      go_wp2_with fail
      have HT := hid (t3_start w a b c 23)
      generalize (((w.alloc (.cells #[.int .i64 a.1, .int .i64 a.2] 23)).alloc (.cells #[.int .i64 b.1, .int .i64 b.2] 23)).alloc (.cells #[.int .i64 c.1, .int .i64 c.2] 23)) = W at HT ⊢
      obtain ⟨f0, f1⟩ := HT.out.a.always
      obtain ⟨f2, f3⟩ := HT.out.b.always
      obtain ⟨f4, f5⟩ := HT.out.c.always
      have hne : Nonempty (Later W) := ⟨⟨W, Below.refl _ _⟩⟩
      refine wp_region_later (by kernel_rfl) (by kernel_rfl) ?_
      repeat (go_big_quiet_step (first | (go_at_call 16; exact ins_call (by first | with_reducible exact I1.out | with_reducible exact I2.out)) | (go_at_call 18; exact met_call (by first | with_reducible exact M1.out | with_reducible exact M2.out)) | (go_at_call 11; exact later_num _) | (go_at_call 12; exact later_call (is_check HC.out)) | (go_at_call 20; exact later_live)))
      refine wpQuiet_nil ?_
      rintro w1 ⟨⟨_, b1⟩, rfl⟩
      replace HT := hid (HT.out.below b1)
      clear f0 f1 f2 f3 f4 f5 hne b1
      obtain ⟨f0, f1⟩ := HT.out.a
      obtain ⟨f2, f3⟩ := HT.out.b
      obtain ⟨f4, f5⟩ := HT.out.c
      go_wp2_with (first | (go_at_call 16; refine (is_inside (by first | with_reducible exact I1.out | with_reducible exact I2.out)).mono ?_; rintro e w2 ⟨rfl, b2⟩; replace HT := hid (HT.out.below b2); clear b2 f0 f1 f2 f3 f4 f5; obtain ⟨f0, f1⟩ := HT.out.a; obtain ⟨f2, f3⟩ := HT.out.b; obtain ⟨f4, f5⟩ := HT.out.c) | (go_at_call 18; refine (is_meet (by first | with_reducible exact M1.out | with_reducible exact M2.out)).mono ?_; rintro e w2 ⟨rfl, b2⟩; replace HT := hid (HT.out.below b2); clear b2 f0 f1 f2 f3 f4 f5; obtain ⟨f0, f1⟩ := HT.out.a; obtain ⟨f2, f3⟩ := HT.out.b; obtain ⟨f4, f5⟩ := HT.out.c))
      clear f0 f1 f2 f3 f4 f5
      obtain ⟨f0, f1⟩ := HT.out.a.always
      obtain ⟨f2, f3⟩ := HT.out.b.always
      obtain ⟨f4, f5⟩ := HT.out.c.always
      have hne : Nonempty (Later w2) := ⟨⟨w2, Below.refl _ _⟩⟩
      refine wp_region_later (by kernel_rfl) (by kernel_rfl) ?_
      repeat (go_big_quiet_step (first | (go_at_call 16; exact ins_call (by first | with_reducible exact I1.out | with_reducible exact I2.out)) | (go_at_call 18; exact met_call (by first | with_reducible exact M1.out | with_reducible exact M2.out)) | (go_at_call 11; exact later_num _) | (go_at_call 12; exact later_call (is_check HC.out)) | (go_at_call 20; exact later_live)))
      refine wpQuiet_nil ?_
      rintro w9 ⟨⟨_, b9⟩, rfl⟩
      go_wp2_with fail
      go_ret
      exact ⟨rfl, q_trans HT.out.low b9⟩
    | false =>
      have I2 := hid ((in_self a).trans ho)
      have HC := hid (chk_no ho)
      clear ho
      go_enter Try.func7, Try.ntmps7
      go_wp2_with fail
      have HT := hid (t3_start w a b c 23)
      generalize (((w.alloc (.cells #[.int .i64 a.1, .int .i64 a.2] 23)).alloc (.cells #[.int .i64 b.1, .int .i64 b.2] 23)).alloc (.cells #[.int .i64 c.1, .int .i64 c.2] 23)) = W at HT ⊢
      obtain ⟨f0, f1⟩ := HT.out.a.always
      obtain ⟨f2, f3⟩ := HT.out.b.always
      obtain ⟨f4, f5⟩ := HT.out.c.always
      have hne : Nonempty (Later W) := ⟨⟨W, Below.refl _ _⟩⟩
      refine wp_region_later (by kernel_rfl) (by kernel_rfl) ?_
      repeat (go_big_quiet_step (first | (go_at_call 16; exact ins_call (by first | with_reducible exact I1.out | with_reducible exact I2.out)) | (go_at_call 18; exact met_call (by first | with_reducible exact M1.out | with_reducible exact M2.out)) | (go_at_call 11; exact later_num _) | (go_at_call 12; exact later_call (is_check HC.out)) | (go_at_call 20; exact later_live)))
      refine wpQuiet_nil ?_
      rintro w1 ⟨⟨_, b1⟩, rfl⟩
      replace HT := hid (HT.out.below b1)
      clear f0 f1 f2 f3 f4 f5 hne b1
      obtain ⟨f0, f1⟩ := HT.out.a
      obtain ⟨f2, f3⟩ := HT.out.b
      obtain ⟨f4, f5⟩ := HT.out.c
      go_wp2_with (first | (go_at_call 16; refine (is_inside (by first | with_reducible exact I1.out | with_reducible exact I2.out)).mono ?_; rintro e w2 ⟨rfl, b2⟩; replace HT := hid (HT.out.below b2); clear b2 f0 f1 f2 f3 f4 f5; obtain ⟨f0, f1⟩ := HT.out.a; obtain ⟨f2, f3⟩ := HT.out.b; obtain ⟨f4, f5⟩ := HT.out.c) | (go_at_call 18; refine (is_meet (by first | with_reducible exact M1.out | with_reducible exact M2.out)).mono ?_; rintro e w2 ⟨rfl, b2⟩; replace HT := hid (HT.out.below b2); clear b2 f0 f1 f2 f3 f4 f5; obtain ⟨f0, f1⟩ := HT.out.a; obtain ⟨f2, f3⟩ := HT.out.b; obtain ⟨f4, f5⟩ := HT.out.c))
      clear f0 f1 f2 f3 f4 f5
      obtain ⟨f0, f1⟩ := HT.out.a.always
      obtain ⟨f2, f3⟩ := HT.out.b.always
      obtain ⟨f4, f5⟩ := HT.out.c.always
      have hne : Nonempty (Later w2) := ⟨⟨w2, Below.refl _ _⟩⟩
      refine wp_region_later (by kernel_rfl) (by kernel_rfl) ?_
      repeat (go_big_quiet_step (first | (go_at_call 16; exact ins_call (by first | with_reducible exact I1.out | with_reducible exact I2.out)) | (go_at_call 18; exact met_call (by first | with_reducible exact M1.out | with_reducible exact M2.out)) | (go_at_call 11; exact later_num _) | (go_at_call 12; exact later_call (is_check HC.out)) | (go_at_call 20; exact later_live)))
      refine wpQuiet_nil ?_
      rintro w9 ⟨⟨_, b9⟩, rfl⟩
      go_wp2_with fail
      go_ret
      exact ⟨rfl, q_trans HT.out.low b9⟩
  | true =>
    have hmt : m = true := by have := in_me hi; rw [M1.out] at this; exact this
    subst hmt
    have ho : okX a = true := (in_iff.1 hi).1
    have I2 := hid ((in_self a).trans ho)
    have HC := hid (chk_yes ho)
    have I1 := hid hi
    clear ho
    cases hbc : inB b c with
    | true =>
      have I3 := hid hbc
      have I4 := hid (in_tr hi hbc)
      cases hac : meB a c with
      | true =>
        have M3 := hid hac
        have M4 := hid (in_me2 hi hac)
        cases hba : inB b a with
        | true =>
          have I5 := hid hba
          have he := eq_yes (in_eq hi hba)
          clear hi hbc hac hba
          go_enter Try.func7, Try.ntmps7
          go_wp2_with fail
          have HT := hid (t3_start w a b c 23)
          generalize (((w.alloc (.cells #[.int .i64 a.1, .int .i64 a.2] 23)).alloc (.cells #[.int .i64 b.1, .int .i64 b.2] 23)).alloc (.cells #[.int .i64 c.1, .int .i64 c.2] 23)) = W at HT ⊢
          obtain ⟨f0, f1⟩ := HT.out.a.always
          obtain ⟨f2, f3⟩ := HT.out.b.always
          obtain ⟨f4, f5⟩ := HT.out.c.always
          have hne : Nonempty (Later W) := ⟨⟨W, Below.refl _ _⟩⟩
          refine wp_region_later (by kernel_rfl) (by kernel_rfl) ?_
          repeat (go_big_quiet_step (first | (go_at_call 16; exact ins_call (by first | with_reducible exact I1.out | with_reducible exact I2.out | with_reducible exact I3.out | with_reducible exact I5.out | with_reducible exact I4.out)) | (go_at_call 18; exact met_call (by first | with_reducible exact M1.out | with_reducible exact M2.out | with_reducible exact M3.out | with_reducible exact M4.out)) | (go_at_call 11; exact later_num _) | (go_at_call 12; exact later_call (is_check HC.out)) | (go_at_call 20; exact later_live)))
          refine wpQuiet_nil ?_
          rintro w1 ⟨⟨_, b1⟩, rfl⟩
          replace HT := hid (HT.out.below b1)
          clear f0 f1 f2 f3 f4 f5 hne b1
          obtain ⟨f0, f1⟩ := HT.out.a
          obtain ⟨f2, f3⟩ := HT.out.b
          obtain ⟨f4, f5⟩ := HT.out.c
          go_wp2_with (first | (go_at_call 16; refine (is_inside (by first | with_reducible exact I1.out | with_reducible exact I2.out | with_reducible exact I3.out | with_reducible exact I5.out | with_reducible exact I4.out)).mono ?_; rintro e w2 ⟨rfl, b2⟩; replace HT := hid (HT.out.below b2); clear b2 f0 f1 f2 f3 f4 f5; obtain ⟨f0, f1⟩ := HT.out.a; obtain ⟨f2, f3⟩ := HT.out.b; obtain ⟨f4, f5⟩ := HT.out.c) | (go_at_call 18; refine (is_meet (by first | with_reducible exact M1.out | with_reducible exact M2.out | with_reducible exact M3.out | with_reducible exact M4.out)).mono ?_; rintro e w2 ⟨rfl, b2⟩; replace HT := hid (HT.out.below b2); clear b2 f0 f1 f2 f3 f4 f5; obtain ⟨f0, f1⟩ := HT.out.a; obtain ⟨f2, f3⟩ := HT.out.b; obtain ⟨f4, f5⟩ := HT.out.c))
          clear f0 f1 f2 f3 f4 f5
          obtain ⟨f0, f1⟩ := HT.out.a.always
          obtain ⟨f2, f3⟩ := HT.out.b.always
          obtain ⟨f4, f5⟩ := HT.out.c.always
          have hne : Nonempty (Later w2) := ⟨⟨w2, Below.refl _ _⟩⟩
          refine wp_region_later (by kernel_rfl) (by kernel_rfl) ?_
          repeat (go_big_quiet_step (first | (go_at_call 16; exact ins_call (by first | with_reducible exact I1.out | with_reducible exact I2.out | with_reducible exact I3.out | with_reducible exact I5.out | with_reducible exact I4.out)) | (go_at_call 18; exact met_call (by first | with_reducible exact M1.out | with_reducible exact M2.out | with_reducible exact M3.out | with_reducible exact M4.out)) | (go_at_call 11; exact later_num _) | (go_at_call 12; exact later_call (is_check HC.out)) | (go_at_call 20; exact later_live)))
          refine wpQuiet_nil ?_
          rintro w9 ⟨⟨_, b9⟩, rfl⟩
          go_wp2_with fail
          go_ret
          exact ⟨rfl, q_trans HT.out.low b9⟩
        | false =>
          have I5 := hid hba
          clear hi hbc hac hba
          go_enter Try.func7, Try.ntmps7
          go_wp2_with fail
          have HT := hid (t3_start w a b c 23)
          generalize (((w.alloc (.cells #[.int .i64 a.1, .int .i64 a.2] 23)).alloc (.cells #[.int .i64 b.1, .int .i64 b.2] 23)).alloc (.cells #[.int .i64 c.1, .int .i64 c.2] 23)) = W at HT ⊢
          obtain ⟨f0, f1⟩ := HT.out.a.always
          obtain ⟨f2, f3⟩ := HT.out.b.always
          obtain ⟨f4, f5⟩ := HT.out.c.always
          have hne : Nonempty (Later W) := ⟨⟨W, Below.refl _ _⟩⟩
          refine wp_region_later (by kernel_rfl) (by kernel_rfl) ?_
          repeat (go_big_quiet_step (first | (go_at_call 16; exact ins_call (by first | with_reducible exact I1.out | with_reducible exact I2.out | with_reducible exact I3.out | with_reducible exact I5.out | with_reducible exact I4.out)) | (go_at_call 18; exact met_call (by first | with_reducible exact M1.out | with_reducible exact M2.out | with_reducible exact M3.out | with_reducible exact M4.out)) | (go_at_call 11; exact later_num _) | (go_at_call 12; exact later_call (is_check HC.out)) | (go_at_call 20; exact later_live)))
          refine wpQuiet_nil ?_
          rintro w1 ⟨⟨_, b1⟩, rfl⟩
          replace HT := hid (HT.out.below b1)
          clear f0 f1 f2 f3 f4 f5 hne b1
          obtain ⟨f0, f1⟩ := HT.out.a
          obtain ⟨f2, f3⟩ := HT.out.b
          obtain ⟨f4, f5⟩ := HT.out.c
          go_wp2_with (first | (go_at_call 16; refine (is_inside (by first | with_reducible exact I1.out | with_reducible exact I2.out | with_reducible exact I3.out | with_reducible exact I5.out | with_reducible exact I4.out)).mono ?_; rintro e w2 ⟨rfl, b2⟩; replace HT := hid (HT.out.below b2); clear b2 f0 f1 f2 f3 f4 f5; obtain ⟨f0, f1⟩ := HT.out.a; obtain ⟨f2, f3⟩ := HT.out.b; obtain ⟨f4, f5⟩ := HT.out.c) | (go_at_call 18; refine (is_meet (by first | with_reducible exact M1.out | with_reducible exact M2.out | with_reducible exact M3.out | with_reducible exact M4.out)).mono ?_; rintro e w2 ⟨rfl, b2⟩; replace HT := hid (HT.out.below b2); clear b2 f0 f1 f2 f3 f4 f5; obtain ⟨f0, f1⟩ := HT.out.a; obtain ⟨f2, f3⟩ := HT.out.b; obtain ⟨f4, f5⟩ := HT.out.c))
          clear f0 f1 f2 f3 f4 f5
          obtain ⟨f0, f1⟩ := HT.out.a.always
          obtain ⟨f2, f3⟩ := HT.out.b.always
          obtain ⟨f4, f5⟩ := HT.out.c.always
          have hne : Nonempty (Later w2) := ⟨⟨w2, Below.refl _ _⟩⟩
          refine wp_region_later (by kernel_rfl) (by kernel_rfl) ?_
          repeat (go_big_quiet_step (first | (go_at_call 16; exact ins_call (by first | with_reducible exact I1.out | with_reducible exact I2.out | with_reducible exact I3.out | with_reducible exact I5.out | with_reducible exact I4.out)) | (go_at_call 18; exact met_call (by first | with_reducible exact M1.out | with_reducible exact M2.out | with_reducible exact M3.out | with_reducible exact M4.out)) | (go_at_call 11; exact later_num _) | (go_at_call 12; exact later_call (is_check HC.out)) | (go_at_call 20; exact later_live)))
          refine wpQuiet_nil ?_
          rintro w9 ⟨⟨_, b9⟩, rfl⟩
          go_wp2_with fail
          go_ret
          exact ⟨rfl, q_trans HT.out.low b9⟩
      | false =>
        have M3 := hid hac
        cases hba : inB b a with
        | true =>
          have I5 := hid hba
          have he := eq_yes (in_eq hi hba)
          clear hi hbc hac hba
          go_enter Try.func7, Try.ntmps7
          go_wp2_with fail
          have HT := hid (t3_start w a b c 23)
          generalize (((w.alloc (.cells #[.int .i64 a.1, .int .i64 a.2] 23)).alloc (.cells #[.int .i64 b.1, .int .i64 b.2] 23)).alloc (.cells #[.int .i64 c.1, .int .i64 c.2] 23)) = W at HT ⊢
          obtain ⟨f0, f1⟩ := HT.out.a.always
          obtain ⟨f2, f3⟩ := HT.out.b.always
          obtain ⟨f4, f5⟩ := HT.out.c.always
          have hne : Nonempty (Later W) := ⟨⟨W, Below.refl _ _⟩⟩
          refine wp_region_later (by kernel_rfl) (by kernel_rfl) ?_
          repeat (go_big_quiet_step (first | (go_at_call 16; exact ins_call (by first | with_reducible exact I1.out | with_reducible exact I2.out | with_reducible exact I3.out | with_reducible exact I5.out | with_reducible exact I4.out)) | (go_at_call 18; exact met_call (by first | with_reducible exact M1.out | with_reducible exact M2.out | with_reducible exact M3.out)) | (go_at_call 11; exact later_num _) | (go_at_call 12; exact later_call (is_check HC.out)) | (go_at_call 20; exact later_live)))
          refine wpQuiet_nil ?_
          rintro w1 ⟨⟨_, b1⟩, rfl⟩
          replace HT := hid (HT.out.below b1)
          clear f0 f1 f2 f3 f4 f5 hne b1
          obtain ⟨f0, f1⟩ := HT.out.a
          obtain ⟨f2, f3⟩ := HT.out.b
          obtain ⟨f4, f5⟩ := HT.out.c
          go_wp2_with (first | (go_at_call 16; refine (is_inside (by first | with_reducible exact I1.out | with_reducible exact I2.out | with_reducible exact I3.out | with_reducible exact I5.out | with_reducible exact I4.out)).mono ?_; rintro e w2 ⟨rfl, b2⟩; replace HT := hid (HT.out.below b2); clear b2 f0 f1 f2 f3 f4 f5; obtain ⟨f0, f1⟩ := HT.out.a; obtain ⟨f2, f3⟩ := HT.out.b; obtain ⟨f4, f5⟩ := HT.out.c) | (go_at_call 18; refine (is_meet (by first | with_reducible exact M1.out | with_reducible exact M2.out | with_reducible exact M3.out)).mono ?_; rintro e w2 ⟨rfl, b2⟩; replace HT := hid (HT.out.below b2); clear b2 f0 f1 f2 f3 f4 f5; obtain ⟨f0, f1⟩ := HT.out.a; obtain ⟨f2, f3⟩ := HT.out.b; obtain ⟨f4, f5⟩ := HT.out.c))
          clear f0 f1 f2 f3 f4 f5
          obtain ⟨f0, f1⟩ := HT.out.a.always
          obtain ⟨f2, f3⟩ := HT.out.b.always
          obtain ⟨f4, f5⟩ := HT.out.c.always
          have hne : Nonempty (Later w2) := ⟨⟨w2, Below.refl _ _⟩⟩
          refine wp_region_later (by kernel_rfl) (by kernel_rfl) ?_
          repeat (go_big_quiet_step (first | (go_at_call 16; exact ins_call (by first | with_reducible exact I1.out | with_reducible exact I2.out | with_reducible exact I3.out | with_reducible exact I5.out | with_reducible exact I4.out)) | (go_at_call 18; exact met_call (by first | with_reducible exact M1.out | with_reducible exact M2.out | with_reducible exact M3.out)) | (go_at_call 11; exact later_num _) | (go_at_call 12; exact later_call (is_check HC.out)) | (go_at_call 20; exact later_live)))
          refine wpQuiet_nil ?_
          rintro w9 ⟨⟨_, b9⟩, rfl⟩
          go_wp2_with fail
          go_ret
          exact ⟨rfl, q_trans HT.out.low b9⟩
        | false =>
          have I5 := hid hba
          clear hi hbc hac hba
          go_enter Try.func7, Try.ntmps7
          go_wp2_with fail
          have HT := hid (t3_start w a b c 23)
          generalize (((w.alloc (.cells #[.int .i64 a.1, .int .i64 a.2] 23)).alloc (.cells #[.int .i64 b.1, .int .i64 b.2] 23)).alloc (.cells #[.int .i64 c.1, .int .i64 c.2] 23)) = W at HT ⊢
          obtain ⟨f0, f1⟩ := HT.out.a.always
          obtain ⟨f2, f3⟩ := HT.out.b.always
          obtain ⟨f4, f5⟩ := HT.out.c.always
          have hne : Nonempty (Later W) := ⟨⟨W, Below.refl _ _⟩⟩
          refine wp_region_later (by kernel_rfl) (by kernel_rfl) ?_
          repeat (go_big_quiet_step (first | (go_at_call 16; exact ins_call (by first | with_reducible exact I1.out | with_reducible exact I2.out | with_reducible exact I3.out | with_reducible exact I5.out | with_reducible exact I4.out)) | (go_at_call 18; exact met_call (by first | with_reducible exact M1.out | with_reducible exact M2.out | with_reducible exact M3.out)) | (go_at_call 11; exact later_num _) | (go_at_call 12; exact later_call (is_check HC.out)) | (go_at_call 20; exact later_live)))
          refine wpQuiet_nil ?_
          rintro w1 ⟨⟨_, b1⟩, rfl⟩
          replace HT := hid (HT.out.below b1)
          clear f0 f1 f2 f3 f4 f5 hne b1
          obtain ⟨f0, f1⟩ := HT.out.a
          obtain ⟨f2, f3⟩ := HT.out.b
          obtain ⟨f4, f5⟩ := HT.out.c
          go_wp2_with (first | (go_at_call 16; refine (is_inside (by first | with_reducible exact I1.out | with_reducible exact I2.out | with_reducible exact I3.out | with_reducible exact I5.out | with_reducible exact I4.out)).mono ?_; rintro e w2 ⟨rfl, b2⟩; replace HT := hid (HT.out.below b2); clear b2 f0 f1 f2 f3 f4 f5; obtain ⟨f0, f1⟩ := HT.out.a; obtain ⟨f2, f3⟩ := HT.out.b; obtain ⟨f4, f5⟩ := HT.out.c) | (go_at_call 18; refine (is_meet (by first | with_reducible exact M1.out | with_reducible exact M2.out | with_reducible exact M3.out)).mono ?_; rintro e w2 ⟨rfl, b2⟩; replace HT := hid (HT.out.below b2); clear b2 f0 f1 f2 f3 f4 f5; obtain ⟨f0, f1⟩ := HT.out.a; obtain ⟨f2, f3⟩ := HT.out.b; obtain ⟨f4, f5⟩ := HT.out.c))
          clear f0 f1 f2 f3 f4 f5
          obtain ⟨f0, f1⟩ := HT.out.a.always
          obtain ⟨f2, f3⟩ := HT.out.b.always
          obtain ⟨f4, f5⟩ := HT.out.c.always
          have hne : Nonempty (Later w2) := ⟨⟨w2, Below.refl _ _⟩⟩
          refine wp_region_later (by kernel_rfl) (by kernel_rfl) ?_
          repeat (go_big_quiet_step (first | (go_at_call 16; exact ins_call (by first | with_reducible exact I1.out | with_reducible exact I2.out | with_reducible exact I3.out | with_reducible exact I5.out | with_reducible exact I4.out)) | (go_at_call 18; exact met_call (by first | with_reducible exact M1.out | with_reducible exact M2.out | with_reducible exact M3.out)) | (go_at_call 11; exact later_num _) | (go_at_call 12; exact later_call (is_check HC.out)) | (go_at_call 20; exact later_live)))
          refine wpQuiet_nil ?_
          rintro w9 ⟨⟨_, b9⟩, rfl⟩
          go_wp2_with fail
          go_ret
          exact ⟨rfl, q_trans HT.out.low b9⟩
    | false =>
      have I3 := hid hbc
      cases hac : meB a c with
      | true =>
        have M3 := hid hac
        have M4 := hid (in_me2 hi hac)
        cases hba : inB b a with
        | true =>
          have I5 := hid hba
          have he := eq_yes (in_eq hi hba)
          clear hi hbc hac hba
          go_enter Try.func7, Try.ntmps7
          go_wp2_with fail
          have HT := hid (t3_start w a b c 23)
          generalize (((w.alloc (.cells #[.int .i64 a.1, .int .i64 a.2] 23)).alloc (.cells #[.int .i64 b.1, .int .i64 b.2] 23)).alloc (.cells #[.int .i64 c.1, .int .i64 c.2] 23)) = W at HT ⊢
          obtain ⟨f0, f1⟩ := HT.out.a.always
          obtain ⟨f2, f3⟩ := HT.out.b.always
          obtain ⟨f4, f5⟩ := HT.out.c.always
          have hne : Nonempty (Later W) := ⟨⟨W, Below.refl _ _⟩⟩
          refine wp_region_later (by kernel_rfl) (by kernel_rfl) ?_
          repeat (go_big_quiet_step (first | (go_at_call 16; exact ins_call (by first | with_reducible exact I1.out | with_reducible exact I2.out | with_reducible exact I3.out | with_reducible exact I5.out)) | (go_at_call 18; exact met_call (by first | with_reducible exact M1.out | with_reducible exact M2.out | with_reducible exact M3.out | with_reducible exact M4.out)) | (go_at_call 11; exact later_num _) | (go_at_call 12; exact later_call (is_check HC.out)) | (go_at_call 20; exact later_live)))
          refine wpQuiet_nil ?_
          rintro w1 ⟨⟨_, b1⟩, rfl⟩
          replace HT := hid (HT.out.below b1)
          clear f0 f1 f2 f3 f4 f5 hne b1
          obtain ⟨f0, f1⟩ := HT.out.a
          obtain ⟨f2, f3⟩ := HT.out.b
          obtain ⟨f4, f5⟩ := HT.out.c
          go_wp2_with (first | (go_at_call 16; refine (is_inside (by first | with_reducible exact I1.out | with_reducible exact I2.out | with_reducible exact I3.out | with_reducible exact I5.out)).mono ?_; rintro e w2 ⟨rfl, b2⟩; replace HT := hid (HT.out.below b2); clear b2 f0 f1 f2 f3 f4 f5; obtain ⟨f0, f1⟩ := HT.out.a; obtain ⟨f2, f3⟩ := HT.out.b; obtain ⟨f4, f5⟩ := HT.out.c) | (go_at_call 18; refine (is_meet (by first | with_reducible exact M1.out | with_reducible exact M2.out | with_reducible exact M3.out | with_reducible exact M4.out)).mono ?_; rintro e w2 ⟨rfl, b2⟩; replace HT := hid (HT.out.below b2); clear b2 f0 f1 f2 f3 f4 f5; obtain ⟨f0, f1⟩ := HT.out.a; obtain ⟨f2, f3⟩ := HT.out.b; obtain ⟨f4, f5⟩ := HT.out.c))
          clear f0 f1 f2 f3 f4 f5
          obtain ⟨f0, f1⟩ := HT.out.a.always
          obtain ⟨f2, f3⟩ := HT.out.b.always
          obtain ⟨f4, f5⟩ := HT.out.c.always
          have hne : Nonempty (Later w2) := ⟨⟨w2, Below.refl _ _⟩⟩
          refine wp_region_later (by kernel_rfl) (by kernel_rfl) ?_
          repeat (go_big_quiet_step (first | (go_at_call 16; exact ins_call (by first | with_reducible exact I1.out | with_reducible exact I2.out | with_reducible exact I3.out | with_reducible exact I5.out)) | (go_at_call 18; exact met_call (by first | with_reducible exact M1.out | with_reducible exact M2.out | with_reducible exact M3.out | with_reducible exact M4.out)) | (go_at_call 11; exact later_num _) | (go_at_call 12; exact later_call (is_check HC.out)) | (go_at_call 20; exact later_live)))
          refine wpQuiet_nil ?_
          rintro w9 ⟨⟨_, b9⟩, rfl⟩
          go_wp2_with fail
          go_ret
          exact ⟨rfl, q_trans HT.out.low b9⟩
        | false =>
          have I5 := hid hba
          clear hi hbc hac hba
          go_enter Try.func7, Try.ntmps7
          go_wp2_with fail
          have HT := hid (t3_start w a b c 23)
          generalize (((w.alloc (.cells #[.int .i64 a.1, .int .i64 a.2] 23)).alloc (.cells #[.int .i64 b.1, .int .i64 b.2] 23)).alloc (.cells #[.int .i64 c.1, .int .i64 c.2] 23)) = W at HT ⊢
          obtain ⟨f0, f1⟩ := HT.out.a.always
          obtain ⟨f2, f3⟩ := HT.out.b.always
          obtain ⟨f4, f5⟩ := HT.out.c.always
          have hne : Nonempty (Later W) := ⟨⟨W, Below.refl _ _⟩⟩
          refine wp_region_later (by kernel_rfl) (by kernel_rfl) ?_
          repeat (go_big_quiet_step (first | (go_at_call 16; exact ins_call (by first | with_reducible exact I1.out | with_reducible exact I2.out | with_reducible exact I3.out | with_reducible exact I5.out)) | (go_at_call 18; exact met_call (by first | with_reducible exact M1.out | with_reducible exact M2.out | with_reducible exact M3.out | with_reducible exact M4.out)) | (go_at_call 11; exact later_num _) | (go_at_call 12; exact later_call (is_check HC.out)) | (go_at_call 20; exact later_live)))
          refine wpQuiet_nil ?_
          rintro w1 ⟨⟨_, b1⟩, rfl⟩
          replace HT := hid (HT.out.below b1)
          clear f0 f1 f2 f3 f4 f5 hne b1
          obtain ⟨f0, f1⟩ := HT.out.a
          obtain ⟨f2, f3⟩ := HT.out.b
          obtain ⟨f4, f5⟩ := HT.out.c
          go_wp2_with (first | (go_at_call 16; refine (is_inside (by first | with_reducible exact I1.out | with_reducible exact I2.out | with_reducible exact I3.out | with_reducible exact I5.out)).mono ?_; rintro e w2 ⟨rfl, b2⟩; replace HT := hid (HT.out.below b2); clear b2 f0 f1 f2 f3 f4 f5; obtain ⟨f0, f1⟩ := HT.out.a; obtain ⟨f2, f3⟩ := HT.out.b; obtain ⟨f4, f5⟩ := HT.out.c) | (go_at_call 18; refine (is_meet (by first | with_reducible exact M1.out | with_reducible exact M2.out | with_reducible exact M3.out | with_reducible exact M4.out)).mono ?_; rintro e w2 ⟨rfl, b2⟩; replace HT := hid (HT.out.below b2); clear b2 f0 f1 f2 f3 f4 f5; obtain ⟨f0, f1⟩ := HT.out.a; obtain ⟨f2, f3⟩ := HT.out.b; obtain ⟨f4, f5⟩ := HT.out.c))
          clear f0 f1 f2 f3 f4 f5
          obtain ⟨f0, f1⟩ := HT.out.a.always
          obtain ⟨f2, f3⟩ := HT.out.b.always
          obtain ⟨f4, f5⟩ := HT.out.c.always
          have hne : Nonempty (Later w2) := ⟨⟨w2, Below.refl _ _⟩⟩
          refine wp_region_later (by kernel_rfl) (by kernel_rfl) ?_
          repeat (go_big_quiet_step (first | (go_at_call 16; exact ins_call (by first | with_reducible exact I1.out | with_reducible exact I2.out | with_reducible exact I3.out | with_reducible exact I5.out)) | (go_at_call 18; exact met_call (by first | with_reducible exact M1.out | with_reducible exact M2.out | with_reducible exact M3.out | with_reducible exact M4.out)) | (go_at_call 11; exact later_num _) | (go_at_call 12; exact later_call (is_check HC.out)) | (go_at_call 20; exact later_live)))
          refine wpQuiet_nil ?_
          rintro w9 ⟨⟨_, b9⟩, rfl⟩
          go_wp2_with fail
          go_ret
          exact ⟨rfl, q_trans HT.out.low b9⟩
      | false =>
        have M3 := hid hac
        cases hba : inB b a with
        | true =>
          have I5 := hid hba
          have he := eq_yes (in_eq hi hba)
          clear hi hbc hac hba
          go_enter Try.func7, Try.ntmps7
          go_wp2_with fail
          have HT := hid (t3_start w a b c 23)
          generalize (((w.alloc (.cells #[.int .i64 a.1, .int .i64 a.2] 23)).alloc (.cells #[.int .i64 b.1, .int .i64 b.2] 23)).alloc (.cells #[.int .i64 c.1, .int .i64 c.2] 23)) = W at HT ⊢
          obtain ⟨f0, f1⟩ := HT.out.a.always
          obtain ⟨f2, f3⟩ := HT.out.b.always
          obtain ⟨f4, f5⟩ := HT.out.c.always
          have hne : Nonempty (Later W) := ⟨⟨W, Below.refl _ _⟩⟩
          refine wp_region_later (by kernel_rfl) (by kernel_rfl) ?_
          repeat (go_big_quiet_step (first | (go_at_call 16; exact ins_call (by first | with_reducible exact I1.out | with_reducible exact I2.out | with_reducible exact I3.out | with_reducible exact I5.out)) | (go_at_call 18; exact met_call (by first | with_reducible exact M1.out | with_reducible exact M2.out | with_reducible exact M3.out)) | (go_at_call 11; exact later_num _) | (go_at_call 12; exact later_call (is_check HC.out)) | (go_at_call 20; exact later_live)))
          refine wpQuiet_nil ?_
          rintro w1 ⟨⟨_, b1⟩, rfl⟩
          replace HT := hid (HT.out.below b1)
          clear f0 f1 f2 f3 f4 f5 hne b1
          obtain ⟨f0, f1⟩ := HT.out.a
          obtain ⟨f2, f3⟩ := HT.out.b
          obtain ⟨f4, f5⟩ := HT.out.c
          go_wp2_with (first | (go_at_call 16; refine (is_inside (by first | with_reducible exact I1.out | with_reducible exact I2.out | with_reducible exact I3.out | with_reducible exact I5.out)).mono ?_; rintro e w2 ⟨rfl, b2⟩; replace HT := hid (HT.out.below b2); clear b2 f0 f1 f2 f3 f4 f5; obtain ⟨f0, f1⟩ := HT.out.a; obtain ⟨f2, f3⟩ := HT.out.b; obtain ⟨f4, f5⟩ := HT.out.c) | (go_at_call 18; refine (is_meet (by first | with_reducible exact M1.out | with_reducible exact M2.out | with_reducible exact M3.out)).mono ?_; rintro e w2 ⟨rfl, b2⟩; replace HT := hid (HT.out.below b2); clear b2 f0 f1 f2 f3 f4 f5; obtain ⟨f0, f1⟩ := HT.out.a; obtain ⟨f2, f3⟩ := HT.out.b; obtain ⟨f4, f5⟩ := HT.out.c))
          clear f0 f1 f2 f3 f4 f5
          obtain ⟨f0, f1⟩ := HT.out.a.always
          obtain ⟨f2, f3⟩ := HT.out.b.always
          obtain ⟨f4, f5⟩ := HT.out.c.always
          have hne : Nonempty (Later w2) := ⟨⟨w2, Below.refl _ _⟩⟩
          refine wp_region_later (by kernel_rfl) (by kernel_rfl) ?_
          repeat (go_big_quiet_step (first | (go_at_call 16; exact ins_call (by first | with_reducible exact I1.out | with_reducible exact I2.out | with_reducible exact I3.out | with_reducible exact I5.out)) | (go_at_call 18; exact met_call (by first | with_reducible exact M1.out | with_reducible exact M2.out | with_reducible exact M3.out)) | (go_at_call 11; exact later_num _) | (go_at_call 12; exact later_call (is_check HC.out)) | (go_at_call 20; exact later_live)))
          refine wpQuiet_nil ?_
          rintro w9 ⟨⟨_, b9⟩, rfl⟩
          go_wp2_with fail
          go_ret
          exact ⟨rfl, q_trans HT.out.low b9⟩
        | false =>
          have I5 := hid hba
          clear hi hbc hac hba
          go_enter Try.func7, Try.ntmps7
          go_wp2_with fail
          have HT := hid (t3_start w a b c 23)
          generalize (((w.alloc (.cells #[.int .i64 a.1, .int .i64 a.2] 23)).alloc (.cells #[.int .i64 b.1, .int .i64 b.2] 23)).alloc (.cells #[.int .i64 c.1, .int .i64 c.2] 23)) = W at HT ⊢
          obtain ⟨f0, f1⟩ := HT.out.a.always
          obtain ⟨f2, f3⟩ := HT.out.b.always
          obtain ⟨f4, f5⟩ := HT.out.c.always
          have hne : Nonempty (Later W) := ⟨⟨W, Below.refl _ _⟩⟩
          refine wp_region_later (by kernel_rfl) (by kernel_rfl) ?_
          repeat (go_big_quiet_step (first | (go_at_call 16; exact ins_call (by first | with_reducible exact I1.out | with_reducible exact I2.out | with_reducible exact I3.out | with_reducible exact I5.out)) | (go_at_call 18; exact met_call (by first | with_reducible exact M1.out | with_reducible exact M2.out | with_reducible exact M3.out)) | (go_at_call 11; exact later_num _) | (go_at_call 12; exact later_call (is_check HC.out)) | (go_at_call 20; exact later_live)))
          refine wpQuiet_nil ?_
          rintro w1 ⟨⟨_, b1⟩, rfl⟩
          replace HT := hid (HT.out.below b1)
          clear f0 f1 f2 f3 f4 f5 hne b1
          obtain ⟨f0, f1⟩ := HT.out.a
          obtain ⟨f2, f3⟩ := HT.out.b
          obtain ⟨f4, f5⟩ := HT.out.c
          go_wp2_with (first | (go_at_call 16; refine (is_inside (by first | with_reducible exact I1.out | with_reducible exact I2.out | with_reducible exact I3.out | with_reducible exact I5.out)).mono ?_; rintro e w2 ⟨rfl, b2⟩; replace HT := hid (HT.out.below b2); clear b2 f0 f1 f2 f3 f4 f5; obtain ⟨f0, f1⟩ := HT.out.a; obtain ⟨f2, f3⟩ := HT.out.b; obtain ⟨f4, f5⟩ := HT.out.c) | (go_at_call 18; refine (is_meet (by first | with_reducible exact M1.out | with_reducible exact M2.out | with_reducible exact M3.out)).mono ?_; rintro e w2 ⟨rfl, b2⟩; replace HT := hid (HT.out.below b2); clear b2 f0 f1 f2 f3 f4 f5; obtain ⟨f0, f1⟩ := HT.out.a; obtain ⟨f2, f3⟩ := HT.out.b; obtain ⟨f4, f5⟩ := HT.out.c))
          clear f0 f1 f2 f3 f4 f5
          obtain ⟨f0, f1⟩ := HT.out.a.always
          obtain ⟨f2, f3⟩ := HT.out.b.always
          obtain ⟨f4, f5⟩ := HT.out.c.always
          have hne : Nonempty (Later w2) := ⟨⟨w2, Below.refl _ _⟩⟩
          refine wp_region_later (by kernel_rfl) (by kernel_rfl) ?_
          repeat (go_big_quiet_step (first | (go_at_call 16; exact ins_call (by first | with_reducible exact I1.out | with_reducible exact I2.out | with_reducible exact I3.out | with_reducible exact I5.out)) | (go_at_call 18; exact met_call (by first | with_reducible exact M1.out | with_reducible exact M2.out | with_reducible exact M3.out)) | (go_at_call 11; exact later_num _) | (go_at_call 12; exact later_call (is_check HC.out)) | (go_at_call 20; exact later_live)))
          refine wpQuiet_nil ?_
          rintro w9 ⟨⟨_, b9⟩, rfl⟩
          go_wp2_with fail
          go_ret
          exact ⟨rfl, q_trans HT.out.low b9⟩
end Go.Proofs.Yteohoipkdjhllaa.Ca
