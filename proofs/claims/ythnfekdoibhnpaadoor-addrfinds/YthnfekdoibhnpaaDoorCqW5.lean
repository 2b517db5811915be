/- What isSome and May do. -/
import Derived.Test.YthnfekdoibhnpaaDoorCqW2
namespace Go.Proofs.YthnfekdoibhnpaaDoor.Cp
open Go.RowKit

theorem okB_some {c : K} (h : noneB c = false) : okB c = someB c := by simp [okB, h]
theorem someB_none {c : K} (h : noneB c = true) : someB c = false := by
  cases hs : someB c with
  | false => rfl
  | true => rw [some_not_none hs] at h; cases h

set_option maxHeartbeats 400000 in
theorem isSome_any (c : K) (w : World) (hT : Tabs w) :
    Calls Tryd.prog 43 #[(.agg #[.int .i64 c.t, .int .i64 c.r, .int .i64 c.b, .int .i64 c.o, .int .i64 c.g])] w fun e w' => e = .returned (.bool (someB c)) ∧ Below w.heap.size w w' := by
  have HT : Hid (Tabs w) := hT
  have HI := in_new w c 41
  clear hT
  cases hn : noneB c with
  | true =>
    have HS : Hid (someB c = false) := someB_none hn
    go_enter Tryd.func43, Tryd.ntmps43
    go_wp2_with (go_at_call 47; refine (isNone_any c _).mono ?_; rintro e w1 ⟨rfl, b1⟩)
    go_ret
    exact ⟨Rt.ret_bool HS.out.symm, q_trans (q_alloc (Below.refl _ _) _) b1⟩
  | false =>
    have HC : Hid (∀ W : World, Tabs W → Calls Tryd.prog 48 #[(.agg #[.int .i64 c.t, .int .i64 c.r, .int .i64 c.b, .int .i64 c.o, .int .i64 c.g])] W fun e w' => e = .returned (.int .i64 (if someB c then 0 else 30)) ∧ Below W.heap.size W w') := fun W hW => by
      have := check_any c W hW
      rwa [chkE, okB_some hn] at this
    cases hs : someB c with
    | true =>
      rw [hs, if_pos rfl] at HC
      go_enter Tryd.func43, Tryd.ntmps43
      go_wp2_with fail
      refine (isNone_any c _).mono ?_
      rintro e w1 ⟨rfl, b1⟩
      have HB1 : Hid (Below w.heap.size w w1) := q_trans (q_alloc (Below.refl _ _) _) b1
      obtain ⟨c0, c1, c2, c3, c4⟩ := HI.below b1
      clear b1
      go_wp2_with (go_at_call 48; refine (HC.out _ (HT.out.below HB1.out)).mono ?_; rintro e w2 ⟨rfl, b2⟩)
      go_ret
      exact ⟨rfl, q_trans HB1.out b2⟩
    | false =>
      rw [hs, if_neg (by decide)] at HC
      go_enter Tryd.func43, Tryd.ntmps43
      go_wp2_with fail
      refine (isNone_any c _).mono ?_
      rintro e w1 ⟨rfl, b1⟩
      have HB1 : Hid (Below w.heap.size w w1) := q_trans (q_alloc (Below.refl _ _) _) b1
      obtain ⟨c0, c1, c2, c3, c4⟩ := HI.below b1
      clear b1
      go_wp2_with (go_at_call 48; refine (HC.out _ (HT.out.below HB1.out)).mono ?_; rintro e w2 ⟨rfl, b2⟩)
      go_ret
      exact ⟨rfl, q_trans HB1.out b2⟩

/-- Whether it lets one do this. -/
def mayB (c : K) (r : Int) : Bool := someB c && Rt.wiB r c.r
set_option maxHeartbeats 400000 in
theorem may_any (c : K) (r : Int) (w : World) (hT : Tabs w) :
    Calls Tryd.prog 40 #[(.agg #[.int .i64 c.t, .int .i64 c.r, .int .i64 c.b, .int .i64 c.o, .int .i64 c.g]), .int .i64 r] w fun e w' => e = .returned (.bool (mayB c r)) ∧ Below w.heap.size w w' := by
  have HT : Hid (Tabs w) := hT
  have HI := in_new w c 41
  clear hT
  cases hs : someB c with
  | false =>
    go_enter Tryd.func40, Tryd.ntmps40
    go_wp2_with (go_at_call 43; refine (isSome_any c _ (HT.out.below (q_alloc (Below.refl _ _) _))).mono ?_; rintro e w1 ⟨rfl, b1⟩)
    go_ret
    exact ⟨by simp [mayB, hs], q_trans (q_alloc (Below.refl _ _) _) b1⟩
  | true =>
    have HM : Hid (mayB c r = Rt.wiB r c.r) := by simp [Hid, mayB, hs]
    go_enter Tryd.func40, Tryd.ntmps40
    go_wp2_with fail
    refine (isSome_any c _ (HT.out.below (q_alloc (Below.refl _ _) _))).mono ?_
    rintro e w1 ⟨rfl, b1⟩
    have HB1 : Hid (Below w.heap.size w w1) := q_trans (q_alloc (Below.refl _ _) _) b1
    obtain ⟨c0, c1, c2, c3, c4⟩ := HI.below b1
    clear b1
    go_wp2_with (go_at_call 44; refine (within_c _ c _).mono ?_; rintro e w2 ⟨rfl, b2⟩)
    go_ret
    exact ⟨Rt.ret_bool HM.out.symm, q_trans HB1.out b2⟩

end Go.Proofs.YthnfekdoibhnpaaDoor.Cp
