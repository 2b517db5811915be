/- What the document's Is and May of capabilities do. -/
import Derived.Test.YthnfekdoibhnpaaDoorAdMem
import Derived.Test.YthnfekdoibhnpaaDoorRcRefA
namespace Go.Proofs.YthnfekdoibhnpaaDoor.Ad
open Go.RowKit
open Cp (K noneB someB okB most up noneB_iff some_not_none)

theorem okB_some {c : K} (h : noneB c = false) : okB c = someB c := by simp [okB, h]
set_option maxHeartbeats 400000 in
theorem kis_none (c : K) (w : World) (h : noneB c = true) :
    Calls Tryd.prog 41 #[(.agg #[.int .i64 c.t, .int .i64 c.r, .int .i64 c.b, .int .i64 c.o, .int .i64 c.g])] w fun e w' => e = .returned (.bool true) ∧ Below w.heap.size w w' := by
  have hz := eq5z c
  rw [h] at hz
  go_enter Tryd.func41, Tryd.ntmps41
  go_wp2_with fail
  go_ret
  exact ⟨rfl, q_alloc (Below.refl _ _) _⟩

theorem most_o {t : Int} (h2 : ¬ t = 2) (h4 : ¬ t = 4) (h5 : ¬ t = 5) : most t = 0 := by simp [most, h2, h4, h5]
set_option maxRecDepth 100000 in
set_option maxHeartbeats 600000 in
theorem kis_some (c : K) (w : World) (h : noneB c = false) :
    Calls Tryd.prog 41 #[(.agg #[.int .i64 c.t, .int .i64 c.r, .int .i64 c.b, .int .i64 c.o, .int .i64 c.g])] w fun e w' => e = .returned (.bool (someB c)) ∧ Below w.heap.size w w' := by
  have hz := eq5z c
  rw [h] at hz
  have HI := atK_new w c 41
  by_cases h2 : c.t = 2
  · have e2 : (c.t == 2) = true := beq_iff_eq.2 h2
    have e4 : (c.t == 4) = false := beq_eq_false_iff_ne.2 (by omega)
    have e5 : (c.t == 5) = false := beq_eq_false_iff_ne.2 (by omega)
    have hm : Hid (most c.t = 7) := by simp [Hid, most, h2]
    clear h2
    go_enter Tryd.func41, Tryd.ntmps41
    go_wp2_with (go_at_call 45; refine (Rt.ris_any _ _).mono ?_; rintro e w' ⟨rfl, rfl⟩)
    all_goals (go_ret; refine ⟨ret_bool ?_, q_alloc (Below.refl _ _) _⟩; first | (simp [someB, up, hm.out, *]; done) | (simp [someB, up, hm.out, *]; intros; omega))
  · by_cases h2 : c.t = 4
    · have e2 : (c.t == 2) = false := beq_eq_false_iff_ne.2 (by omega)
      have e4 : (c.t == 4) = true := beq_iff_eq.2 h2
      have hm : Hid (most c.t = 65535) := by simp [Hid, most, h2]
      clear h2
      go_enter Tryd.func41, Tryd.ntmps41
      go_wp2_with (go_at_call 45; refine (Rt.ris_any _ _).mono ?_; rintro e w' ⟨rfl, rfl⟩)
      all_goals (go_ret; refine ⟨ret_bool ?_, q_alloc (Below.refl _ _) _⟩; first | (simp [someB, up, hm.out, *]; done) | (simp [someB, up, hm.out, *]; intros; omega))
    · by_cases h2 : c.t = 5
      · have e2 : (c.t == 2) = false := beq_eq_false_iff_ne.2 (by omega)
        have e4 : (c.t == 4) = false := beq_eq_false_iff_ne.2 (by omega)
        have e5 : (c.t == 5) = true := beq_iff_eq.2 h2
        have hm : Hid (most c.t = 65535) := by simp [Hid, most, h2]
        clear h2
        go_enter Tryd.func41, Tryd.ntmps41
        go_wp2_with (go_at_call 45; refine (Rt.ris_any _ _).mono ?_; rintro e w' ⟨rfl, rfl⟩)
        all_goals (go_ret; refine ⟨ret_bool ?_, q_alloc (Below.refl _ _) _⟩; first | (simp [someB, up, hm.out, *]; done) | (simp [someB, up, hm.out, *]; intros; omega))
      · have e2 : (c.t == 2) = false := beq_eq_false_iff_ne.2 (by omega)
        have e4 : (c.t == 4) = false := beq_eq_false_iff_ne.2 (by omega)
        have e5 : (c.t == 5) = false := beq_eq_false_iff_ne.2 (by omega)
        have hm : Hid (most c.t = 0) := by exact most_o (by omega) (by omega) h2
        clear h2
        go_enter Tryd.func41, Tryd.ntmps41
        go_wp2_with (go_at_call 45; refine (Rt.ris_any _ _).mono ?_; rintro e w' ⟨rfl, rfl⟩)
        all_goals (go_ret; refine ⟨ret_bool ?_, q_alloc (Below.refl _ _) _⟩; first | (simp [someB, up, hm.out, *]; done) | (simp [someB, up, hm.out, *]; intros; omega))

/-- IS, OF WHATEVER CAPABILITY. -/
theorem kis_any (c : K) (w : World) :
    Calls Tryd.prog 41 #[(.agg #[.int .i64 c.t, .int .i64 c.r, .int .i64 c.b, .int .i64 c.o, .int .i64 c.g])] w fun e w' => e = .returned (.bool (okB c)) ∧ Below w.heap.size w w' := by
  cases h : noneB c with
  | true =>
    rw [show okB c = true by simp [okB, h]]
    exact kis_none c w h
  | false =>
    rw [okB_some h]
    exact kis_some c w h

theorem none_type {c : K} (h : okB c = true) : (c.t == 0) = !someB c := by
  cases hs : someB c with
  | true =>
    simp only [someB, Bool.and_eq_true, decide_eq_true_eq] at hs
    exact beq_eq_false_iff_ne.2 (by omega)
  | false =>
    simp only [okB, hs, Bool.or_false] at h
    exact beq_iff_eq.2 (noneB_iff.1 h).1
set_option maxRecDepth 100000 in
set_option maxHeartbeats 600000 in
theorem kmay_any (c : K) (r : Int) (w : World) :
    Calls Tryd.prog 34 #[(.agg #[.int .i64 c.t, .int .i64 c.r, .int .i64 c.b, .int .i64 c.o, .int .i64 c.g]), .int .i64 r] w fun e w' => e = .returned (.bool (mayB c r)) ∧ Below w.heap.size w w' := by
  have HI := atK_new w c 41
  cases h : okB c with
  | false =>
    have HM : Hid (mayB c r = false) := by
      have : someB c = false := by
        cases hs : someB c with
        | false => rfl
        | true => rw [okB, hs, Bool.or_true] at h; cases h
      simp [Hid, mayB, this]
    go_enter Tryd.func34, Tryd.ntmps34
    go_wp2_with (go_at_call 41; refine (kis_any c _).mono ?_; rintro e w1 ⟨rfl, b1⟩)
    go_ret
    exact ⟨ret_bool HM.out.symm, q_trans (q_alloc (Below.refl _ _) _) b1⟩
  | true =>
    have ht := none_type h
    have hnt : (c.t != 0) = someB c := by rw [bne, ht, Bool.not_not]
    cases hs : someB c with
    | false =>
      have HM : Hid (mayB c r = false) := by simp [Hid, mayB, hs]
      rw [hs] at hnt
      clear ht hs
      go_enter Tryd.func34, Tryd.ntmps34
      go_wp2_with fail
      refine (kis_any c _).mono ?_
      rintro e w1 ⟨rfl, b1⟩
      obtain ⟨c0, c1, c2, c3, c4⟩ := HI.below b1
      have HB1 : Hid (Below w.heap.size w w1) := q_trans (q_alloc (Below.refl _ _) _) b1
      clear b1
      go_wp2_with fail
      go_ret
      exact ⟨ret_bool HM.out.symm, HB1.out⟩
    | true =>
      have HM : Hid (mayB c r = Rt.wiB r c.r) := by simp [Hid, mayB, hs]
      rw [hs] at hnt
      clear ht hs
      go_enter Tryd.func34, Tryd.ntmps34
      go_wp2_with fail
      refine (kis_any c _).mono ?_
      rintro e w1 ⟨rfl, b1⟩
      obtain ⟨c0, c1, c2, c3, c4⟩ := HI.below b1
      have HB1 : Hid (Below w.heap.size w w1) := q_trans (q_alloc (Below.refl _ _) _) b1
      clear b1
      go_wp2_with (go_at_call 42; refine (Rt.rwithin_any _ _ _).mono ?_; rintro e w7 ⟨rfl, rfl⟩)
      go_ret
      exact ⟨ret_bool HM.out.symm, HB1.out⟩
end Go.Proofs.YthnfekdoibhnpaaDoor.Ad
