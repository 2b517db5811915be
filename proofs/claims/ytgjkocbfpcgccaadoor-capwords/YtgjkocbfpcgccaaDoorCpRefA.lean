/- What the reference's Is, May, Names do. -/
import Derived.Test.YtgjkocbfpcgccaaDoorCpEq
import Derived.Test.YtgjkocbfpcgccaaDoorCpW5
import Derived.Test.YtgjkocbfpcgccaaDoorRcRefA
namespace Go.Proofs.YtgjkocbfpcgccaaDoor.Cp
open Go.RowKit

set_option maxHeartbeats 400000 in
theorem ris_none (c : K) (w : World) (h : noneB c = true) :
    Calls Tryd.prog 15 #[(.agg #[.int .i64 c.t, .int .i64 c.r, .int .i64 c.b, .int .i64 c.o, .int .i64 c.g])] w fun e w' => e = .returned (.bool true) ∧ Below w.heap.size w w' := by
  have hz := eq5z c
  rw [h] at hz
  go_enter Tryd.func15, Tryd.ntmps15
  go_wp2_with fail
  go_ret
  exact ⟨rfl, q_alloc (Below.refl _ _) _⟩

theorem most_o {t : Int} (h2 : ¬ t = 2) (h4 : ¬ t = 4) (h5 : ¬ t = 5) : most t = 0 := by simp [most, h2, h4, h5]
set_option maxRecDepth 100000 in
set_option maxHeartbeats 600000 in
theorem ris_some (c : K) (w : World) (h : noneB c = false) :
    Calls Tryd.prog 15 #[(.agg #[.int .i64 c.t, .int .i64 c.r, .int .i64 c.b, .int .i64 c.o, .int .i64 c.g])] w fun e w' => e = .returned (.bool (someB c)) ∧ Below w.heap.size w w' := by
  have hz := eq5z c
  rw [h] at hz
  have HI := in_new w c 23
  by_cases h2 : c.t = 2
  · have e2 : (c.t == 2) = true := beq_iff_eq.2 h2
    have e4 : (c.t == 4) = false := beq_eq_false_iff_ne.2 (by omega)
    have e5 : (c.t == 5) = false := beq_eq_false_iff_ne.2 (by omega)
    have hm : Hid (most c.t = 7) := by simp [Hid, most, h2]
    clear h2
    go_enter Tryd.func15, Tryd.ntmps15
    go_wp2_with (go_at_call 35; refine (Rt.ris_any _ _).mono ?_; rintro e w' ⟨rfl, rfl⟩)
    all_goals (go_ret; refine ⟨Rt.ret_bool ?_, q_alloc (Below.refl _ _) _⟩; first | (simp [someB, up, hm.out, *]; done) | (simp [someB, up, hm.out, *]; intros; omega))
  · by_cases h2 : c.t = 4
    · have e2 : (c.t == 2) = false := beq_eq_false_iff_ne.2 (by omega)
      have e4 : (c.t == 4) = true := beq_iff_eq.2 h2
      have hm : Hid (most c.t = 65535) := by simp [Hid, most, h2]
      clear h2
      go_enter Tryd.func15, Tryd.ntmps15
      go_wp2_with (go_at_call 35; refine (Rt.ris_any _ _).mono ?_; rintro e w' ⟨rfl, rfl⟩)
      all_goals (go_ret; refine ⟨Rt.ret_bool ?_, q_alloc (Below.refl _ _) _⟩; first | (simp [someB, up, hm.out, *]; done) | (simp [someB, up, hm.out, *]; intros; omega))
    · by_cases h2 : c.t = 5
      · have e2 : (c.t == 2) = false := beq_eq_false_iff_ne.2 (by omega)
        have e4 : (c.t == 4) = false := beq_eq_false_iff_ne.2 (by omega)
        have e5 : (c.t == 5) = true := beq_iff_eq.2 h2
        have hm : Hid (most c.t = 65535) := by simp [Hid, most, h2]
        clear h2
        go_enter Tryd.func15, Tryd.ntmps15
        go_wp2_with (go_at_call 35; refine (Rt.ris_any _ _).mono ?_; rintro e w' ⟨rfl, rfl⟩)
        all_goals (go_ret; refine ⟨Rt.ret_bool ?_, q_alloc (Below.refl _ _) _⟩; first | (simp [someB, up, hm.out, *]; done) | (simp [someB, up, hm.out, *]; intros; omega))
      · have e2 : (c.t == 2) = false := beq_eq_false_iff_ne.2 (by omega)
        have e4 : (c.t == 4) = false := beq_eq_false_iff_ne.2 (by omega)
        have e5 : (c.t == 5) = false := beq_eq_false_iff_ne.2 (by omega)
        have hm : Hid (most c.t = 0) := by exact most_o (by omega) (by omega) h2
        clear h2
        go_enter Tryd.func15, Tryd.ntmps15
        go_wp2_with (go_at_call 35; refine (Rt.ris_any _ _).mono ?_; rintro e w' ⟨rfl, rfl⟩)
        all_goals (go_ret; refine ⟨Rt.ret_bool ?_, q_alloc (Below.refl _ _) _⟩; first | (simp [someB, up, hm.out, *]; done) | (simp [someB, up, hm.out, *]; intros; omega))

/-- IS, OF WHATEVER CAPABILITY. -/
theorem ris_any (c : K) (w : World) :
    Calls Tryd.prog 15 #[(.agg #[.int .i64 c.t, .int .i64 c.r, .int .i64 c.b, .int .i64 c.o, .int .i64 c.g])] w fun e w' => e = .returned (.bool (okB c)) ∧ Below w.heap.size w w' := by
  cases h : noneB c with
  | true =>
    rw [show okB c = true by simp [okB, h]]
    exact ris_none c w h
  | false =>
    rw [okB_some h]
    exact ris_some c w h

theorem none_type {c : K} (h : okB c = true) : (c.t == 0) = !someB c := by
  cases hs : someB c with
  | true =>
    simp only [someB, Bool.and_eq_true, decide_eq_true_eq] at hs
    exact beq_eq_false_iff_ne.2 (by omega)
  | false =>
    simp only [okB, hs, Bool.or_false] at h
    exact beq_iff_eq.2 (noneB_iff.1 h).1
set_option maxRecDepth 100000 in
set_option maxHeartbeats 600000 in
theorem rmay_any (c : K) (r : Int) (w : World) :
    Calls Tryd.prog 22 #[(.agg #[.int .i64 c.t, .int .i64 c.r, .int .i64 c.b, .int .i64 c.o, .int .i64 c.g]), .int .i64 r] w fun e w' => e = .returned (.bool (mayB c r)) ∧ Below w.heap.size w w' := by
  have HI := in_new w c 23
  cases h : okB c with
  | false =>
    have HM : Hid (mayB c r = false) := by
      have : someB c = false := by
        cases hs : someB c with
        | false => rfl
        | true => rw [okB, hs, Bool.or_true] at h; cases h
      simp [Hid, mayB, this]
    go_enter Tryd.func22, Tryd.ntmps22
    go_wp2_with (go_at_call 15; refine (ris_any c _).mono ?_; rintro e w1 ⟨rfl, b1⟩)
    go_ret
    exact ⟨Rt.ret_bool HM.out.symm, q_trans (q_alloc (Below.refl _ _) _) b1⟩
  | true =>
    have ht := none_type h
    have hnt : (c.t != 0) = someB c := by rw [bne, ht, Bool.not_not]
    cases hs : someB c with
    | false =>
      have HM : Hid (mayB c r = false) := by simp [Hid, mayB, hs]
      rw [hs] at hnt
      clear ht hs
      go_enter Tryd.func22, Tryd.ntmps22
      go_wp2_with fail
      refine (ris_any c _).mono ?_
      rintro e w1 ⟨rfl, b1⟩
      obtain ⟨c0, c1, c2, c3, c4⟩ := HI.below b1
      have HB1 : Hid (Below w.heap.size w w1) := q_trans (q_alloc (Below.refl _ _) _) b1
      clear b1
      go_wp2_with fail
      go_ret
      exact ⟨Rt.ret_bool HM.out.symm, HB1.out⟩
    | true =>
      have HM : Hid (mayB c r = Rt.wiB r c.r) := by simp [Hid, mayB, hs]
      rw [hs] at hnt
      clear ht hs
      go_enter Tryd.func22, Tryd.ntmps22
      go_wp2_with fail
      refine (ris_any c _).mono ?_
      rintro e w1 ⟨rfl, b1⟩
      obtain ⟨c0, c1, c2, c3, c4⟩ := HI.below b1
      have HB1 : Hid (Below w.heap.size w w1) := q_trans (q_alloc (Below.refl _ _) _) b1
      clear b1
      go_wp2_with (go_at_call 25; refine (Rt.rwithin_any _ _ _).mono ?_; rintro e w7 ⟨rfl, rfl⟩)
      go_ret
      exact ⟨Rt.ret_bool HM.out.symm, HB1.out⟩

set_option maxRecDepth 100000 in
set_option maxHeartbeats 600000 in
theorem rnames_any (c d : K) (w : World) :
    Calls Tryd.prog 24 #[(.agg #[.int .i64 c.t, .int .i64 c.r, .int .i64 c.b, .int .i64 c.o, .int .i64 c.g]), (.agg #[.int .i64 d.t, .int .i64 d.r, .int .i64 d.b, .int .i64 d.o, .int .i64 d.g])] w fun e w' => e = .returned (.bool (namB c d)) ∧ Below w.heap.size w w' := by
  have hz := eq5z c
  have hy := eq5z d
  have HN : Hid (namB c d = (!noneB c && (!noneB d && (c.t == d.t && (c.o == d.o && c.g == d.g))))) := rfl
  cases hc : noneB c with
  | true =>
    rw [hc] at hz HN
    go_enter Tryd.func24, Tryd.ntmps24
    go_wp2_with fail
    go_ret
    exact ⟨Rt.ret_bool (by rw [HN.out]; rfl), q_alloc (q_alloc (Below.refl _ _) _) _⟩
  | false =>
    rw [hc] at hz HN
    cases hd : noneB d with
    | true =>
      rw [hd] at hy HN
      go_enter Tryd.func24, Tryd.ntmps24
      go_wp2_with fail
      go_ret
      exact ⟨Rt.ret_bool (by rw [HN.out]; rfl), q_alloc (q_alloc (Below.refl _ _) _) _⟩
    | false =>
      rw [hd] at hy HN
      generalize e1 : (c.t == d.t) = x1 at HN
      generalize e2 : (c.o == d.o) = x2 at HN
      generalize e3 : (c.g == d.g) = x3 at HN
      go_enter Tryd.func24, Tryd.ntmps24
      go_wp2_with fail
      all_goals (go_ret; exact ⟨Rt.ret_bool (by rw [HN.out]; simp_all), q_alloc (q_alloc (Below.refl _ _) _) _⟩)
end Go.Proofs.YtgjkocbfpcgccaaDoor.Cp
