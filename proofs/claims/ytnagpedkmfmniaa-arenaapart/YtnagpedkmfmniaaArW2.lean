/- What mayBe and free do. -/
import Derived.Test.YtnagpedkmfmniaaArW1
namespace Go.Proofs.Ytnagpedkmfmniaa.Ar
open Go.RowKit Go.Proofs.Ytnagpedkmfmniaa.Ha

theorem bne_of {a b : Int} (h : a ≠ b) : (a == b) = false := by simp [h]
theorem beq_of {a b : Int} (h : a = b) : (a == b) = true := by simp [h]
theorem okTB_yes {t : Th} (h : OkT t) : okTB t = true := okTB_iff.2 h
theorem okTB_no {t : Th} (h : ¬ OkT t) : okTB t = false := by rw [← okTB_iff] at h; simpa using h
set_option maxHeartbeats 1000000 in
theorem maybe_any (t : Th) (w : World) :
    Calls Try.prog 31 #[(.agg #[.int .i64 t.ty, .int .i64 t.gen, .int .i64 t.refs, .int .i64 t.st, .int .i64 t.sz, .int .i64 t.wa, .int .i64 t.fm, .int .i64 t.va])] w fun e w' => e = .returned (.bool (okTB t)) ∧ Below w.heap.size w w' := by
  have HR := hid (retired_any t)
  have HV := hid (live_any t)
  have hl : liveT t = false → ¬ (1 ≤ t.ty ∧ t.ty ≤ 5) := live_not.1
  have hl1 : liveT t = true → (1 ≤ t.ty ∧ t.ty ≤ 5) := live_iff.1
  obtain ⟨bl, hbl⟩ : ∃ b, liveT t = b := ⟨_, rfl⟩
  by_cases h1 : t.gen = -1
  · have R : retT t = true := ret_iff.2 h1
    by_cases h2 : t.ty = 0
    · by_cases h3 : t.refs = 0
      · have H := hid (okTB_yes (t := t) ⟨by omega, by omega, by omega, by omega, fun _ => live_not.2 (by omega), by omega, fun _ => h3⟩)
        have e2 := beq_of h2
        have e3 := beq_of h3
        clear hl hl1 h1 h2 h3 hbl
        go_enter Try.func31, Try.ntmps31
        go_wp2_with fail
        refine (HR.out _).mono ?_
        rintro e w1 ⟨rfl, b1⟩
        rw [R]
        obtain ⟨c0, c1, c2, c3, c4, c5, c6, c7, cf⟩ := (inT_new w t 40).below b1
        have HB := hid (q_trans (alloc_below w _) b1)
        clear b1
        go_wp2_with fail
        go_ret
        exact ⟨ret_bool H.out.symm, HB.out⟩
      · have H := hid (okTB_no (t := t) (fun k => h3 (k.rl (live_not.2 (by omega)))))
        have e2 := beq_of h2
        have e3 := bne_of h3
        clear hl hl1 h1 h2 h3 hbl
        go_enter Try.func31, Try.ntmps31
        go_wp2_with fail
        refine (HR.out _).mono ?_
        rintro e w1 ⟨rfl, b1⟩
        rw [R]
        obtain ⟨c0, c1, c2, c3, c4, c5, c6, c7, cf⟩ := (inT_new w t 40).below b1
        have HB := hid (q_trans (alloc_below w _) b1)
        clear b1
        go_wp2_with fail
        go_ret
        exact ⟨ret_bool H.out.symm, HB.out⟩
    · have H := hid (okTB_no (t := t) (fun k => by have := live_not.1 (k.gl h1); have := k.ty0; have := k.ty5; omega))
      have e2 := bne_of h2
      clear hl hl1 h1 h2 hbl
      go_enter Try.func31, Try.ntmps31
      go_wp2_with fail
      refine (HR.out _).mono ?_
      rintro e w1 ⟨rfl, b1⟩
      rw [R]
      obtain ⟨c0, c1, c2, c3, c4, c5, c6, c7, cf⟩ := (inT_new w t 40).below b1
      have HB := hid (q_trans (alloc_below w _) b1)
      clear b1
      go_wp2_with fail
      go_ret
      exact ⟨ret_bool H.out.symm, HB.out⟩
  · have R : retT t = false := ret_not.2 h1
    by_cases h2 : 0 ≤ t.gen
    · by_cases h3 : t.gen ≤ 4095
      · cases hbl2 : liveT t with
        | true =>
          have := hl1 hbl2
          by_cases h4 : 0 ≤ t.refs
          · have H := hid (okTB_yes (t := t) ⟨by omega, by omega, by omega, by omega, fun e => absurd e h1, by omega, fun e => by rw [hbl2] at e; cases e⟩)
            have HL := hid hbl2
            clear hl hl1 h1 hbl hbl2 this
            go_enter Try.func31, Try.ntmps31
            go_wp2_with fail
            refine (HR.out _).mono ?_
            rintro e w1 ⟨rfl, b1⟩
            rw [R]
            obtain ⟨c0, c1, c2, c3, c4, c5, c6, c7, cf⟩ := (inT_new w t 40).below b1
            have HB := hid (q_trans (alloc_below w _) b1)
            have HT := hid ((inT_new w t 40).below b1)
            clear b1
            go_wp2_with fail
            refine (HV.out _).mono ?_
            rintro e w2 ⟨rfl, b2⟩
            rw [HL.out]
            clear c0 c1 c2 c3 c4 c5 c6 c7 cf
            obtain ⟨c0, c1, c2, c3, c4, c5, c6, c7, cf⟩ := HT.out.below b2
            have HB := hid (q_trans HB.out b2)
            clear b2
            go_wp2_with fail
            go_ret
            exact ⟨ret_bool H.out.symm, HB.out⟩
          · have H := hid (okTB_no (t := t) (fun k => h4 k.r0))
            have HL := hid hbl2
            have e4 : (t.ty == 0) = false := bne_of (by omega)
            clear hl hl1 h1 hbl hbl2 this
            go_enter Try.func31, Try.ntmps31
            go_wp2_with fail
            refine (HR.out _).mono ?_
            rintro e w1 ⟨rfl, b1⟩
            rw [R]
            obtain ⟨c0, c1, c2, c3, c4, c5, c6, c7, cf⟩ := (inT_new w t 40).below b1
            have HB := hid (q_trans (alloc_below w _) b1)
            have HT := hid ((inT_new w t 40).below b1)
            clear b1
            go_wp2_with fail
            refine (HV.out _).mono ?_
            rintro e w2 ⟨rfl, b2⟩
            rw [HL.out]
            clear c0 c1 c2 c3 c4 c5 c6 c7 cf
            obtain ⟨c0, c1, c2, c3, c4, c5, c6, c7, cf⟩ := HT.out.below b2
            have HB := hid (q_trans HB.out b2)
            clear b2
            go_wp2_with fail
            go_ret
            exact ⟨ret_bool ((decide_eq_false (by omega)).trans H.out.symm), HB.out⟩
        | false =>
          have := hl hbl2
          by_cases h4 : t.ty = 0
          · have e4 := beq_of h4
            have H : Hid (okTB t = (t.refs == 0)) := by
              by_cases h5 : t.refs = 0
              · rw [beq_of h5]
                exact okTB_yes (t := t) ⟨by omega, by omega, by omega, by omega, fun _ => hbl2, by omega, fun _ => h5⟩
              · rw [bne_of h5]
                exact okTB_no (t := t) (fun k => h5 (k.rl hbl2))
            have HL := hid hbl2
            clear hl hl1 h1 hbl hbl2 this h4
            go_enter Try.func31, Try.ntmps31
            go_wp2_with fail
            refine (HR.out _).mono ?_
            rintro e w1 ⟨rfl, b1⟩
            rw [R]
            obtain ⟨c0, c1, c2, c3, c4, c5, c6, c7, cf⟩ := (inT_new w t 40).below b1
            have HB := hid (q_trans (alloc_below w _) b1)
            have HT := hid ((inT_new w t 40).below b1)
            clear b1
            go_wp2_with fail
            refine (HV.out _).mono ?_
            rintro e w2 ⟨rfl, b2⟩
            rw [HL.out]
            clear c0 c1 c2 c3 c4 c5 c6 c7 cf
            obtain ⟨c0, c1, c2, c3, c4, c5, c6, c7, cf⟩ := HT.out.below b2
            have HB := hid (q_trans HB.out b2)
            clear b2
            go_wp2_with fail
            go_ret
            exact ⟨ret_bool H.out.symm, HB.out⟩
          · have e4 := bne_of h4
            have H := hid (okTB_no (t := t) (fun k => by have := k.ty0; have := k.ty5; omega))
            have HL := hid hbl2
            clear hl hl1 h1 hbl hbl2 this h4
            go_enter Try.func31, Try.ntmps31
            go_wp2_with fail
            refine (HR.out _).mono ?_
            rintro e w1 ⟨rfl, b1⟩
            rw [R]
            obtain ⟨c0, c1, c2, c3, c4, c5, c6, c7, cf⟩ := (inT_new w t 40).below b1
            have HB := hid (q_trans (alloc_below w _) b1)
            have HT := hid ((inT_new w t 40).below b1)
            clear b1
            go_wp2_with fail
            refine (HV.out _).mono ?_
            rintro e w2 ⟨rfl, b2⟩
            rw [HL.out]
            clear c0 c1 c2 c3 c4 c5 c6 c7 cf
            obtain ⟨c0, c1, c2, c3, c4, c5, c6, c7, cf⟩ := HT.out.below b2
            have HB := hid (q_trans HB.out b2)
            clear b2
            go_wp2_with fail
            go_ret
            exact ⟨ret_bool H.out.symm, HB.out⟩
      · have H := hid (okTB_no (t := t) (fun k => h3 k.g1))
        clear hl hl1 h1 hbl
        go_enter Try.func31, Try.ntmps31
        go_wp2_with fail
        refine (HR.out _).mono ?_
        rintro e w1 ⟨rfl, b1⟩
        rw [R]
        obtain ⟨c0, c1, c2, c3, c4, c5, c6, c7, cf⟩ := (inT_new w t 40).below b1
        have HB := hid (q_trans (alloc_below w _) b1)
        clear b1
        go_wp2_with fail
        go_ret
        exact ⟨ret_bool H.out.symm, HB.out⟩
    · have H := hid (okTB_no (t := t) (fun k => by have := k.g0; omega))
      clear hl hl1 h1 hbl
      go_enter Try.func31, Try.ntmps31
      go_wp2_with fail
      refine (HR.out _).mono ?_
      rintro e w1 ⟨rfl, b1⟩
      rw [R]
      obtain ⟨c0, c1, c2, c3, c4, c5, c6, c7, cf⟩ := (inT_new w t 40).below b1
      have HB := hid (q_trans (alloc_below w _) b1)
      clear b1
      go_wp2_with fail
      go_ret
      exact ⟨ret_bool H.out.symm, HB.out⟩
end Go.Proofs.Ytnagpedkmfmniaa.Ar
