/- What the program's Check, hasCore do. -/
import Derived.Test.YtejghoncihdfkaaEpW1
namespace Go.Proofs.Ytejghoncihdfkaa.Ep
open Go.RowKit

/-- Check's answer. -/
def chE (e : E) : Int := if okE e then 0 else 2
theorem ch_yes {e : E} (h : okE e = true) : chE e = 0 := by unfold chE; rw [if_pos h]
theorem ch_no {e : E} (h : okE e = false) : chE e = 2 := by unfold chE; rw [h]; rfl
theorem HasW.later2 {w : World} {ao : Option Addr} {n cap : Nat} {l : List W} (h : HasW w ao n cap l) (g : Later w) : HasW g.now ao n cap l := h.below g.low
set_option maxRecDepth 100000 in
set_option maxHeartbeats 4000000 in
theorem check_main (y : WE) (e : E) (Av : Nat → Prop) (w : World) (h1 : 1 ≤ e.pins.length) (h2 : e.pins.length ≤ 64) (h3 : e.lim.length = e.pins.length) (h4 : 1 ≤ e.now) (h5 : e.now ≤ 1099511627776) (HS : Hid (Sm e)) (HE : Hid (HasE w Av y e)) :
    Calls Try.prog 18 #[(.agg #[.int .i64 e.now, .slice y.p.o y.p.n y.p.c, .slice y.l.o y.l.n y.l.c])] w fun r w' => r = .returned (.int .i64 (chE e)) ∧ Below w.heap.size w w' := by
  obtain ⟨⟨po, P, pc⟩, ⟨lo, Q, lc⟩⟩ := y
  obtain ⟨n, hn⟩ : ∃ n, e.now = n := ⟨_, rfl⟩
  have e1 : P = e.pins.length := HE.out.pn
  have e2 : Q = e.lim.length := HE.out.ln
  rw [h3, ← e1] at e2
  subst e2
  rw [← e1] at h1 h2 h3
  rw [hn] at h4 h5 ⊢
  have HN := hid hn
  have HP := hid e1
  have HQ := hid h3
  clear hn e1 h3
  go_enter Try.func18, Try.ntmps18
  have b1 : ((Q : Int) != (Q : Int)) = false := by simp
  go_wp2_with fail
  have HB := hid (bw_start w n ⟨⟨po, Q, pc⟩, ⟨lo, Q, lc⟩⟩ 25)
  go_loopw [35] (fun i wr => ∃ k : Nat, k ≤ Q ∧ i = .int .i64 k ∧ Hid (UpTo e k) ∧ Hid (Bw w wr n ⟨⟨po, Q, pc⟩, ⟨lo, Q, lc⟩⟩)) (fun i _ => Q - (intOf i).toNat)
  case atStart => exact ⟨0, Nat.zero_le _, rfl, fun c hc => absurd hc (by omega), HB⟩
  case round =>
    obtain ⟨k, hk, rfl, HU, HW⟩ := hrel
    clear HB
    by_cases hlt : k < Q
    · have i1 : (0 : Int) ≤ (k : Int) := by omega
      have i2 : (k : Int) < (Q : Int) := by omega
      obtain ⟨a, ea, ca⟩ := (HE.out.below HW.out.low).pin k (by have := HP.out; omega)
      obtain ⟨b, lo', m, lc', eb, cb, hw, _⟩ := (HE.out.below HW.out.low).list k (by have := HQ.out; omega)
      obtain rfl : po = some a := ea
      obtain rfl : lo = some b := eb
      obtain ⟨q, hq⟩ : ∃ q, e.pins.getD k 0 = q := ⟨_, rfl⟩
      obtain ⟨l, hl⟩ : ∃ l, e.lim.getD k [] = l := ⟨_, rfl⟩
      rw [hq] at ca
      rw [hl] at hw
      have HPq := hid hq
      have HPl := hid hl
      have HWk := hid hw
      have HM : Hid (m ≤ 1000) := by have := HS.out.each k (by have := HQ.out; omega); rw [HPl.out, ← HWk.out.len] at this; unfold Hid; omega
      clear hq hw hl
      obtain ⟨f0, f1, f2⟩ := HW.out.box.always
      have f3 : ∀ g : Later wr, g.now.cell? (a.add k) = some (.int .i64 q) := fun g => g.cell ca
      have f4 : ∀ g : Later wr, g.now.cell? (b.add k) = some (.slice lo' m lc') := fun g => g.cell cb
      have hne : Nonempty (Later wr) := ⟨⟨wr, Below.refl _ _⟩⟩
      clear cb
      by_cases q0 : q = n
      · have d0 := bne_no q0
        have HG : Hid (okP n q = true) := okP_iff.2 (.inr (.inl q0))
        clear q0
        cases hr : okL n l with
        | true =>
          have HR := hid hr
          clear hr
          go_wp2_with fail
          refine wp_region_later (by kernel_rfl) (by kernel_rfl) ?_
          repeat (go_big_quiet_step (first | (go_at_call 33; exact later_call (is_may HM.out (HWk.out.later2 _) HR.out))))
          refine wpQuiet_nil ?_
          rintro w9 ⟨⟨_, b9⟩, rfl⟩
          have HW9 := hid (HW.out.below b9)
          clear f0 f1 f2 f3 f4 hne b9 ca
          go_wp2_with fail
          go_roundw
          case rel => exact ⟨k + 1, by omega, by go_num, upTo_step HU.out (by rw [HN.out, HPq.out]; exact HG.out) (by rw [HN.out, HPl.out]; exact HR.out), HW9⟩
          case measure => simp [intOf]; omega
        | false =>
          have HR := hid hr
          have HF : Hid (okE e = false) := not_lim (k := k) (by have := HP.out; omega) (by rw [HN.out, HPl.out]; exact hr)
          clear hr
          go_wp2_with fail
          refine wp_region_later (by kernel_rfl) (by kernel_rfl) ?_
          repeat (go_big_quiet_step (first | (go_at_call 33; exact later_call (is_may HM.out (HWk.out.later2 _) HR.out))))
          refine wpQuiet_nil ?_
          rintro w9 ⟨⟨_, b9⟩, rfl⟩
          have HW9 := hid (HW.out.below b9)
          clear f0 f1 f2 f3 f4 hne b9 ca
          go_wp2_with fail
          go_ret
          exact ⟨ret_int (ch_no HF.out).symm, HW9.out.low⟩
      · have d0 := bne_yes q0
        cases hi : isB n q with
        | true =>
          have HI := hid hi
          have HG : Hid (okP n q = true) := okP_iff.2 (by simp [isB] at hi; omega)
          clear q0 hi
          cases hr : okL n l with
          | true =>
            have HR := hid hr
            clear hr
            go_wp2_with fail
            refine wp_region_later (by kernel_rfl) (by kernel_rfl) ?_
            repeat (go_big_quiet_step (first | (go_at_call 32; exact later_call (is_step (y := ⟨⟨some a, Q, pc⟩, ⟨some b, Q, lc⟩⟩) h4 h5 HI.out)) | (go_at_call 33; exact later_call (is_may HM.out (HWk.out.later2 _) HR.out))))
            refine wpQuiet_nil ?_
            rintro w9 ⟨⟨_, b9⟩, rfl⟩
            have HW9 := hid (HW.out.below b9)
            clear f0 f1 f2 f3 f4 hne b9 ca
            go_wp2_with fail
            go_roundw
            case rel => exact ⟨k + 1, by omega, by go_num, upTo_step HU.out (by rw [HN.out, HPq.out]; exact HG.out) (by rw [HN.out, HPl.out]; exact HR.out), HW9⟩
            case measure => simp [intOf]; omega
          | false =>
            have HR := hid hr
            have HF : Hid (okE e = false) := not_lim (k := k) (by have := HP.out; omega) (by rw [HN.out, HPl.out]; exact hr)
            clear hr
            go_wp2_with fail
            refine wp_region_later (by kernel_rfl) (by kernel_rfl) ?_
            repeat (go_big_quiet_step (first | (go_at_call 32; exact later_call (is_step (y := ⟨⟨some a, Q, pc⟩, ⟨some b, Q, lc⟩⟩) h4 h5 HI.out)) | (go_at_call 33; exact later_call (is_may HM.out (HWk.out.later2 _) HR.out))))
            refine wpQuiet_nil ?_
            rintro w9 ⟨⟨_, b9⟩, rfl⟩
            have HW9 := hid (HW.out.below b9)
            clear f0 f1 f2 f3 f4 hne b9 ca
            go_wp2_with fail
            go_ret
            exact ⟨ret_int (ch_no HF.out).symm, HW9.out.low⟩
        | false =>
          have HI := hid hi
          have HF : Hid (okE e = false) := not_pin (k := k) (by have := HP.out; omega) (by
            rw [HN.out, HPq.out]
            simp [isB] at hi
            simp [okP, q0, hi])
          clear q0 hi
          go_wp2_with fail
          refine wp_region_later (by kernel_rfl) (by kernel_rfl) ?_
          repeat (go_big_quiet_step (first | (go_at_call 32; exact later_call (is_step (y := ⟨⟨some a, Q, pc⟩, ⟨some b, Q, lc⟩⟩) h4 h5 HI.out))))
          refine wpQuiet_nil ?_
          rintro w9 ⟨⟨_, b9⟩, rfl⟩
          have HW9 := hid (HW.out.below b9)
          clear f0 f1 f2 f3 f4 hne b9 ca
          go_wp2_with fail
          go_ret
          exact ⟨ret_int (ch_no HF.out).symm, HW9.out.low⟩
    · have HOk : Hid (okE e = true) := by
        have hk2 : k = e.pins.length := by have := HP.out; omega
        refine ok_iff.2 ⟨by have := HP.out; omega, by have := HP.out; omega, by rw [HQ.out]; exact HP.out, by rw [HN.out]; exact h4, by rw [HN.out]; exact h5, fun c hc => ?_, fun c hc => ?_⟩
        · exact (HU.out c (by omega)).1
        · exact (HU.out c (by omega)).2
      go_wp2_with fail
      go_ret
      exact ⟨ret_int (ch_yes HOk.out).symm, HW.out.low⟩
set_option maxRecDepth 100000 in
set_option maxHeartbeats 2000000 in
/-- CHECK: WHETHER EPOCHS MAY BE. -/
theorem check_any (y : WE) (e : E) (Av : Nat → Prop) (w : World) (HS : Hid (Sm e)) (HE : Hid (HasE w Av y e)) :
    Calls Try.prog 18 #[(.agg #[.int .i64 e.now, .slice y.p.o y.p.n y.p.c, .slice y.l.o y.l.n y.l.c])] w fun r w' => r = .returned (.int .i64 (chE e)) ∧ Below w.heap.size w w' := by
  by_cases h : 1 ≤ e.pins.length ∧ e.pins.length ≤ 64 ∧ e.lim.length = e.pins.length ∧ 1 ≤ e.now ∧ e.now ≤ 1099511627776
  · obtain ⟨h1, h2, h3, h4, h5⟩ := h
    exact check_main y e Av w h1 h2 h3 h4 h5 HS HE
  · have HF : Hid (okE e = false) := by
      rw [Hid, ok_not]
      intro ho
      exact h ⟨ho.one, ho.most, ho.len, ho.now1, ho.now2⟩
    obtain ⟨⟨po, P, pc⟩, ⟨lo, Q, lc⟩⟩ := y
    obtain ⟨n, hn⟩ : ∃ n, e.now = n := ⟨_, rfl⟩
    have e1 : P = e.pins.length := HE.out.pn
    have e2 : Q = e.lim.length := HE.out.ln
    have p70 := HS.out.p
    have q70 := HS.out.l
    rw [← e1, ← e2, hn] at h
    rw [← e1] at p70
    rw [← e2] at q70
    rw [hn]
    clear e1 e2 hn HS HE
    by_cases h1 : 1 ≤ P
    · by_cases h2 : P ≤ 64
      · by_cases h3 : Q = P
        · subst h3
          have b1 : ((Q : Int) != (Q : Int)) = false := by simp
          by_cases h4 : 1 ≤ n
          · have h5 : ¬ n ≤ 1099511627776 := fun h5 => h ⟨h1, h2, rfl, h4, h5⟩
            clear h
            go_enter Try.func18, Try.ntmps18
            go_wp2_with fail
            go_ret
            exact ⟨ret_int (ch_no HF.out).symm, alloc_below _ _⟩
          · clear h
            go_enter Try.func18, Try.ntmps18
            go_wp2_with fail
            go_ret
            exact ⟨ret_int (ch_no HF.out).symm, alloc_below _ _⟩
        · have b1 : ((Q : Int) != (P : Int)) = true := by simp; omega
          clear h h3
          go_enter Try.func18, Try.ntmps18
          go_wp2_with fail
          go_ret
          exact ⟨ret_int (ch_no HF.out).symm, alloc_below _ _⟩
      · clear h
        go_enter Try.func18, Try.ntmps18
        go_wp2_with fail
        go_ret
        exact ⟨ret_int (ch_no HF.out).symm, alloc_below _ _⟩
    · clear h
      go_enter Try.func18, Try.ntmps18
      go_wp2_with fail
      go_ret
      exact ⟨ret_int (ch_no HF.out).symm, alloc_below _ _⟩
theorem is_check {y : WE} {e : E} {Av : Nat → Prop} {w : World} {r : Int} (hs : Sm e) (h : HasE w Av y e) (hr : chE e = r) : Calls Try.prog 18 #[(.agg #[.int .i64 e.now, .slice y.p.o y.p.n y.p.c, .slice y.l.o y.l.n y.l.c])] w fun v w' => v = .returned (.int .i64 r) ∧ Below w.heap.size w w' := hr ▸ check_any y e Av w hs h
set_option maxRecDepth 100000 in
set_option maxHeartbeats 2000000 in
/-- hasCore: WHETHER EPOCHS MAY BE, AND HAVE THAT CORE. -/
theorem hasCore_any (y : WE) (e : E) (c : Int) (Av : Nat → Prop) (w : World) (HS : Hid (Sm e)) (HE : Hid (HasE w Av y e)) :
    Calls Try.prog 39 #[(.agg #[.int .i64 e.now, .slice y.p.o y.p.n y.p.c, .slice y.l.o y.l.n y.l.c]), .int .i64 c] w fun r w' => r = .returned (.bool (coB e c)) ∧ Below w.heap.size w w' := by
  obtain ⟨⟨po, P, pc⟩, ⟨lo, L, lc⟩⟩ := y
  have HP : Hid (P = e.pins.length) := HE.out.pn
  have p70 : P ≤ 70 := by have := HS.out.p; have := HP.out; omega
  cases ho : okE e with
  | false =>
    have HC : Hid (coB e c = false) := by simp [Hid, coB, ho]
    have HI := hid (fun (W : World) (h : HasE W Av ⟨⟨po, P, pc⟩, ⟨lo, L, lc⟩⟩ e) => is_check HS.out h (ch_no ho))
    generalize e.now = n at HI ⊢
    clear ho
    go_enter Try.func39, Try.ntmps39
    go_wp2_with fail
    refine (HI.out _ (HE.out.below (alloc_below _ _))).mono ?_
    rintro r w1 ⟨rfl, b1⟩
    have B1 := hid (q_trans (alloc_below _ _) b1)
    clear b1
    go_wp2_with fail
    go_ret
    exact ⟨ret_bool HC.out.symm, B1.out⟩
  | true =>
    have HI := hid (fun (W : World) (h : HasE W Av ⟨⟨po, P, pc⟩, ⟨lo, L, lc⟩⟩ e) => is_check HS.out h (ch_yes ho))
    have HC : Hid (coB e c = (decide (0 ≤ c) && decide (c < (P : Int)))) := by simp [Hid, coB, ho, HP.out]
    generalize e.now = n at HI ⊢
    clear ho
    by_cases h0 : 0 ≤ c
    · have d0 : decide (0 ≤ c) = true := by simp [h0]
      by_cases h1 : c < (P : Int)
      · have d1 : decide (c < (P : Int)) = true := by simp [h1]
        rw [d0, d1] at HC
        go_enter Try.func39, Try.ntmps39
        go_wp2_with fail
        refine (HI.out _ (HE.out.below (alloc_below _ _))).mono ?_
        rintro r w1 ⟨rfl, b1⟩
        have B1 := hid (bw_start w n ⟨⟨po, P, pc⟩, ⟨lo, L, lc⟩⟩ 25)
        replace B1 := hid (B1.out.below b1)
        obtain ⟨x0, x1, x2, xf⟩ := B1.out.box
        clear b1
        go_wp2_with fail
        go_ret
        exact ⟨ret_bool HC.out.symm, B1.out.low⟩
      · have d1 : decide (c < (P : Int)) = false := by simp; omega
        rw [d0, d1] at HC
        clear h1
        go_enter Try.func39, Try.ntmps39
        go_wp2_with fail
        refine (HI.out _ (HE.out.below (alloc_below _ _))).mono ?_
        rintro r w1 ⟨rfl, b1⟩
        have B1 := hid (bw_start w n ⟨⟨po, P, pc⟩, ⟨lo, L, lc⟩⟩ 25)
        replace B1 := hid (B1.out.below b1)
        obtain ⟨x0, x1, x2, xf⟩ := B1.out.box
        clear b1
        go_wp2_with fail
        go_ret
        exact ⟨ret_bool HC.out.symm, B1.out.low⟩
    · have d0 : decide (0 ≤ c) = false := by simp; omega
      rw [d0] at HC
      go_enter Try.func39, Try.ntmps39
      go_wp2_with fail
      refine (HI.out _ (HE.out.below (alloc_below _ _))).mono ?_
      rintro r w1 ⟨rfl, b1⟩
      have B1 := hid (q_trans (alloc_below _ _) b1)
      clear b1
      go_wp2_with fail
      go_ret
      exact ⟨ret_bool HC.out.symm, B1.out⟩
theorem is_core {y : WE} {e : E} {c : Int} {Av : Nat → Prop} {w : World} {r : Bool} (hs : Sm e) (h : HasE w Av y e) (hr : coB e c = r) : Calls Try.prog 39 #[(.agg #[.int .i64 e.now, .slice y.p.o y.p.n y.p.c, .slice y.l.o y.l.n y.l.c]), .int .i64 c] w fun v w' => v = .returned (.bool r) ∧ Below w.heap.size w w' := hr ▸ hasCore_any y e c Av w hs h
end Go.Proofs.Ytejghoncihdfkaa.Ep
