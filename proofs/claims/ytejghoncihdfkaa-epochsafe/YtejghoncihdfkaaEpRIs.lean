/- What the document's Is does. -/
import Derived.Test.YtejghoncihdfkaaEpMem
import Derived.Deep.Cut
import Derived.Deep.CutRange
import Derived.Laws.NewBlocks
import Derived.Deep.RegionHeld3
namespace Go.Proofs.Ytejghoncihdfkaa.Ep
open Go.RowKit

theorem beq_no {a b : Int} (h : ¬ a = b) : (a == b) = false := by simp [h]
theorem beq_yes {a b : Int} (h : a = b) : (a == b) = true := by simp [h]
theorem bne_no {a b : Int} (h : a = b) : (a != b) = false := by simp [h]
theorem bne_yes {a b : Int} (h : ¬ a = b) : (a != b) = true := by simp [h]
/-- No list is too long for what is asked. -/
structure Sm (e : E) : Prop where
  p : e.pins.length ≤ 70
  l : e.lim.length ≤ 70
  each : ∀ c, c < e.lim.length → (e.lim.getD c []).length ≤ 30
theorem sm_ok {e : E} (h : Ok e) : Sm e := by
  refine ⟨by have := h.most; omega, by have := h.most; have := h.len; omega, fun c hc => ?_⟩
  have := (okL_iff.1 (h.wait c (by rw [← h.len]; exact hc))).1
  omega
/-- What the loop knows: all ahead of k may be. -/
def UpTo (e : E) (k : Nat) : Prop := ∀ c, c < k → okP e.now (e.pins.getD c 0) = true ∧ okL e.now (e.lim.getD c []) = true
/-- .. of one list. -/
def UpL (now : Int) (l : List W) (i : Nat) : Prop := ∀ j, j < i → okW now (l.getD j (0, 0)) = true ∧ (0 < j → (l.getD (j - 1) (0, 0)).2 ≤ (l.getD j (0, 0)).2)
theorem upL_ok {now : Int} {l : List W} (h8 : l.length ≤ 8) (h : UpL now l l.length) : okL now l = true := by
  refine okL_iff.2 ⟨h8, fun a ha => ?_, nf_steps fun i hi => ?_⟩
  · obtain ⟨i, hi, rfl⟩ := List.getElem_of_mem ha
    have := (h i hi).1
    rwa [get_lt hi] at this
  · have := (h (i + 1) hi).2 (by omega)
    simpa using this
theorem upTo_step {e : E} {k : Nat} (h : UpTo e k) (h1 : okP e.now (e.pins.getD k 0) = true) (h2 : okL e.now (e.lim.getD k []) = true) : UpTo e (k + 1) := by
  intro c hc
  by_cases e1 : c = k
  · subst e1; exact ⟨h1, h2⟩
  · exact h c (by omega)
theorem upL_step {now : Int} {l : List W} {i : Nat} (h : UpL now l i) (h1 : okW now (l.getD i (0, 0)) = true) (h2 : 0 < i → (l.getD (i - 1) (0, 0)).2 ≤ (l.getD i (0, 0)).2) : UpL now l (i + 1) := by
  intro j hj
  by_cases e1 : j = i
  · subst e1; exact ⟨h1, h2⟩
  · exact h j (by omega)
theorem not_pin {e : E} {k : Nat} (hk : k < e.pins.length) (h : okP e.now (e.pins.getD k 0) = false) : okE e = false := by
  rw [ok_not]
  intro ho
  rw [ho.pin k hk] at h
  cases h
theorem not_lim {e : E} {k : Nat} (hk : k < e.pins.length) (h : okL e.now (e.lim.getD k []) = false) : okE e = false := by
  rw [ok_not]
  intro ho
  rw [ho.wait k hk] at h
  cases h
theorem okL_long {now : Int} {l : List W} (h : ¬ l.length ≤ 8) : okL now l = false := by
  cases hh : okL now l with
  | false => rfl
  | true => exact absurd (okL_iff.1 hh).1 h
theorem okL_bad {now : Int} {l : List W} {i : Nat} (hi : i < l.length) (h : okW now (l.getD i (0, 0)) = false) : okL now l = false := by
  cases hh : okL now l with
  | false => rfl
  | true =>
    rw [get_lt hi, (okL_iff.1 hh).2.1 _ (List.getElem_mem hi)] at h
    cases h
theorem okL_falls {now : Int} {l : List W} {i : Nat} (hi : i < l.length) (h : ¬ (l.getD (i - 1) (0, 0)).2 ≤ (l.getD i (0, 0)).2) : okL now l = false := by
  cases hh : okL now l with
  | false => rfl
  | true => exact absurd (nf_at (okL_iff.1 hh).2.2 (by omega) hi) h
/-- The box of the argument, in each world. -/
structure Bw (w wr : World) (n : Int) (y : WE) : Prop where
  low : Below w.heap.size w wr
  box : InE wr w.heap.size n y
theorem bw_start (w : World) (n : Int) (y : WE) (T : TypeId) : Bw w (w.alloc (.cells #[.int .i64 n, .slice y.p.o y.p.n y.p.c, .slice y.l.o y.l.n y.l.c] T)) n y := ⟨alloc_below _ _, inE_new w n y T⟩
theorem Bw.below {w wr w' : World} {n : Int} {y : WE} (h : Bw w wr n y) (k : Below wr.heap.size wr w') : Bw w w' n y := ⟨q_trans h.low k, h.box.below k⟩
theorem Bw.drewN {w wr : World} {n : Int} {y : WE} (h : Bw w wr n y) (k : Nat) : Bw w (wr.drewN k) n y := h.below (q_drewN (Below.refl _ _) k)
/-- Whether one that waits is bad, behind the one ahead of it. -/
def badW (n : Int) (z p : W) (i : Nat) : Bool := !(okW n z && (decide (i = 0) || decide (p.2 ≤ z.2)))
/-- Whether a core's row is bad. -/
def badC (n p : Int) (m : Nat) : Bool := !(okP n p && decide (m ≤ 8))
set_option maxRecDepth 100000 in
set_option maxHeartbeats 2000000 in
theorem ris_main (y : WE) (e : E) (Av : Nat → Prop) (w : World) (h1 : 1 ≤ e.pins.length) (h2 : e.pins.length ≤ 64) (h3 : e.lim.length = e.pins.length) (h4 : 1 ≤ e.now) (h5 : e.now ≤ 1099511627776) (HS : Hid (Sm e)) (HE : Hid (HasE w Av y e)) :
    Calls Try.prog 19 #[(.agg #[.int .i64 e.now, .slice y.p.o y.p.n y.p.c, .slice y.l.o y.l.n y.l.c])] w fun r w' => r = .returned (.bool (okE e)) ∧ Below w.heap.size w w' := by
  obtain ⟨⟨po, P, pc⟩, ⟨lo, Q, lc⟩⟩ := y
  obtain ⟨n, hn⟩ : ∃ n, e.now = n := ⟨_, rfl⟩
  have e1 : P = e.pins.length := HE.out.pn
  have e2 : Q = e.lim.length := HE.out.ln
  rw [h3, ← e1] at e2
  subst e2
  rw [← e1] at h1 h2 h3
  rw [hn] at h4 h5 ⊢
  have HN := hid hn
  have HP := hid e1
  have HQ := hid h3
  clear hn e1 h3
  go_enter Try.func19, Try.ntmps19
  have b1 : ((Q : Int) != (Q : Int)) = false := by simp
  go_wp2_with fail
  have HB := hid (bw_start w n ⟨⟨po, Q, pc⟩, ⟨lo, Q, lc⟩⟩ 25)
  go_loopw [3] (fun i wr => ∃ k : Nat, k ≤ Q ∧ i = .int .i64 k ∧ Hid (UpTo e k) ∧ Hid (Bw w wr n ⟨⟨po, Q, pc⟩, ⟨lo, Q, lc⟩⟩)) (fun i _ => Q - (intOf i).toNat)
  case atStart => exact ⟨0, Nat.zero_le _, rfl, fun c hc => absurd hc (by omega), HB⟩
  case round =>
    obtain ⟨k, hk, rfl, HU, HW⟩ := hrel
    clear HB
    obtain ⟨x0, x1, x2, xf⟩ := HW.out.box
    by_cases hlt : k < Q
    · have i1 : (0 : Int) ≤ (k : Int) := by omega
      have i2 : (k : Int) < (Q : Int) := by omega
      obtain ⟨a, ea, ca⟩ := (HE.out.below HW.out.low).pin k (by have := HP.out; omega)
      obtain ⟨b, lo', m, lc', eb, cb, hw, _⟩ := (HE.out.below HW.out.low).list k (by have := HQ.out; omega)
      obtain rfl : po = some a := ea
      obtain rfl : lo = some b := eb
      obtain ⟨q, hq⟩ : ∃ q, e.pins.getD k 0 = q := ⟨_, rfl⟩
      rw [hq] at ca
      have HPq := hid hq
      have HWk := hid hw
      have HM : Hid (m ≤ 30) := by have := HS.out.each k (by have := HQ.out; omega); rw [← HWk.out.len] at this; exact this
      clear hq hw
      go_upto_region 2 with fail
      have hm : m ≤ 30 := HM.out
      go_cut [77] from 42 to 77 (fun c wx => c = .bool (badC n q m) ∧ Hid (∃ d, wx = wr.drewN d))
      case first =>
        by_cases hm8 : m ≤ 8
        · have dm : decide ((8 : Int) < (m : Int)) = false := by simp; omega
          by_cases q0 : q = 0
          · have HBad : Hid (badC n q m = false) := by simp [Hid, badC, okP, q0, hm8]
            have d0 := bne_no q0
            clear q0
            go_quiet (fail)
            go_wp2
            go_meet
            exact ⟨congrArg Value.bool HBad.out.symm, _, rfl⟩
          · have d0 := bne_yes q0
            by_cases q1 : q = n
            · have HBad : Hid (badC n q m = false) := by simp [Hid, badC, okP, q1, hm8]
              have d1 := bne_no q1
              clear q0 q1
              go_quiet (fail)
              go_wp2
              go_meet
              exact ⟨congrArg Value.bool HBad.out.symm, _, rfl⟩
            · have d1 := bne_yes q1
              by_cases q2 : q = n + 1
              · have HBad : Hid (badC n q m = false) := by simp [Hid, badC, okP, q2, hm8]
                have d2 := bne_no q2
                clear q0 q1 q2
                go_quiet (fail)
                go_wp2
                go_meet
                exact ⟨congrArg Value.bool HBad.out.symm, _, rfl⟩
              · have HBad : Hid (badC n q m = true) := by simp [Hid, badC, okP, q0, q1, q2]
                have d2 := bne_yes q2
                clear q0 q1 q2
                go_quiet (fail)
                go_wp2
                go_meet
                exact ⟨congrArg Value.bool HBad.out.symm, _, rfl⟩
        · have HBad : Hid (badC n q m = true) := by simp [Hid, badC, hm8]
          have dm : decide ((8 : Int) < (m : Int)) = true := by simp; omega
          by_cases q0 : q = 0
          · have d0 := bne_no q0
            clear q0
            go_quiet (fail)
            go_wp2
            go_meet
            exact ⟨congrArg Value.bool HBad.out.symm, _, rfl⟩
          · have d0 := bne_yes q0
            by_cases q1 : q = n
            · have d1 := bne_no q1
              clear q0 q1
              go_quiet (fail)
              go_wp2
              go_meet
              exact ⟨congrArg Value.bool HBad.out.symm, _, rfl⟩
            · have d1 := bne_yes q1
              by_cases q2 : q = n + 1
              · have d2 := bne_no q2
                clear q0 q1 q2
                go_quiet (fail)
                go_wp2
                go_meet
                exact ⟨congrArg Value.bool HBad.out.symm, _, rfl⟩
              · have d2 := bne_yes q2
                clear q0 q1 q2
                go_quiet (fail)
                go_wp2
                go_meet
                exact ⟨congrArg Value.bool HBad.out.symm, _, rfl⟩
      case rest =>
        obtain ⟨rfl, HD⟩ := hcut
        obtain ⟨dd, hdd⟩ := HD.out
        subst hdd
        have HCB : Hid ((wr.drewN dd).cell? (b.add k) = some (.slice lo' m lc')) := cb
        clear HD x0 x1 x2 xf ca cb
        replace HW := hid (HW.out.drewN dd)
        replace HWk : Hid (HasW (wr.drewN dd) lo' m lc' (e.lim.getD k [])) := HWk.out.below (q_drewN (Below.refl _ _) dd)
        generalize wr.drewN dd = wd at HW HWk HCB ⊢
        cases hbad : badC n q m with
        | true =>
          have HF : Hid (okE e = false) := by
            unfold badC at hbad
            by_cases hm8 : m ≤ 8
            · refine not_pin (k := k) (by have := HP.out; omega) ?_
              rw [HN.out, HPq.out]
              simpa [hm8] using hbad
            · exact not_lim (k := k) (by have := HP.out; omega) (okL_long (by rw [← HWk.out.len]; exact hm8))
          clear hbad
          go_wp2_with fail
          go_ret
          exact ⟨ret_bool HF.out.symm, HW.out.low⟩
        | false =>
          have HG : Hid (okP n q = true ∧ m ≤ 8) := by
            unfold Hid
            unfold badC at hbad
            simpa using hbad
          clear hbad
          obtain ⟨l, hl⟩ : ∃ l, e.lim.getD k [] = l := ⟨_, rfl⟩
          rw [hl] at HWk
          have HLk := hid hl
          clear hl
          obtain ⟨y0, y1, y2, yf⟩ := HW.out.box
          have cb := HCB.out
          go_wp2_with fail
          clear y0 y1 y2 yf cb
          go_loopw [4] (fun s4 wq => ∃ i : Nat, i ≤ m ∧ s4 = .int .i64 i ∧ Hid (UpL n l i) ∧ Hid (Below wd.heap.size wd wq)) (fun s _ => m - (intOf s).toNat)
          case atStart => exact ⟨0, Nat.zero_le _, rfl, fun j hj => absurd hj (by omega), Below.refl _ _⟩
          case round =>
            obtain ⟨i, hi, rfl, HUi, HBi⟩ := hrel
            have HW2 := hid (HW.out.below HBi.out)
            obtain ⟨y0, y1, y2, yf⟩ := HW2.out.box
            have cb := (HBi.out.cell (World.block_lt_of_cell? _ _ HCB.out)).trans HCB.out
            by_cases hi2 : i < m
            · have j1 : (0 : Int) ≤ (i : Int) := by omega
              have j2 : (i : Int) < (m : Int) := by omega
              have HWi := hid (HWk.out.below HBi.out)
              obtain ⟨a2, e3, cz⟩ := atW_of HWi.out.row i (by have := HWi.out.len; omega)
              subst e3
              obtain ⟨z, hz⟩ : ∃ z, l.getD i (0, 0) = z := ⟨_, rfl⟩
              obtain ⟨p, hp⟩ : ∃ p, l.getD (i - 1) (0, 0) = p := ⟨_, rfl⟩
              have HP2 : Hid (0 < i → l.getD (i - 1) (0, 0) = p) := fun _ => hp
              rw [hz] at cz
              have HZ := hid hz
              have HPv := hid hp
              clear hz hp
              obtain ⟨c0, c1⟩ := cz
              have hlt2 : w.heap.size < wr.heap.size := HW2.out.box.lt
              go_upto_region 3 with fail
              have BA := hid (alloc_below wr (.cells #[.int .i64 z.1, .int .i64 z.2] 51))
              have AZ := hid (at_new wr z 51)
              have HW3 := hid (HW2.out.below BA.out)
              have HBi3 := hid (q_trans HBi.out BA.out)
              replace HWi := hid (HWi.out.below BA.out)
              replace cb := (BA.out.cell (World.block_lt_of_cell? _ _ cb)).trans cb
              generalize hbk : wr.heap.size = zb at AZ hlt2 ⊢
              generalize wr.alloc (.cells #[.int .i64 z.1, .int .i64 z.2] 51) = W3 at BA AZ HW3 HBi3 HWi cb ⊢
              clear y0 y1 y2 yf c0 c1 BA hbk hlt2 HW2
              obtain ⟨y0, y1, y2, yf⟩ := HW3.out.box
              obtain ⟨v0, v1⟩ := AZ.out
              go_cut [134] from 96 to 134 (fun c wx => c = .bool (badW n z p i) ∧ Hid (∃ d, wx = W3.drewN d))
              case first =>
                by_cases z1 : z.1 < 0
                · have HBad : Hid (badW n z p i = true) := by simp [Hid, badW, okW_not.2 (show ¬ (0 ≤ z.1 ∧ z.1 ≤ 63 ∧ 1 ≤ z.2 ∧ z.2 ≤ n) by omega)]
                  go_quiet (fail)
                  go_wp2
                  go_meet
                  exact ⟨congrArg Value.bool HBad.out.symm, _, rfl⟩
                · have e1 : decide (z.1 < 0) = false := by simp; omega
                  by_cases z2 : 64 ≤ z.1
                  · have HBad : Hid (badW n z p i = true) := by simp [Hid, badW, okW_not.2 (show ¬ (0 ≤ z.1 ∧ z.1 ≤ 63 ∧ 1 ≤ z.2 ∧ z.2 ≤ n) by omega)]
                    have e2 : decide ((64 : Int) ≤ z.1) = true := by simp; omega
                    go_quiet (fail)
                    go_wp2
                    go_meet
                    exact ⟨congrArg Value.bool HBad.out.symm, _, rfl⟩
                  · have e2 : decide ((64 : Int) ≤ z.1) = false := by simp; omega
                    by_cases z3 : z.2 < 1
                    · have HBad : Hid (badW n z p i = true) := by simp [Hid, badW, okW_not.2 (show ¬ (0 ≤ z.1 ∧ z.1 ≤ 63 ∧ 1 ≤ z.2 ∧ z.2 ≤ n) by omega)]
                      have e3 : decide (z.2 < 1) = true := by simp; omega
                      go_quiet (fail)
                      go_wp2
                      go_meet
                      exact ⟨congrArg Value.bool HBad.out.symm, _, rfl⟩
                    · have e3 : decide (z.2 < 1) = false := by simp; omega
                      by_cases z4 : n < z.2
                      · have HBad : Hid (badW n z p i = true) := by simp [Hid, badW, okW_not.2 (show ¬ (0 ≤ z.1 ∧ z.1 ≤ 63 ∧ 1 ≤ z.2 ∧ z.2 ≤ n) by omega)]
                        have e4 : decide (n < z.2) = true := by simp; omega
                        go_quiet (fail)
                        go_wp2
                        go_meet
                        exact ⟨congrArg Value.bool HBad.out.symm, _, rfl⟩
                      · have e4 : decide (n < z.2) = false := by simp; omega
                        have hok : okW n z = true := okW_iff.2 (by omega)
                        have HOk := hid hok
                        clear hok
                        by_cases hi0 : 0 < i
                        · have d0 : decide ((0 : Int) < (i : Int)) = true := by simp; omega
                          have j3 : (0 : Int) ≤ (i : Int) - 1 := by omega
                          have j4 : (i : Int) - 1 < (m : Int) := by omega
                          obtain ⟨a3, e5, cp⟩ := atW_of (HWi.out.row) (i - 1) (by have := HWi.out.len; omega)
                          cases e5
                          obtain ⟨g0, g1⟩ := cp
                          have HPp : Hid (l.getD (i - 1) (0, 0) = p) := HP2.out hi0
                          rw [HPp.out] at g0 g1
                          by_cases z5 : p.2 ≤ z.2
                          · have HBad : Hid (badW n z p i = false) := by simp [Hid, badW, HOk.out, z5]
                            have e6 : decide (z.2 < p.2) = false := by simp; omega
                            go_quiet (fail)
                            go_wp2
                            go_meet
                            exact ⟨congrArg Value.bool HBad.out.symm, _, rfl⟩
                          · have hne0 : ¬ i = 0 := by omega
                            have HBad : Hid (badW n z p i = true) := by simp [Hid, badW, z5, hne0]
                            have e6 : decide (z.2 < p.2) = true := by simp; omega
                            go_quiet (fail)
                            go_wp2
                            go_meet
                            exact ⟨congrArg Value.bool HBad.out.symm, _, rfl⟩
                        · have hz : i = 0 := by omega
                          have HBad : Hid (badW n z p i = false) := by simp [Hid, badW, HOk.out, hz]
                          have d0 : decide ((0 : Int) < (i : Int)) = false := by simp; omega
                          have d1 : decide (0 < i) = false := by simp; omega
                          clear hz
                          go_quiet (fail)
                          go_wp2
                          go_meet
                          exact ⟨congrArg Value.bool HBad.out.symm, _, rfl⟩
              case rest =>
                obtain ⟨rfl, HD⟩ := hcut
                obtain ⟨d2, hd2⟩ := HD.out
                subst hd2
                clear HD y0 y1 y2 yf v0 v1 cb
                replace HW3 := hid (HW3.out.drewN d2)
                replace HBi3 := hid (q_drewN HBi3.out d2)
                generalize W3.drewN d2 = W4 at HW3 HBi3 ⊢
                cases hbad : badW n z p i with
                | true =>
                  have HF : Hid (okE e = false) := by
                    refine not_lim (k := k) (by have := HP.out; omega) ?_
                    rw [HN.out, HLk.out]
                    unfold badW at hbad
                    by_cases hok : okW n z = true
                    · refine okL_falls (i := i) (by rw [← HWk.out.len]; exact hi2) ?_
                      rw [HZ.out, HPv.out]
                      rw [hok] at hbad
                      simp at hbad
                      omega
                    · exact okL_bad (i := i) (by rw [← HWk.out.len]; exact hi2) (by rw [HZ.out]; simpa using hok)
                  clear hbad
                  go_wp2_with fail
                  go_ret
                  exact ⟨ret_bool HF.out.symm, HW3.out.low⟩
                | false =>
                  have HG2 : Hid (okW n z = true ∧ (0 < i → p.2 ≤ z.2)) := by
                    unfold Hid
                    unfold badW at hbad
                    simp at hbad
                    exact ⟨hbad.1, fun h => hbad.2 (by omega)⟩
                  clear hbad
                  go_wp2_with fail
                  go_roundw
                  case rel => exact ⟨i + 1, by omega, by go_num, upL_step HUi.out (by rw [HZ.out]; exact HG2.out.1) (fun h => by rw [HZ.out, HPv.out]; exact HG2.out.2 h), HBi3⟩
                  case measure => simp [intOf]; omega
            · obtain rfl : i = m := by omega
              go_wp2_with fail
              go_roundw
              case rel =>
                refine ⟨k + 1, by omega, by go_num, upTo_step HU.out ?_ ?_, HW2⟩
                · rw [HN.out, HPq.out]; exact HG.out.1
                · rw [HN.out, HLk.out]; exact upL_ok (by rw [← HWk.out.len]; exact HG.out.2) (by rw [← HWk.out.len]; exact HUi.out)
              case measure => simp [intOf]; omega
    · have HOk : Hid (okE e = true) := by
        have hk2 : k = e.pins.length := by have := HP.out; omega
        refine ok_iff.2 ⟨by have := HP.out; omega, by have := HP.out; omega, by rw [HQ.out]; exact HP.out, by rw [HN.out]; exact h4, by rw [HN.out]; exact h5, fun c hc => ?_, fun c hc => ?_⟩
        · exact (HU.out c (by omega)).1
        · exact (HU.out c (by omega)).2
      go_wp2_with fail
      go_ret
      exact ⟨ret_bool HOk.out.symm, HW.out.low⟩
set_option maxRecDepth 100000 in
set_option maxHeartbeats 2000000 in
/-- IS: WHETHER EPOCHS MAY BE (the document's). -/
theorem ris_any (y : WE) (e : E) (Av : Nat → Prop) (w : World) (HS : Hid (Sm e)) (HE : Hid (HasE w Av y e)) :
    Calls Try.prog 19 #[(.agg #[.int .i64 e.now, .slice y.p.o y.p.n y.p.c, .slice y.l.o y.l.n y.l.c])] w fun r w' => r = .returned (.bool (okE e)) ∧ Below w.heap.size w w' := by
  by_cases h : 1 ≤ e.pins.length ∧ e.pins.length ≤ 64 ∧ e.lim.length = e.pins.length ∧ 1 ≤ e.now ∧ e.now ≤ 1099511627776
  · obtain ⟨h1, h2, h3, h4, h5⟩ := h
    exact ris_main y e Av w h1 h2 h3 h4 h5 HS HE
  · have HF : Hid (okE e = false) := by
      rw [Hid, ok_not]
      intro ho
      exact h ⟨ho.one, ho.most, ho.len, ho.now1, ho.now2⟩
    obtain ⟨⟨po, P, pc⟩, ⟨lo, Q, lc⟩⟩ := y
    obtain ⟨n, hn⟩ : ∃ n, e.now = n := ⟨_, rfl⟩
    have e1 : P = e.pins.length := HE.out.pn
    have e2 : Q = e.lim.length := HE.out.ln
    have p70 := HS.out.p
    have q70 := HS.out.l
    rw [← e1, ← e2, hn] at h
    rw [← e1] at p70
    rw [← e2] at q70
    rw [hn]
    clear e1 e2 hn HS HE
    by_cases h1 : 1 ≤ P
    · by_cases h2 : P ≤ 64
      · by_cases h3 : Q = P
        · subst h3
          have b1 : ((Q : Int) != (Q : Int)) = false := by simp
          by_cases h4 : 1 ≤ n
          · have h5 : ¬ n ≤ 1099511627776 := fun h5 => h ⟨h1, h2, rfl, h4, h5⟩
            clear h
            go_enter Try.func19, Try.ntmps19
            go_wp2_with fail
            go_ret
            exact ⟨ret_bool HF.out.symm, alloc_below _ _⟩
          · clear h
            go_enter Try.func19, Try.ntmps19
            go_wp2_with fail
            go_ret
            exact ⟨ret_bool HF.out.symm, alloc_below _ _⟩
        · have b1 : ((Q : Int) != (P : Int)) = true := by simp; omega
          clear h h3
          go_enter Try.func19, Try.ntmps19
          go_wp2_with fail
          go_ret
          exact ⟨ret_bool HF.out.symm, alloc_below _ _⟩
      · clear h
        go_enter Try.func19, Try.ntmps19
        go_wp2_with fail
        go_ret
        exact ⟨ret_bool HF.out.symm, alloc_below _ _⟩
    · clear h
      go_enter Try.func19, Try.ntmps19
      go_wp2_with fail
      go_ret
      exact ⟨ret_bool HF.out.symm, alloc_below _ _⟩
theorem is_ris {y : WE} {e : E} {Av : Nat → Prop} {w : World} {r : Bool} (hs : Sm e) (h : HasE w Av y e) (hr : okE e = r) : Calls Try.prog 19 #[(.agg #[.int .i64 e.now, .slice y.p.o y.p.n y.p.c, .slice y.l.o y.l.n y.l.c])] w fun v w' => v = .returned (.bool r) ∧ Below w.heap.size w w' := hr ▸ ris_any y e Av w hs h
end Go.Proofs.Ytejghoncihdfkaa.Ep
