/- What Check and hasLive do. -/
import Derived.Test.YtnagpedkmfmniaaArW5
namespace Go.Proofs.Ytnagpedkmfmniaa.Ar
open Go.RowKit Go.Proofs.Ytnagpedkmfmniaa.Ha

/-- The box of an arena that was handed over, and all that was there. -/
structure Bx (w W : World) (x : Wh) : Prop where
  low : Below w.heap.size w W
  box : InA W w.heap.size x
theorem Bx.below {w W W' : World} {x : Wh} (h : Bx w W x) (b : Below W.heap.size W W') : Bx w W' x := ⟨q_trans h.low b, h.box.below b⟩
theorem bx_new (w : World) (x : Wh) : Bx w (w.alloc (.cells #[.slice x.t.o x.t.n x.t.c, .slice x.f.o x.f.n x.f.c] 25)) x := ⟨alloc_below _ _, inA_new w x _⟩
def chkE (a : Ar) : Int := if okA a = true then 0 else 2
theorem chk_yes {a : Ar} (h : Ok a) : chkE a = 0 := if_pos (okA_iff.2 h)
theorem chk_no {a : Ar} (h : ¬ Ok a) : chkE a = 2 := if_neg (fun e => h (okA_iff.1 e))
theorem all_take {l : List Th} {k : Nat} (h : ∀ j, j < k → okTB (l.getD j Th.zero) = true) (h2 : okTB (l.getD k Th.zero) = true) : ∀ j, j < k + 1 → okTB (l.getD j Th.zero) = true := by
  intro j hj
  by_cases e : j = k
  · rw [e]; exact h2
  · exact h j (by omega)
theorem ok_of {a : Ar} (h1 : 1 ≤ a.ts.length) (h2 : a.ts.length ≤ 64) (h3 : 1 ≤ a.fr.length) (h4 : a.fr.length ≤ 64) (h5 : ∀ j, j < a.ts.length → okTB (a.ts.getD j Th.zero) = true) (h6 : plB a = true) : Ok a := by
  refine ⟨h1, h2, h3, h4, fun k hk => okTB_iff.1 (h5 k hk), fun p hp => ?_⟩
  unfold plB at h6
  rw [List.all_eq_true] at h6
  exact okPB_iff.1 (h6 p hp)
theorem pl_of {a : Ar} (h : Ok a) : plB a = true := by
  unfold plB
  rw [List.all_eq_true]
  exact fun p hp => okPB_iff.2 (h.places p hp)
set_option maxRecDepth 100000 in
set_option maxHeartbeats 2000000 in
/-- Check. -/
theorem check_any (x : Wh) (a : Ar) (w : World) (HS : Hid (Sm a)) (HH : Hid (HasA w x a)) :
    Calls Try.prog 15 #[(.agg #[.slice x.t.o x.t.n x.t.c, .slice x.f.o x.f.n x.f.c])] w fun e w' => e = .returned (.int .i64 (chkE a)) ∧ Below w.heap.size w w' := by
  have HFN := hid HH.out.fn
  have HTN := hid HH.out.tn
  by_cases h1 : 1 ≤ x.t.n
  · by_cases h2 : x.t.n ≤ 64
    · by_cases h3 : 1 ≤ x.f.n
      · by_cases h4 : x.f.n ≤ 64
        · obtain ⟨⟨to, tn, tc⟩, ⟨fo, fn, fc⟩⟩ := x
          have h1 : 1 ≤ tn := h1
          have h2 : tn ≤ 64 := h2
          have h3 : 1 ≤ fn := h3
          have h4 : fn ≤ 64 := h4
          go_enter Try.func15, Try.ntmps15
          go_wp2
          go_loopw [30] (fun i wr => ∃ k : Nat, k ≤ tn ∧ i = .int .i64 k ∧ Hid (Bx w wr ⟨⟨to, tn, tc⟩, ⟨fo, fn, fc⟩⟩) ∧ Hid (∀ j, j < k → okTB (a.ts.getD j Th.zero) = true)) (fun i _ => tn - (intOf i).toNat)
          case atStart => exact ⟨0, Nat.zero_le _, rfl, bx_new w ⟨⟨to, tn, tc⟩, ⟨fo, fn, fc⟩⟩, fun j hj => absurd hj (by omega)⟩
          case round =>
            obtain ⟨k, hk, rfl, HB, HO⟩ := hrel
            by_cases hlt : k < tn
            · have i1 : (0 : Int) ≤ (k : Int) := by omega
              have i2 : (k : Int) < (tn : Int) := by omega
              obtain ⟨ta, e, hAt⟩ := HH.out.t.at_ k hlt
              have e : to = some ta := e
              subst e
              obtain ⟨t, ht⟩ : ∃ t, a.ts.getD k Th.zero = t := ⟨_, rfl⟩
              rw [ht] at hAt
              have HTT := hid ht
              obtain ⟨t0, t1, t2, t3, t4, t5, t6, t7⟩ := hAt.below HB.out.low
              clear ht hAt
              go_wp2_with fail
              refine (maybe_any t _).mono ?_
              rintro e w2 ⟨rfl, b2⟩
              have HB := hid ((HB.out.below (alloc_below _ _)).below b2)
              clear b2 t0 t1 t2 t3 t4 t5 t6 t7
              cases hb : okTB t with
              | true =>
                have HO := hid (all_take HO.out (by rw [HTT.out]; exact hb))
                clear hb
                go_wp2_with fail
                go_roundw
                case rel => exact ⟨k + 1, by omega, by go_num, HB, HO⟩
                case measure => simp [intOf]; omega
              | false =>
                have HR := hid (chk_no (a := a) (fun h => by
                  have := okTB_iff.2 (h.things k (by have := HTN.out; omega))
                  rw [HTT.out, hb] at this
                  cases this))
                clear hb
                go_wp2_with fail
                go_ret
                exact ⟨ret_int HR.out.symm, HB.out.low⟩
            · obtain rfl : k = tn := by omega
              have HC := hid (once_any ⟨⟨to, k, tc⟩, ⟨fo, fn, fc⟩⟩ a wr (by have := HTN.out; exact (by omega : a.ts.length ≤ 64)) HS (HH.out.below HB.out.low))
              obtain ⟨c0, c1, cf⟩ := HB.out.box
              go_wp2_with fail
              refine HC.out.mono ?_
              rintro e w2 ⟨rfl, b2⟩
              have HB := hid (HB.out.below b2)
              clear b2 c0 c1 cf HC
              cases hb : plB a with
              | true =>
                have HR := hid (chk_yes (a := a) (ok_of (by have := HTN.out; omega) (by have := HTN.out; omega) (by have := HFN.out; omega) (by have := HFN.out; omega) (fun j hj => HO.out j (by have := HTN.out; omega)) hb))
                clear hb
                go_wp2_with fail
                go_ret
                exact ⟨ret_int HR.out.symm, HB.out.low⟩
              | false =>
                have HR := hid (chk_no (a := a) (fun h => by rw [pl_of h] at hb; cases hb))
                clear hb
                go_wp2_with fail
                go_ret
                exact ⟨ret_int HR.out.symm, HB.out.low⟩
        · have HR := hid (chk_no (a := a) (fun h => h4 (by have := h.f1; have := HFN.out; omega)))
          go_enter Try.func15, Try.ntmps15
          go_wp2
          go_ret
          exact ⟨ret_int HR.out.symm, alloc_below _ _⟩
      · have HR := hid (chk_no (a := a) (fun h => h3 (by have := h.f0; have := HFN.out; omega)))
        go_enter Try.func15, Try.ntmps15
        go_wp2
        go_ret
        exact ⟨ret_int HR.out.symm, alloc_below _ _⟩
    · have HR := hid (chk_no (a := a) (fun h => h2 (by have := h.t1; have := HTN.out; omega)))
      go_enter Try.func15, Try.ntmps15
      go_wp2
      go_ret
      exact ⟨ret_int HR.out.symm, alloc_below _ _⟩
  · have HR := hid (chk_no (a := a) (fun h => h1 (by have := h.t0; have := HTN.out; omega)))
    go_enter Try.func15, Try.ntmps15
    go_wp2
    go_ret
    exact ⟨ret_int HR.out.symm, alloc_below _ _⟩
/-- Whether the arena may be, and has something at the place. -/
def hlB (a : Ar) (p : Int) : Bool := decide (okA a = true ∧ 0 ≤ p ∧ p < a.ts.length ∧ liveT (at_ a.ts p) = true)
theorem hl_yes {a : Ar} {p : Int} (h : Ok a) (h0 : 0 ≤ p) (h1 : p < a.ts.length) (h2 : liveT (at_ a.ts p) = true) : hlB a p = true := decide_eq_true ⟨okA_iff.2 h, h0, h1, h2⟩
theorem hl_iff {a : Ar} {p : Int} : hlB a p = true ↔ (Ok a ∧ 0 ≤ p ∧ p < a.ts.length ∧ liveT (at_ a.ts p) = true) := by unfold hlB; rw [decide_eq_true_iff, okA_iff]
theorem hl_no {a : Ar} {p : Int} (h : ¬ (Ok a ∧ 0 ≤ p ∧ p < a.ts.length ∧ liveT (at_ a.ts p) = true)) : hlB a p = false := by rw [← hl_iff] at h; simpa using h
theorem zero0 : ((0 : Int) == 0) = true := rfl
theorem two0 : ((2 : Int) == 0) = false := rfl
set_option maxRecDepth 100000 in
set_option maxHeartbeats 1000000 in
/-- hasLive. -/
theorem haslive_any (x : Wh) (a : Ar) (p : Int) (w : World) (HS : Hid (Sm a)) (HH : Hid (HasA w x a)) :
    Calls Try.prog 49 #[(.agg #[.slice x.t.o x.t.n x.t.c, .slice x.f.o x.f.n x.f.c]), .int .i64 p] w fun e w' => e = .returned (.bool (hlB a p)) ∧ Below w.heap.size w w' := by
  obtain ⟨⟨to, tn, tc⟩, ⟨fo, fn, fc⟩⟩ := x
  have HTN := hid HH.out.tn
  have HB := hid (bx_new w ⟨⟨to, tn, tc⟩, ⟨fo, fn, fc⟩⟩)
  have HC := hid (check_any ⟨⟨to, tn, tc⟩, ⟨fo, fn, fc⟩⟩ a _ HS (HH.out.below HB.out.low))
  go_enter Try.func49, Try.ntmps49
  go_wp2_with fail
  refine HC.out.mono ?_
  rintro e w1 ⟨rfl, b1⟩
  have HB := hid (HB.out.below b1)
  clear b1 HC
  by_cases hok : Ok a
  · rw [chk_yes hok]
    have HO := hid hok
    clear hok
    obtain ⟨c0, c1, cf⟩ := HB.out.box
    go_wp2_with fail
    refine (there_any ⟨⟨to, tn, tc⟩, ⟨fo, fn, fc⟩⟩ p _).mono ?_
    rintro e w2 ⟨rfl, b2⟩
    have HB := hid (HB.out.below b2)
    clear b2 c0 c1 cf
    by_cases hin : 0 ≤ p ∧ p < (tn : Int)
    · rw [thB_yes hin]
      obtain ⟨q, rfl⟩ : ∃ q : Nat, p = (q : Int) := ⟨p.toNat, by omega⟩
      obtain ⟨q1, q2⟩ := hin
      obtain ⟨ta, e, hAt⟩ := HH.out.t.at_ q (by show q < tn; omega)
      have e : to = some ta := e
      subst e
      obtain ⟨t, ht⟩ : ∃ t, a.ts.getD q Th.zero = t := ⟨_, rfl⟩
      rw [ht] at hAt
      have HR : Hid (hlB a (q : Int) = liveT t) := by
        have hq : (q : Int) < a.ts.length := by have := HTN.out; omega
        cases hb : liveT t with
        | true => exact hl_yes HO.out q1 hq (by rw [at_nat, ht]; exact hb)
        | false => exact hl_no (fun k => by have := k.2.2.2; rw [at_nat, ht, hb] at this; cases this)
      obtain ⟨t0, t1, t2, t3, t4, t5, t6, t7⟩ := hAt.below HB.out.low
      obtain ⟨c0, c1, cf⟩ := HB.out.box
      clear ht hAt
      go_wp2_with fail
      refine (live_any t _).mono ?_
      rintro e w3 ⟨rfl, b3⟩
      have HB := hid (HB.out.below b3)
      clear b3 c0 c1 cf t0 t1 t2 t3 t4 t5 t6 t7
      go_wp2_with fail
      go_ret
      exact ⟨ret_bool HR.out.symm, HB.out.low⟩
    · rw [thB_no hin]
      have HR := hid (hl_no (a := a) (p := p) (fun k => hin ⟨k.2.1, by have := k.2.2.1; have := HTN.out; omega⟩))
      clear hin
      go_wp2_with fail
      go_ret
      exact ⟨ret_bool HR.out.symm, HB.out.low⟩
  · rw [chk_no hok]
    have HR := hid (hl_no (a := a) (p := p) (fun k => hok k.1))
    clear hok
    go_wp2_with fail
    go_ret
    exact ⟨ret_bool HR.out.symm, HB.out.low⟩
end Go.Proofs.Ytnagpedkmfmniaa.Ar
