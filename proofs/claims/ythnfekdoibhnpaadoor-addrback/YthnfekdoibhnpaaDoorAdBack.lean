/- AddrBack. -/
import Derived.Test.YthnfekdoibhnpaaDoorAdLive
import Derived.Test.YthnfekdoibhnpaaDoorAdRParse
namespace Go.Proofs.YthnfekdoibhnpaaDoor.Ad
open Go.RowKit
open Cp (K)

theorem put_ok {l : List P} (h : okA l = true) : putA l = wrd l ∧ chkA l = 0 := by simp [putA, chkA, h]
theorem chk_bad {l : List P} (h : okA l = false) : chkA l = 120 := by simp [chkA, h]
set_option maxRecDepth 100000 in
set_option maxHeartbeats 1000000 in
theorem back_long (ao : Option Addr) (n cap : Nat) (bo : Option Addr) (m cap' : Nat) (x : Int) (w : World) (h : 20 < n ∨ 20 < m) (HT : Hid (Cp.Tabs w)) :
    Calls Tryd.prog 5 #[.slice ao n cap, .slice bo m cap', .int .u64 x] w fun e w' => e = .returned (.bool true) ∧ Below w.heap.size w w' := by
  by_cases h1 : 20 < n
  · have i1 : (n : Int) > 20 := by omega
    clear h h1
    go_enter Tryd.func5, Tryd.ntmps5
    go_wp2_with fail
    refine (live_any _ HT).mono ?_
    rintro e w1 ⟨rfl, b1⟩
    go_wp2_with fail
    go_ret
    exact ⟨rfl, b1⟩
  · have i1 : ¬ (n : Int) > 20 := by omega
    have i2 : (m : Int) > 20 := by omega
    clear h h1
    go_enter Tryd.func5, Tryd.ntmps5
    go_wp2_with fail
    refine (live_any _ HT).mono ?_
    rintro e w1 ⟨rfl, b1⟩
    go_wp2_with fail
    go_ret
    exact ⟨rfl, b1⟩
set_option maxRecDepth 100000 in
set_option maxHeartbeats 2000000 in
theorem back_in (ao : Option Addr) (n cap : Nat) (l : List P) (bo : Option Addr) (m cap' : Nat) (k : List P) (x : Nat) (w : World) (h1 : n ≤ 20) (h2 : m ≤ 20) (hx : x < 18446744073709551616) (HT : Hid (Cp.Tabs w)) (HL : Hid (HasP w ao n cap l)) (HK : Hid (HasP w bo m cap' k)) :
    Calls Tryd.prog 5 #[.slice ao n cap, .slice bo m cap', .int .u64 (x : Nat)] w fun e w' => e = .returned (.bool true) ∧ Below w.heap.size w w' := by
  have i1 : ¬ (n : Int) > 20 := by omega
  have i2 : ¬ (m : Int) > 20 := by omega
  have HX := hid hx
  have HS : Hid (∀ W : World, Below w.heap.size w W → Calls Tryd.prog 17 #[.slice ao n cap, .slice bo m cap'] W fun e w' => e = .returned (.bool (decide (l = k))) ∧ Below W.heap.size W w') := fun W hW => ssame_any ao bo n m cap cap' l k W (by omega) (HL.out.below hW) (HK.out.below hW)
  clear hx
  go_enter Tryd.func5, Tryd.ntmps5
  go_wp2_with fail
  refine (pPut_any ao n cap l w HL.out).mono ?_
  rintro e w1 ⟨rfl, b1⟩
  replace b1 := hid b1
  go_wp2_with fail
  refine (pPut_any bo m cap' k w1 (HK.out.below b1.out)).mono ?_
  rintro e w2 ⟨rfl, b2⟩
  have HB2 := hid (q_trans b1.out b2)
  clear b1 b2
  cases hl : okA l with
  | false =>
    rw [chk_bad hl]
    cases hk : okA k with
    | false =>
      rw [chk_bad hk]
      clear hl hk
      cases hp : parB x with
      | false =>
        have HY := hid (par_no hp)
        clear hp
        go_wp2_with (go_at_call 14; refine (num_any _ _).mono ?_; rintro e w9 ⟨rfl, rfl⟩)
        refine (pParse_any x _ HX.out).mono ?_
        rintro e w6 ⟨po, pn, pc, rfl, h6, b6⟩
        rw [HY.out.2]
        have hpn : pn = 0 := by have := h6.len; rw [HY.out.1] at this; exact this
        subst hpn
        have HB6 := hid (q_trans HB2.out b6)
        clear b6 h6
        go_wp2_with (first | (go_at_call 14; refine (num_any _ _).mono ?_; rintro e w9 ⟨rfl, rfl⟩) | (go_at_call 9; refine (live_any _ (HT.out.below HB6.out)).mono ?_; rintro e w7 ⟨rfl, b7⟩; have HB7 := hid (q_trans HB6.out b7); clear b7))
        go_ret
        exact ⟨rfl, HB7.out⟩
      | true =>
        have HY := hid (par_yes hp)
        have HF := hid (forth hp)
        clear hp
        go_wp2_with (go_at_call 14; refine (num_any _ _).mono ?_; rintro e w9 ⟨rfl, rfl⟩)
        refine (pParse_any x _ HX.out).mono ?_
        rintro e w6 ⟨po, pn, pc, rfl, h6, b6⟩
        rw [HY.out.2]
        have HP6 := hid h6
        have HB6 := hid (q_trans HB2.out b6)
        clear b6 h6
        have HPt : Hid (Calls Tryd.prog 10 #[.slice po pn pc] w6 fun e w' => e = .returned (.tuple #[.int .u64 (x : Nat), .int .i64 0]) ∧ Below w6.heap.size w6 w') := by
          have := pPut_any po pn pc _ w6 HP6.out
          rwa [show putA (parA x) = x by unfold putA; rw [if_pos HF.out.1, HF.out.2], show chkA (parA x) = 0 by unfold chkA; rw [if_pos HF.out.1]] at this
        have HCk : Hid (∀ W : World, Below w6.heap.size w6 W → Calls Tryd.prog 15 #[.slice po pn pc] W fun e w' => e = .returned (.int .i64 0) ∧ Below W.heap.size W w') := by
          intro W hW
          have := check_any po pn pc _ W (HP6.out.below hW)
          rwa [show chkA (parA x) = 0 by unfold chkA; rw [if_pos HF.out.1]] at this
        go_wp2_with (go_at_call 14; refine (num_any _ _).mono ?_; rintro e w9 ⟨rfl, rfl⟩)
        refine HPt.out.mono ?_
        rintro e w7 ⟨rfl, b7⟩
        have HB7 := hid (q_trans HB6.out b7)
        go_wp2_with (go_at_call 14; refine (num_any _ _).mono ?_; rintro e w9 ⟨rfl, rfl⟩)
        refine (HCk.out _ b7).mono ?_
        rintro e w8 ⟨rfl, b8⟩
        have HB8 := hid (q_trans HB7.out b8)
        clear b7 b8
        go_wp2_with (first | (go_at_call 14; refine (num_any _ _).mono ?_; rintro e w9 ⟨rfl, rfl⟩) | (go_at_call 9; refine (live_any _ (HT.out.below HB8.out)).mono ?_; rintro e w10 ⟨rfl, b10⟩; have HB10 := hid (q_trans HB8.out b10); clear b10))
        go_ret
        exact ⟨rfl, HB10.out⟩
    | true =>
      rw [(put_ok hk).2]
      clear hl hk
      cases hp : parB x with
      | false =>
        have HY := hid (par_no hp)
        clear hp
        go_wp2_with (go_at_call 14; refine (num_any _ _).mono ?_; rintro e w9 ⟨rfl, rfl⟩)
        refine (pParse_any x _ HX.out).mono ?_
        rintro e w6 ⟨po, pn, pc, rfl, h6, b6⟩
        rw [HY.out.2]
        have hpn : pn = 0 := by have := h6.len; rw [HY.out.1] at this; exact this
        subst hpn
        have HB6 := hid (q_trans HB2.out b6)
        clear b6 h6
        go_wp2_with (first | (go_at_call 14; refine (num_any _ _).mono ?_; rintro e w9 ⟨rfl, rfl⟩) | (go_at_call 9; refine (live_any _ (HT.out.below HB6.out)).mono ?_; rintro e w7 ⟨rfl, b7⟩; have HB7 := hid (q_trans HB6.out b7); clear b7))
        go_ret
        exact ⟨rfl, HB7.out⟩
      | true =>
        have HY := hid (par_yes hp)
        have HF := hid (forth hp)
        clear hp
        go_wp2_with (go_at_call 14; refine (num_any _ _).mono ?_; rintro e w9 ⟨rfl, rfl⟩)
        refine (pParse_any x _ HX.out).mono ?_
        rintro e w6 ⟨po, pn, pc, rfl, h6, b6⟩
        rw [HY.out.2]
        have HP6 := hid h6
        have HB6 := hid (q_trans HB2.out b6)
        clear b6 h6
        have HPt : Hid (Calls Tryd.prog 10 #[.slice po pn pc] w6 fun e w' => e = .returned (.tuple #[.int .u64 (x : Nat), .int .i64 0]) ∧ Below w6.heap.size w6 w') := by
          have := pPut_any po pn pc _ w6 HP6.out
          rwa [show putA (parA x) = x by unfold putA; rw [if_pos HF.out.1, HF.out.2], show chkA (parA x) = 0 by unfold chkA; rw [if_pos HF.out.1]] at this
        have HCk : Hid (∀ W : World, Below w6.heap.size w6 W → Calls Tryd.prog 15 #[.slice po pn pc] W fun e w' => e = .returned (.int .i64 0) ∧ Below W.heap.size W w') := by
          intro W hW
          have := check_any po pn pc _ W (HP6.out.below hW)
          rwa [show chkA (parA x) = 0 by unfold chkA; rw [if_pos HF.out.1]] at this
        go_wp2_with (go_at_call 14; refine (num_any _ _).mono ?_; rintro e w9 ⟨rfl, rfl⟩)
        refine HPt.out.mono ?_
        rintro e w7 ⟨rfl, b7⟩
        have HB7 := hid (q_trans HB6.out b7)
        go_wp2_with (go_at_call 14; refine (num_any _ _).mono ?_; rintro e w9 ⟨rfl, rfl⟩)
        refine (HCk.out _ b7).mono ?_
        rintro e w8 ⟨rfl, b8⟩
        have HB8 := hid (q_trans HB7.out b8)
        clear b7 b8
        go_wp2_with (first | (go_at_call 14; refine (num_any _ _).mono ?_; rintro e w9 ⟨rfl, rfl⟩) | (go_at_call 9; refine (live_any _ (HT.out.below HB8.out)).mono ?_; rintro e w10 ⟨rfl, b10⟩; have HB10 := hid (q_trans HB8.out b10); clear b10))
        go_ret
        exact ⟨rfl, HB10.out⟩
  | true =>
    have HPl := hid (back hl)
    have HWl : Hid (wrd l < 18446744073709551616) := by have := wrd_lt hl; unfold Hid; omega
    have HOl := hid hl
    rw [(put_ok hl).1, (put_ok hl).2]
    clear hl
    cases hk : okA k with
    | false =>
      rw [chk_bad hk]
      clear hk
      go_wp2_with (go_at_call 14; refine (num_any _ _).mono ?_; rintro e w9 ⟨rfl, rfl⟩)
      refine (pParse_any (wrd l) _ HWl.out).mono ?_
      rintro e w3 ⟨xo, xn, xc, rfl, h3, b3⟩
      rw [HPl.out.2.2]
      have HX3 : Hid (HasP w3 xo xn xc l) := by rw [HPl.out.2.1] at h3; exact h3
      have HB3 := hid (q_trans HB2.out b3)
      clear b3 h3 HB2
      have HS3 : Hid (Calls Tryd.prog 17 #[.slice xo xn xc, .slice ao n cap] w3 fun e w' => e = .returned (.bool true) ∧ Below w3.heap.size w3 w') := ssame_yes (by have := HX3.out.len; have := HL.out.len; omega) HX3.out (HL.out.below HB3.out)
      go_wp2_with (go_at_call 14; refine (num_any _ _).mono ?_; rintro e w9 ⟨rfl, rfl⟩)
      refine HS3.out.mono ?_
      rintro e w4 ⟨rfl, b4⟩
      have HB4 := hid (q_trans HB3.out b4)
      clear b4 HB3 HS3 HX3
      cases hp : parB x with
      | false =>
        have HY := hid (par_no hp)
        clear hp
        go_wp2_with (go_at_call 14; refine (num_any _ _).mono ?_; rintro e w9 ⟨rfl, rfl⟩)
        refine (pParse_any x _ HX.out).mono ?_
        rintro e w6 ⟨po, pn, pc, rfl, h6, b6⟩
        rw [HY.out.2]
        have hpn : pn = 0 := by have := h6.len; rw [HY.out.1] at this; exact this
        subst hpn
        have HB6 := hid (q_trans HB4.out b6)
        clear b6 h6
        go_wp2_with (first | (go_at_call 14; refine (num_any _ _).mono ?_; rintro e w9 ⟨rfl, rfl⟩) | (go_at_call 9; refine (live_any _ (HT.out.below HB6.out)).mono ?_; rintro e w7 ⟨rfl, b7⟩; have HB7 := hid (q_trans HB6.out b7); clear b7))
        go_ret
        exact ⟨rfl, HB7.out⟩
      | true =>
        have HY := hid (par_yes hp)
        have HF := hid (forth hp)
        clear hp
        go_wp2_with (go_at_call 14; refine (num_any _ _).mono ?_; rintro e w9 ⟨rfl, rfl⟩)
        refine (pParse_any x _ HX.out).mono ?_
        rintro e w6 ⟨po, pn, pc, rfl, h6, b6⟩
        rw [HY.out.2]
        have HP6 := hid h6
        have HB6 := hid (q_trans HB4.out b6)
        clear b6 h6
        have HPt : Hid (Calls Tryd.prog 10 #[.slice po pn pc] w6 fun e w' => e = .returned (.tuple #[.int .u64 (x : Nat), .int .i64 0]) ∧ Below w6.heap.size w6 w') := by
          have := pPut_any po pn pc _ w6 HP6.out
          rwa [show putA (parA x) = x by unfold putA; rw [if_pos HF.out.1, HF.out.2], show chkA (parA x) = 0 by unfold chkA; rw [if_pos HF.out.1]] at this
        have HCk : Hid (∀ W : World, Below w6.heap.size w6 W → Calls Tryd.prog 15 #[.slice po pn pc] W fun e w' => e = .returned (.int .i64 0) ∧ Below W.heap.size W w') := by
          intro W hW
          have := check_any po pn pc _ W (HP6.out.below hW)
          rwa [show chkA (parA x) = 0 by unfold chkA; rw [if_pos HF.out.1]] at this
        go_wp2_with (go_at_call 14; refine (num_any _ _).mono ?_; rintro e w9 ⟨rfl, rfl⟩)
        refine HPt.out.mono ?_
        rintro e w7 ⟨rfl, b7⟩
        have HB7 := hid (q_trans HB6.out b7)
        go_wp2_with (go_at_call 14; refine (num_any _ _).mono ?_; rintro e w9 ⟨rfl, rfl⟩)
        refine (HCk.out _ b7).mono ?_
        rintro e w8 ⟨rfl, b8⟩
        have HB8 := hid (q_trans HB7.out b8)
        clear b7 b8
        go_wp2_with (first | (go_at_call 14; refine (num_any _ _).mono ?_; rintro e w9 ⟨rfl, rfl⟩) | (go_at_call 9; refine (live_any _ (HT.out.below HB8.out)).mono ?_; rintro e w10 ⟨rfl, b10⟩; have HB10 := hid (q_trans HB8.out b10); clear b10))
        go_ret
        exact ⟨rfl, HB10.out⟩
    | true =>
      have HI := hid (wrd_inj HOl.out hk)
      rw [(put_ok hk).1, (put_ok hk).2]
      clear hk
      by_cases hq : l = k
      · have e0 : ((wrd l : Int) == (wrd k : Int)) = true := by rw [hq]; simp
        have HS2 : Hid (∀ W : World, Below w.heap.size w W → Calls Tryd.prog 17 #[.slice ao n cap, .slice bo m cap'] W fun e w' => e = .returned (.bool true) ∧ Below W.heap.size W w') := by rw [decide_eq_true hq] at HS; exact HS
        clear hq HS
        generalize wrd k = wk at e0 ⊢
        go_wp2_with (go_at_call 14; refine (num_any _ _).mono ?_; rintro e w9 ⟨rfl, rfl⟩)
        refine (pParse_any (wrd l) _ HWl.out).mono ?_
        rintro e w3 ⟨xo, xn, xc, rfl, h3, b3⟩
        rw [HPl.out.2.2]
        have HX3 : Hid (HasP w3 xo xn xc l) := by rw [HPl.out.2.1] at h3; exact h3
        have HB3 := hid (q_trans HB2.out b3)
        clear b3 h3 HB2
        have HS3 : Hid (Calls Tryd.prog 17 #[.slice xo xn xc, .slice ao n cap] w3 fun e w' => e = .returned (.bool true) ∧ Below w3.heap.size w3 w') := ssame_yes (by have := HX3.out.len; have := HL.out.len; omega) HX3.out (HL.out.below HB3.out)
        go_wp2_with (go_at_call 14; refine (num_any _ _).mono ?_; rintro e w9 ⟨rfl, rfl⟩)
        refine HS3.out.mono ?_
        rintro e w4 ⟨rfl, b4⟩
        have HB4 := hid (q_trans HB3.out b4)
        clear b4 HB3 HS3 HX3
        go_wp2_with (go_at_call 14; refine (num_any _ _).mono ?_; rintro e w9 ⟨rfl, rfl⟩)
        refine (HS2.out _ HB4.out).mono ?_
        rintro e w5 ⟨rfl, b5⟩
        have HB5 := hid (q_trans HB4.out b5)
        clear b5 HB4
        cases hp : parB x with
        | false =>
          have HY := hid (par_no hp)
          clear hp
          go_wp2_with (go_at_call 14; refine (num_any _ _).mono ?_; rintro e w9 ⟨rfl, rfl⟩)
          refine (pParse_any x _ HX.out).mono ?_
          rintro e w6 ⟨po, pn, pc, rfl, h6, b6⟩
          rw [HY.out.2]
          have hpn : pn = 0 := by have := h6.len; rw [HY.out.1] at this; exact this
          subst hpn
          have HB6 := hid (q_trans HB5.out b6)
          clear b6 h6
          go_wp2_with (first | (go_at_call 14; refine (num_any _ _).mono ?_; rintro e w9 ⟨rfl, rfl⟩) | (go_at_call 9; refine (live_any _ (HT.out.below HB6.out)).mono ?_; rintro e w7 ⟨rfl, b7⟩; have HB7 := hid (q_trans HB6.out b7); clear b7))
          go_ret
          exact ⟨rfl, HB7.out⟩
        | true =>
          have HY := hid (par_yes hp)
          have HF := hid (forth hp)
          clear hp
          go_wp2_with (go_at_call 14; refine (num_any _ _).mono ?_; rintro e w9 ⟨rfl, rfl⟩)
          refine (pParse_any x _ HX.out).mono ?_
          rintro e w6 ⟨po, pn, pc, rfl, h6, b6⟩
          rw [HY.out.2]
          have HP6 := hid h6
          have HB6 := hid (q_trans HB5.out b6)
          clear b6 h6
          have HPt : Hid (Calls Tryd.prog 10 #[.slice po pn pc] w6 fun e w' => e = .returned (.tuple #[.int .u64 (x : Nat), .int .i64 0]) ∧ Below w6.heap.size w6 w') := by
            have := pPut_any po pn pc _ w6 HP6.out
            rwa [show putA (parA x) = x by unfold putA; rw [if_pos HF.out.1, HF.out.2], show chkA (parA x) = 0 by unfold chkA; rw [if_pos HF.out.1]] at this
          have HCk : Hid (∀ W : World, Below w6.heap.size w6 W → Calls Tryd.prog 15 #[.slice po pn pc] W fun e w' => e = .returned (.int .i64 0) ∧ Below W.heap.size W w') := by
            intro W hW
            have := check_any po pn pc _ W (HP6.out.below hW)
            rwa [show chkA (parA x) = 0 by unfold chkA; rw [if_pos HF.out.1]] at this
          go_wp2_with (go_at_call 14; refine (num_any _ _).mono ?_; rintro e w9 ⟨rfl, rfl⟩)
          refine HPt.out.mono ?_
          rintro e w7 ⟨rfl, b7⟩
          have HB7 := hid (q_trans HB6.out b7)
          go_wp2_with (go_at_call 14; refine (num_any _ _).mono ?_; rintro e w9 ⟨rfl, rfl⟩)
          refine (HCk.out _ b7).mono ?_
          rintro e w8 ⟨rfl, b8⟩
          have HB8 := hid (q_trans HB7.out b8)
          clear b7 b8
          go_wp2_with (first | (go_at_call 14; refine (num_any _ _).mono ?_; rintro e w9 ⟨rfl, rfl⟩) | (go_at_call 9; refine (live_any _ (HT.out.below HB8.out)).mono ?_; rintro e w10 ⟨rfl, b10⟩; have HB10 := hid (q_trans HB8.out b10); clear b10))
          go_ret
          exact ⟨rfl, HB10.out⟩
      · have e0 : ((wrd l : Int) == (wrd k : Int)) = false := by rw [beq_eq_false_iff_ne]; intro e; exact hq (HI.out.1 (by omega))
        have HS2 : Hid (∀ W : World, Below w.heap.size w W → Calls Tryd.prog 17 #[.slice ao n cap, .slice bo m cap'] W fun e w' => e = .returned (.bool false) ∧ Below W.heap.size W w') := by rw [decide_eq_false hq] at HS; exact HS
        clear hq HS HI
        generalize wrd k = wk at e0 ⊢
        go_wp2_with (go_at_call 14; refine (num_any _ _).mono ?_; rintro e w9 ⟨rfl, rfl⟩)
        refine (pParse_any (wrd l) _ HWl.out).mono ?_
        rintro e w3 ⟨xo, xn, xc, rfl, h3, b3⟩
        rw [HPl.out.2.2]
        have HX3 : Hid (HasP w3 xo xn xc l) := by rw [HPl.out.2.1] at h3; exact h3
        have HB3 := hid (q_trans HB2.out b3)
        clear b3 h3 HB2
        have HS3 : Hid (Calls Tryd.prog 17 #[.slice xo xn xc, .slice ao n cap] w3 fun e w' => e = .returned (.bool true) ∧ Below w3.heap.size w3 w') := ssame_yes (by have := HX3.out.len; have := HL.out.len; omega) HX3.out (HL.out.below HB3.out)
        go_wp2_with (go_at_call 14; refine (num_any _ _).mono ?_; rintro e w9 ⟨rfl, rfl⟩)
        refine HS3.out.mono ?_
        rintro e w4 ⟨rfl, b4⟩
        have HB4 := hid (q_trans HB3.out b4)
        clear b4 HB3 HS3 HX3
        go_wp2_with (go_at_call 14; refine (num_any _ _).mono ?_; rintro e w9 ⟨rfl, rfl⟩)
        refine (HS2.out _ HB4.out).mono ?_
        rintro e w5 ⟨rfl, b5⟩
        have HB5 := hid (q_trans HB4.out b5)
        clear b5 HB4
        cases hp : parB x with
        | false =>
          have HY := hid (par_no hp)
          clear hp
          go_wp2_with (go_at_call 14; refine (num_any _ _).mono ?_; rintro e w9 ⟨rfl, rfl⟩)
          refine (pParse_any x _ HX.out).mono ?_
          rintro e w6 ⟨po, pn, pc, rfl, h6, b6⟩
          rw [HY.out.2]
          have hpn : pn = 0 := by have := h6.len; rw [HY.out.1] at this; exact this
          subst hpn
          have HB6 := hid (q_trans HB5.out b6)
          clear b6 h6
          go_wp2_with (first | (go_at_call 14; refine (num_any _ _).mono ?_; rintro e w9 ⟨rfl, rfl⟩) | (go_at_call 9; refine (live_any _ (HT.out.below HB6.out)).mono ?_; rintro e w7 ⟨rfl, b7⟩; have HB7 := hid (q_trans HB6.out b7); clear b7))
          go_ret
          exact ⟨rfl, HB7.out⟩
        | true =>
          have HY := hid (par_yes hp)
          have HF := hid (forth hp)
          clear hp
          go_wp2_with (go_at_call 14; refine (num_any _ _).mono ?_; rintro e w9 ⟨rfl, rfl⟩)
          refine (pParse_any x _ HX.out).mono ?_
          rintro e w6 ⟨po, pn, pc, rfl, h6, b6⟩
          rw [HY.out.2]
          have HP6 := hid h6
          have HB6 := hid (q_trans HB5.out b6)
          clear b6 h6
          have HPt : Hid (Calls Tryd.prog 10 #[.slice po pn pc] w6 fun e w' => e = .returned (.tuple #[.int .u64 (x : Nat), .int .i64 0]) ∧ Below w6.heap.size w6 w') := by
            have := pPut_any po pn pc _ w6 HP6.out
            rwa [show putA (parA x) = x by unfold putA; rw [if_pos HF.out.1, HF.out.2], show chkA (parA x) = 0 by unfold chkA; rw [if_pos HF.out.1]] at this
          have HCk : Hid (∀ W : World, Below w6.heap.size w6 W → Calls Tryd.prog 15 #[.slice po pn pc] W fun e w' => e = .returned (.int .i64 0) ∧ Below W.heap.size W w') := by
            intro W hW
            have := check_any po pn pc _ W (HP6.out.below hW)
            rwa [show chkA (parA x) = 0 by unfold chkA; rw [if_pos HF.out.1]] at this
          go_wp2_with (go_at_call 14; refine (num_any _ _).mono ?_; rintro e w9 ⟨rfl, rfl⟩)
          refine HPt.out.mono ?_
          rintro e w7 ⟨rfl, b7⟩
          have HB7 := hid (q_trans HB6.out b7)
          go_wp2_with (go_at_call 14; refine (num_any _ _).mono ?_; rintro e w9 ⟨rfl, rfl⟩)
          refine (HCk.out _ b7).mono ?_
          rintro e w8 ⟨rfl, b8⟩
          have HB8 := hid (q_trans HB7.out b8)
          clear b7 b8
          go_wp2_with (first | (go_at_call 14; refine (num_any _ _).mono ?_; rintro e w9 ⟨rfl, rfl⟩) | (go_at_call 9; refine (live_any _ (HT.out.below HB8.out)).mono ?_; rintro e w10 ⟨rfl, b10⟩; have HB10 := hid (q_trans HB8.out b10); clear b10))
          go_ret
          exact ⟨rfl, HB10.out⟩
/-- ADDRBACK. -/
theorem back_any (ao : Option Addr) (n cap : Nat) (l : List P) (bo : Option Addr) (m cap' : Nat) (k : List P) (x : Int) (w : World) (hL : HasP w ao n cap l) (hK : HasP w bo m cap' k) (hx : U64 x) (hT : Cp.Tabs w) :
    Calls Tryd.prog 5 #[.slice ao n cap, .slice bo m cap', .int .u64 x] w fun e w' => e = .returned (.bool true) ∧ Below w.heap.size w w' := by
  by_cases h : 20 < n ∨ 20 < m
  · exact back_long ao n cap bo m cap' x w h hT
  · obtain ⟨x, rfl⟩ := Int.eq_ofNat_of_zero_le hx.1
    exact back_in ao n cap l bo m cap' k x w (by omega) (by omega) (by have := hx.2; omega) hT hL hK
end Go.Proofs.YthnfekdoibhnpaaDoor.Ad
