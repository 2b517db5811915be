/- TreeBack. -/
import Derived.Test.YtdaakigofpehjaaTrOrder
namespace Go.Proofs.Ytdaakigofpehjaa.Tr
open Go.RowKit

set_option maxHeartbeats 1600000 in
theorem back_long (ao : Option Addr) (n cap : Nat) (f k o : P) (w : World) (h : 60 < n) :
    Calls Try.prog 6 #[.slice ao n cap, (.agg #[.int .i64 f.1, .int .i64 f.2]), (.agg #[.int .i64 k.1, .int .i64 k.2]), (.agg #[.int .i64 o.1, .int .i64 o.2])] w fun e w' => e = .returned (.bool true) ∧ Below w.heap.size w w' := by
  have B0 := hid (q_alloc (q_alloc (alloc_below w (.cells #[.int .i64 f.1, .int .i64 f.2] 24)) (.cells #[.int .i64 k.1, .int .i64 k.2] 24)) (.cells #[.int .i64 o.1, .int .i64 o.2] 24))
  have i1 : (n : Int) > 60 := by omega
  clear h
  go_enter Try.func6, Try.ntmps6
  go_wp2_with (go_at_call 9; refine (live_any _).mono ?_; rintro e w2 ⟨rfl, b⟩)
  go_ret
  exact ⟨rfl, q_trans B0.out b⟩
set_option maxRecDepth 100000 in
set_option maxHeartbeats 8000000 in
theorem back_in (ao : Option Addr) (n cap : Nat) (l : List Ac) (f k o : P) (w : World) (hn : n ≤ 60) (HH : Hid (HasC w ao n cap l)) :
    Calls Try.prog 6 #[.slice ao n cap, (.agg #[.int .i64 f.1, .int .i64 f.2]), (.agg #[.int .i64 k.1, .int .i64 k.2]), (.agg #[.int .i64 o.1, .int .i64 o.2])] w fun e w' => e = .returned (.bool true) ∧ Below w.heap.size w w' := by
  have j1 : ¬ (n : Int) > 60 := by omega
  go_enter Try.func6, Try.ntmps6
  go_wp2_with fail
  obtain ⟨W, hW⟩ : ∃ W, ((w.alloc (.cells #[.int .i64 f.1, .int .i64 f.2] 24)).alloc (.cells #[.int .i64 k.1, .int .i64 k.2] 24)).alloc (.cells #[.int .i64 o.1, .int .i64 o.2] 24) = W := ⟨_, rfl⟩
  obtain ⟨b0, k0, k1, k2⟩ := three_keys w _ _ _ _ W hW
  rw [hW]
  have B := hid b0
  have K0 := hid k0
  have K1 := hid k1
  have K2 := hid k2
  clear hW b0 k0 k1 k2
  refine (grown_any ao n cap l W (by omega) (HH.out.below B.out)).mono ?_
  rintro e w0 ⟨to, tn, tc, rfl, hh, bb⟩
  have G := hid hh
  replace B := hid (q_trans B.out bb)
  replace K0 := hid (K0.out.below bb)
  replace K1 := hid (K1.out.below bb)
  replace K2 := hid (K2.out.below bb)
  clear hh bb
  obtain ⟨t, ht⟩ : ∃ t, gr l = t := ⟨_, rfl⟩
  have HTr : Hid (Tree t) := by unfold Hid; rw [← ht]; exact gr_tree l
  rw [ht] at G
  clear ht
  have hl : tn ≤ 1000 := by have h1 := G.out.len; have h2 := HTr.out.len; omega
  obtain ⟨f0, f1⟩ := K0.out
  obtain ⟨k0, k1⟩ := K1.out
  obtain ⟨o0, o1⟩ := K2.out
  go_wp2_with fail
  refine (ins_any to tn tc t f k _ hl G).mono ?_
  rintro e w1 ⟨uo, un, uc, rfl, hh, bb⟩
  replace B := hid (q_trans B.out bb)
  replace G := hid (G.out.below bb)
  replace K0 := hid (K0.out.below bb)
  replace K1 := hid (K1.out.below bb)
  replace K2 := hid (K2.out.below bb)
  have U := hid hh
  clear hh
  clear f0 f1 k0 k1 o0 o1
  clear bb
  obtain ⟨f0, f1⟩ := K0.out
  obtain ⟨k0, k1⟩ := K1.out
  obtain ⟨o0, o1⟩ := K2.out
  by_cases h : inE t f k = 0
  · skip
    obtain ⟨i, hok, hA⟩ := in_ok h
    rw [hA] at U
    have HP := hid (in_par hok)
    have HR := hid (in_back hok)
    have HDs : Hid (hasK t o = true → dsB (ins t (i + 1) (k, D t i + 1, false)) k o = (decide (o = f) || dsB t f o) ∧ dsB (ins t (i + 1) (k, D t i + 1, false)) o k = false) := fun ho => in_des hok ho
    have HLu := hid (ins_len (t := t) (n := i + 1) (b := (k, D t i + 1, false)))
    clear hA hok
    rw [h]
    clear h
    generalize ins t (i + 1) (k, D t i + 1, false) = u at U HP HR HDs HLu
    have hun : (un : Int) = (tn : Int) + 1 := by have h1 := U.out.len; have h2 := HLu.out; have h3 := G.out.len; omega
    have hul : un ≤ 1000 := by have h1 := U.out.len; have h2 := HLu.out; have h3 := G.out.len; have h4 := HTr.out.len; omega
    have hne : ((un : Int) != (tn : Int) + 1) = false := by simp [hun]
    have HUn := hid hun
    clear hun
    go_wp2_with (go_at_call 13; refine (num_any _ _).mono ?_; rintro e wq ⟨rfl, hq⟩; rw [hq]; clear hq wq)
    refine (par_at (k := k) f true hul U.out HP.out.2 HP.out.1).mono ?_
    rintro e w2 ⟨rfl, bb⟩
    replace B := hid (q_trans B.out bb)
    replace G := hid (G.out.below bb)
    replace U := hid (U.out.below bb)
    replace K0 := hid (K0.out.below bb)
    replace K1 := hid (K1.out.below bb)
    replace K2 := hid (K2.out.below bb)
    clear f0 f1 k0 k1 o0 o1
    clear bb
    obtain ⟨f0, f1⟩ := K0.out
    obtain ⟨k0, k1⟩ := K1.out
    obtain ⟨o0, o1⟩ := K2.out
    have KP := hid (at_new w2 f 24)
    replace B := hid (q_alloc B.out (.cells #[.int .i64 f.1, .int .i64 f.2] 24))
    replace G := hid (G.out.below (alloc_below w2 (.cells #[.int .i64 f.1, .int .i64 f.2] 24)))
    replace U := hid (U.out.below (alloc_below w2 (.cells #[.int .i64 f.1, .int .i64 f.2] 24)))
    replace K0 := hid (K0.out.below (alloc_below w2 (.cells #[.int .i64 f.1, .int .i64 f.2] 24)))
    replace K1 := hid (K1.out.below (alloc_below w2 (.cells #[.int .i64 f.1, .int .i64 f.2] 24)))
    replace K2 := hid (K2.out.below (alloc_below w2 (.cells #[.int .i64 f.1, .int .i64 f.2] 24)))
    clear f0 f1 k0 k1 o0 o1
    obtain ⟨f0, f1⟩ := K0.out
    obtain ⟨k0, k1⟩ := K1.out
    obtain ⟨o0, o1⟩ := K2.out
    go_wp2_with fail
    generalize w2.heap.size = pb at KP ⊢
    generalize w2.alloc (.cells #[.int .i64 f.1, .int .i64 f.2] 24) = V at B G U K0 K1 K2 KP f0 f1 k0 k1 o0 o1 ⊢
    skip
    refine (rem_at (k := k) t tn 0 hul U.out HR.out.1 HR.out.2 G.out.len.symm).mono ?_
    rintro e w3 ⟨vo, vc, rfl, hh, bb⟩
    replace B := hid (q_trans B.out bb)
    replace G := hid (G.out.below bb)
    replace U := hid (U.out.below bb)
    replace KP := hid (KP.out.below bb)
    replace K0 := hid (K0.out.below bb)
    replace K1 := hid (K1.out.below bb)
    replace K2 := hid (K2.out.below bb)
    have Vv := hid hh
    clear hh
    clear f0 f1 k0 k1 o0 o1
    clear bb
    obtain ⟨f0, f1⟩ := K0.out
    obtain ⟨k0, k1⟩ := K1.out
    obtain ⟨o0, o1⟩ := K2.out
    obtain ⟨p0, p1⟩ := KP.out
    have ee : ∀ w : World, (Op.equalIn 10000 24 (.agg #[.int .i64 f.1, .int .i64 f.2]) (.agg #[.int .i64 f.1, .int .i64 f.2])).run Try.prog w = .ok true w := eqk_yes rfl
    go_wp2_with (go_at_call 13; refine (num_any _ _).mono ?_; rintro e wq ⟨rfl, hq⟩; rw [hq]; clear hq wq)
    refine (sm_at true hl Vv.out G.out (decide_eq_true rfl)).mono ?_
    rintro e w4 ⟨rfl, bb⟩
    replace B := hid (q_trans B.out bb)
    replace G := hid (G.out.below bb)
    replace U := hid (U.out.below bb)
    replace K0 := hid (K0.out.below bb)
    replace K1 := hid (K1.out.below bb)
    replace K2 := hid (K2.out.below bb)
    clear f0 f1 k0 k1 o0 o1
    clear bb
    obtain ⟨f0, f1⟩ := K0.out
    obtain ⟨k0, k1⟩ := K1.out
    obtain ⟨o0, o1⟩ := K2.out
    clear Vv KP p0 p1 ee
    rcases Bool.eq_false_or_eq_true (hasK t o) with ho | ho
    · skip
      have HO := hid (HDs.out ho)
      go_wp2_with fail
      refine (find_at (k := o) (plc t o) true hl G.out rfl ho).mono ?_
      rintro e w5 ⟨rfl, bb⟩
      replace B := hid (q_trans B.out bb)
      replace G := hid (G.out.below bb)
      replace U := hid (U.out.below bb)
      replace K0 := hid (K0.out.below bb)
      replace K1 := hid (K1.out.below bb)
      replace K2 := hid (K2.out.below bb)
      clear f0 f1 k0 k1 o0 o1
      clear bb
      obtain ⟨f0, f1⟩ := K0.out
      obtain ⟨k0, k1⟩ := K1.out
      obtain ⟨o0, o1⟩ := K2.out
      clear ho hne
      clear f0 f1 k0 k1 o0 o1
      by_cases he : o = f
      · skip
        have HV : Hid (dsB u k o = true) := by unfold Hid; rw [HO.out.1, decide_eq_true he]; rfl
        have ee := eqk_yes he
        clear he
        have C1 : Hid (∀ W : World, Below w5.heap.size w5 W → Calls Try.prog 24 #[.slice uo un uc, (.agg #[.int .i64 k.1, .int .i64 k.2]), (.agg #[.int .i64 o.1, .int .i64 o.2])] W fun e w' => e = .returned (.bool true) ∧ Below W.heap.size W w') := fun W hW => ds_at true hul (U.out.below hW) HV.out
        have C3 : Hid (∀ W : World, Below w5.heap.size w5 W → Calls Try.prog 24 #[.slice uo un uc, (.agg #[.int .i64 o.1, .int .i64 o.2]), (.agg #[.int .i64 k.1, .int .i64 k.2])] W fun e w' => e = .returned (.bool false) ∧ Below W.heap.size W w') := fun W hW => ds_at false hul (U.out.below hW) HO.out.2
        have hnn : Nonempty (Later w5) := ⟨⟨_, Below.refl _ _⟩⟩
        obtain ⟨f0, f1⟩ := K0.out.always
        obtain ⟨k0, k1⟩ := K1.out.always
        obtain ⟨o0, o1⟩ := K2.out.always
        go_wp2_with fail
        refine wp_region_later (by kernel_rfl) (by kernel_rfl) ?_
        repeat (go_big_quiet_step (first | (go_at_call 24; with_reducible exact later_call (C1.out _ (Later.low _))) | (go_at_call 24; with_reducible exact later_call (C3.out _ (Later.low _)))))
        refine wpQuiet_nil ?_
        rintro w9 ⟨⟨_, b9⟩, rfl⟩
        replace B := hid (q_trans B.out b9)
        clear b9 hnn
        clear f0 f1 k0 k1 o0 o1
        go_wp2_with fail
        refine (live_any _).mono ?_
        rintro e wz ⟨rfl, bb⟩
        have BZ := hid (q_trans B.out bb)
        clear bb
        go_wp2_with fail
        go_ret
        exact ⟨rfl, BZ.out⟩
      · skip
        obtain ⟨y, hy⟩ : ∃ y, dsB t f o = y := ⟨_, rfl⟩
        have HY := hid hy
        have HV : Hid (dsB u k o = y) := by unfold Hid; rw [HO.out.1, decide_eq_false he, hy]; rfl
        have ee := eqk_no he
        clear he hy
        have C1 : Hid (∀ W : World, Below w5.heap.size w5 W → Calls Try.prog 24 #[.slice uo un uc, (.agg #[.int .i64 k.1, .int .i64 k.2]), (.agg #[.int .i64 o.1, .int .i64 o.2])] W fun e w' => e = .returned (.bool y) ∧ Below W.heap.size W w') := fun W hW => ds_at y hul (U.out.below hW) HV.out
        have C2 : Hid (∀ W : World, Below w5.heap.size w5 W → Calls Try.prog 24 #[.slice to tn tc, (.agg #[.int .i64 f.1, .int .i64 f.2]), (.agg #[.int .i64 o.1, .int .i64 o.2])] W fun e w' => e = .returned (.bool y) ∧ Below W.heap.size W w') := fun W hW => ds_at y hl (G.out.below hW) HY.out
        have C3 : Hid (∀ W : World, Below w5.heap.size w5 W → Calls Try.prog 24 #[.slice uo un uc, (.agg #[.int .i64 o.1, .int .i64 o.2]), (.agg #[.int .i64 k.1, .int .i64 k.2])] W fun e w' => e = .returned (.bool false) ∧ Below W.heap.size W w') := fun W hW => ds_at false hul (U.out.below hW) HO.out.2
        have hnn : Nonempty (Later w5) := ⟨⟨_, Below.refl _ _⟩⟩
        obtain ⟨f0, f1⟩ := K0.out.always
        obtain ⟨k0, k1⟩ := K1.out.always
        obtain ⟨o0, o1⟩ := K2.out.always
        go_wp2_with fail
        have hyy : (y != y) = false := by simp
        refine wp_region_later (by kernel_rfl) (by kernel_rfl) ?_
        repeat (go_big_quiet_step (first | (go_at_call 24; with_reducible exact later_call (C1.out _ (Later.low _))) | (go_at_call 24; with_reducible exact later_call (C2.out _ (Later.low _))) | (go_at_call 24; with_reducible exact later_call (C3.out _ (Later.low _)))))
        refine wpQuiet_nil ?_
        rintro w9 ⟨⟨_, b9⟩, rfl⟩
        replace B := hid (q_trans B.out b9)
        clear b9 hnn
        clear f0 f1 k0 k1 o0 o1
        go_wp2_with fail
        refine (live_any _).mono ?_
        rintro e wz ⟨rfl, bb⟩
        have BZ := hid (q_trans B.out bb)
        clear bb
        go_wp2_with fail
        go_ret
        exact ⟨rfl, BZ.out⟩
    · skip
      go_wp2_with fail
      refine (find_at (k := o) (plc t o) false hl G.out rfl ho).mono ?_
      rintro e w5 ⟨rfl, bb⟩
      replace B := hid (q_trans B.out bb)
      replace G := hid (G.out.below bb)
      replace U := hid (U.out.below bb)
      replace K0 := hid (K0.out.below bb)
      replace K1 := hid (K1.out.below bb)
      replace K2 := hid (K2.out.below bb)
      clear f0 f1 k0 k1 o0 o1
      clear bb
      obtain ⟨f0, f1⟩ := K0.out
      obtain ⟨k0, k1⟩ := K1.out
      obtain ⟨o0, o1⟩ := K2.out
      clear ho hne
      clear f0 f1 k0 k1 o0 o1
      have hnn : Nonempty (Later w5) := ⟨⟨_, Below.refl _ _⟩⟩
      obtain ⟨f0, f1⟩ := K0.out.always
      obtain ⟨k0, k1⟩ := K1.out.always
      obtain ⟨o0, o1⟩ := K2.out.always
      go_wp2_with fail
      refine wp_region_later (by kernel_rfl) (by kernel_rfl) ?_
      repeat (go_big_quiet_step (fail))
      refine wpQuiet_nil ?_
      rintro w9 ⟨⟨_, b9⟩, rfl⟩
      replace B := hid (q_trans B.out b9)
      clear b9 hnn
      clear f0 f1 k0 k1 o0 o1
      go_wp2_with fail
      refine (live_any _).mono ?_
      rintro e wz ⟨rfl, bb⟩
      have BZ := hid (q_trans B.out bb)
      clear bb
      go_wp2_with fail
      go_ret
      exact ⟨rfl, BZ.out⟩
  · skip
    have HA : Hid (inA t f k = t) := by unfold Hid inA; rw [if_neg h]
    rw [HA.out] at U
    obtain ⟨x, hx⟩ : ∃ x, inE t f k = x := ⟨_, rfl⟩
    rw [hx] at h ⊢
    have hx2 : (x != 0) = true := by simp [h]
    clear h hx
    go_wp2_with (go_at_call 13; refine (num_any _ _).mono ?_; rintro e wq ⟨rfl, hq⟩; rw [hq]; clear hq wq)
    refine (sm_at true hl G.out U.out (decide_eq_true rfl)).mono ?_
    rintro e w2 ⟨rfl, bb⟩
    replace B := hid (q_trans B.out bb)
    replace K0 := hid (K0.out.below bb)
    replace K1 := hid (K1.out.below bb)
    replace K2 := hid (K2.out.below bb)
    clear f0 f1 k0 k1 o0 o1
    clear bb
    obtain ⟨f0, f1⟩ := K0.out
    obtain ⟨k0, k1⟩ := K1.out
    obtain ⟨o0, o1⟩ := K2.out
    go_wp2_with fail
    refine (live_any _).mono ?_
    rintro e wz ⟨rfl, bb⟩
    have BZ := hid (q_trans B.out bb)
    clear bb
    go_wp2_with fail
    go_ret
    exact ⟨rfl, BZ.out⟩
/-- TREEBACK. -/
theorem back_any (ao : Option Addr) (n cap : Nat) (l : List Ac) (f k o : P) (w : World) (HH : HasC w ao n cap l) :
    Calls Try.prog 6 #[.slice ao n cap, (.agg #[.int .i64 f.1, .int .i64 f.2]), (.agg #[.int .i64 k.1, .int .i64 k.2]), (.agg #[.int .i64 o.1, .int .i64 o.2])] w fun e w' => e = .returned (.bool true) ∧ Below w.heap.size w w' := by
  rcases Nat.lt_or_ge 60 n with q | q
  · exact back_long ao n cap f k o w q
  · exact back_in ao n cap l f k o w q HH
end Go.Proofs.Ytdaakigofpehjaa.Tr
