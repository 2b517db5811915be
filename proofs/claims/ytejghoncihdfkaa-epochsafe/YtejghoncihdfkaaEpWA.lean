/- What slices.Equal, slices.EqualFunc and the program's Same do. -/
import Derived.Test.YtejghoncihdfkaaEpW4
namespace Go.Proofs.Ytejghoncihdfkaa.Ep
open Go.RowKit

theorem take_same {α : Type} {l m : List α} {k : Nat} (d : α) (h : l.take k = m.take k) (hl : k < l.length) (hm : k < m.length) (he : l.getD k d = m.getD k d) : l.take (k + 1) = m.take (k + 1) := by
  rw [List.take_add_one, List.take_add_one, h, List.getElem?_eq_getElem hl, List.getElem?_eq_getElem hm]
  have : l[k] = m[k] := by simpa [List.getD, hl, hm] using he
  rw [this]
set_option maxRecDepth 100000 in
set_option maxHeartbeats 1000000 in
/-- slices.Equal OF PINS. -/
theorem equalI_any (ao bo : Option Addr) (n m cap cap' : Nat) (l l' : List Int) (w : World) (hs : n ≤ 1000) (HA : Hid (Has w ao n cap l)) (HB : Hid (Has w bo m cap' l')) :
    Calls Try.prog 36 #[.slice ao n cap, .slice bo m cap'] w fun e w' => e = .returned (.bool (decide (l = l'))) ∧ Below w.heap.size w w' := by
  by_cases hnm : n = m
  · subst hnm
    go_enter Try.func36, Try.ntmps36
    go_wp2
    go_loopw [13] (fun i wr => ∃ k : Nat, k ≤ n ∧ i = .int .i64 k ∧ Hid (l.take k = l'.take k) ∧ ∃ nd, wr = w.drewN nd) (fun i _ => n - (intOf i).toNat)
    case atStart => exact ⟨0, Nat.zero_le _, rfl, by simp [Hid], 0, rfl⟩
    case round =>
      obtain ⟨k, hk, rfl, HT, nd, rfl⟩ := hrel
      by_cases hlt : k < n
      · have i1 : (0 : Int) ≤ (k : Int) := by omega
        have i2 : (k : Int) < (n : Int) := by omega
        obtain ⟨a, rfl, ca⟩ := HA.out.cell k hlt
        obtain ⟨b, rfl, cb⟩ := HB.out.cell k hlt
        obtain ⟨x, hx⟩ : ∃ x, l.getD k 0 = x := ⟨_, rfl⟩
        obtain ⟨y, hy⟩ : ∃ y, l'.getD k 0 = y := ⟨_, rfl⟩
        rw [hx] at ca
        rw [hy] at cb
        have HX := hid hx
        have HY := hid hy
        clear hx hy
        by_cases he : x = y
        · have HT2 : Hid (l.take (k + 1) = l'.take (k + 1)) := take_same 0 HT.out (by have := HA.out.len; omega) (by have := HB.out.len; omega) (by rw [HX.out, HY.out, he])
          subst he
          go_wp2
          go_quiet (fail)
          go_wp2
          go_roundw
          case rel => exact ⟨k + 1, by omega, by go_num, HT2, _, rfl⟩
          case measure => simp [intOf]; omega
        · have HR : Hid (decide (l = l') = false) := decide_eq_false (fun e => he (by rw [← HX.out, ← HY.out, e]))
          have e1 := bne_yes he
          have e2 := beq_no he
          clear he
          go_wp2
          go_quiet (fail)
          go_wp2
          go_ret
          exact ⟨ret_bool HR.out.symm, q_drewN (q_drewN (Below.refl _ _) _) _⟩
      · obtain rfl : k = n := by omega
        have HR : Hid (decide (l = l') = true) := decide_eq_true (by
          have := HT.out
          rwa [List.take_of_length_le (by have := HA.out.len; omega), List.take_of_length_le (by have := HB.out.len; omega)] at this)
        go_wp2
        go_ret
        exact ⟨ret_bool HR.out.symm, q_drewN (Below.refl _ _) _⟩
  · have HR : Hid (decide (l = l') = false) := decide_eq_false (fun e => hnm (by rw [HA.out.len, HB.out.len, e]))
    have e2 : ((n : Int) == (m : Int)) = false := beq_no (by omega)
    have e3 : ((n : Int) != (m : Int)) = true := by simp; omega
    clear hnm
    go_enter Try.func36, Try.ntmps36
    go_wp2
    go_ret
    exact ⟨ret_bool HR.out.symm, Below.refl _ _⟩
set_option maxRecDepth 100000 in
set_option maxHeartbeats 1000000 in
/-- slices.Equal OF THOSE THAT WAIT. -/
theorem equalW_any (ao bo : Option Addr) (n m cap cap' : Nat) (l l' : List W) (w : World) (hs : n ≤ 1000) (HA : Hid (HasW w ao n cap l)) (HB : Hid (HasW w bo m cap' l')) :
    Calls Try.prog 35 #[.slice ao n cap, .slice bo m cap'] w fun e w' => e = .returned (.bool (decide (l = l'))) ∧ Below w.heap.size w w' := by
  by_cases hnm : n = m
  · subst hnm
    go_enter Try.func35, Try.ntmps35
    go_wp2
    go_loopw [13] (fun i wr => ∃ k : Nat, k ≤ n ∧ i = .int .i64 k ∧ Hid (l.take k = l'.take k) ∧ ∃ nd, wr = w.drewN nd) (fun i _ => n - (intOf i).toNat)
    case atStart => exact ⟨0, Nat.zero_le _, rfl, by simp [Hid], 0, rfl⟩
    case round =>
      obtain ⟨k, hk, rfl, HT, nd, rfl⟩ := hrel
      by_cases hlt : k < n
      · have i1 : (0 : Int) ≤ (k : Int) := by omega
        have i2 : (k : Int) < (n : Int) := by omega
        obtain ⟨a, rfl, ca⟩ := atW_of HA.out.row k (by have := HA.out.len; omega)
        obtain ⟨b, rfl, cb⟩ := atW_of HB.out.row k (by have := HB.out.len; omega)
        obtain ⟨x, hx⟩ : ∃ x, l.getD k (0, 0) = x := ⟨_, rfl⟩
        obtain ⟨y, hy⟩ : ∃ y, l'.getD k (0, 0) = y := ⟨_, rfl⟩
        rw [hx] at ca
        rw [hy] at cb
        have HX := hid hx
        have HY := hid hy
        clear hx hy
        obtain ⟨c0, c1⟩ := ca
        obtain ⟨d0, d1⟩ := cb
        by_cases he : x = y
        · have HT2 : Hid (l.take (k + 1) = l'.take (k + 1)) := take_same (0, 0) HT.out (by have := HA.out.len; omega) (by have := HB.out.len; omega) (by rw [HX.out, HY.out, he])
          have hq := eq_yes he
          clear he
          go_wp2
          go_quiet (fail)
          go_wp2
          go_roundw
          case rel => exact ⟨k + 1, by omega, by go_num, HT2, _, rfl⟩
          case measure => simp [intOf]; omega
        · have HR : Hid (decide (l = l') = false) := decide_eq_false (fun e => he (by rw [← HX.out, ← HY.out, e]))
          have hq := eq_no he
          clear he
          go_wp2
          go_quiet (fail)
          go_wp2
          go_ret
          exact ⟨ret_bool HR.out.symm, q_drewN (q_drewN (Below.refl _ _) _) _⟩
      · obtain rfl : k = n := by omega
        have HR : Hid (decide (l = l') = true) := decide_eq_true (by
          have := HT.out
          rwa [List.take_of_length_le (by have := HA.out.len; omega), List.take_of_length_le (by have := HB.out.len; omega)] at this)
        go_wp2
        go_ret
        exact ⟨ret_bool HR.out.symm, q_drewN (Below.refl _ _) _⟩
  · have HR : Hid (decide (l = l') = false) := decide_eq_false (fun e => hnm (by rw [HA.out.len, HB.out.len, e]))
    have e2 : ((n : Int) == (m : Int)) = false := beq_no (by omega)
    have e3 : ((n : Int) != (m : Int)) = true := by simp; omega
    clear hnm
    go_enter Try.func35, Try.ntmps35
    go_wp2
    go_ret
    exact ⟨ret_bool HR.out.symm, Below.refl _ _⟩
set_option maxHeartbeats 400000 in
theorem same1_any (ao bo : Option Addr) (n m cap cap' : Nat) (l l' : List W) (w : World) (hs : n ≤ 1000) (HA : Hid (HasW w ao n cap l)) (HB : Hid (HasW w bo m cap' l')) :
    Calls Try.prog 34 #[.slice ao n cap, .slice bo m cap'] w fun e w' => e = .returned (.bool (decide (l = l'))) ∧ Below w.heap.size w w' := by
  have HI := hid (equalW_any ao bo n m cap cap' l l' w hs HA HB)
  clear hs
  go_enter Try.func34, Try.ntmps34
  go_wp2_with fail
  refine HI.out.mono ?_
  rintro e w1 ⟨rfl, b1⟩
  go_wp2_with fail
  go_ret
  exact ⟨rfl, b1⟩
set_option maxRecDepth 100000 in
set_option maxHeartbeats 1000000 in
/-- slices.EqualFunc OF LISTS. -/
theorem equalL_any (ao bo : Option Addr) (n m cap cap' : Nat) (hs hs' : List Hd) (fr fr' : List (List W)) (Av Av' : Nat → Prop) (w : World) (hn : n ≤ 1000) (HS : Hid (∀ i, i < fr.length → (fr.getD i []).length ≤ 1000)) (HA : Hid (HasL w Av ao n cap hs fr)) (HB : Hid (HasL w Av' bo m cap' hs' fr')) :
    Calls Try.prog 37 #[.slice ao n cap, .slice bo m cap', .func (.func 34) #[] #[]] w fun e w' => e = .returned (.bool (decide (fr = fr'))) ∧ Below w.heap.size w w' := by
  by_cases hnm : n = m
  · subst hnm
    go_enter Try.func37, Try.ntmps37
    go_wp2
    go_loopw [17] (fun i wr => ∃ k : Nat, k ≤ n ∧ i = .int .i64 k ∧ Hid (fr.take k = fr'.take k) ∧ Hid (Below w.heap.size w wr)) (fun i _ => n - (intOf i).toNat)
    case atStart => exact ⟨0, Nat.zero_le _, rfl, by simp [Hid], Below.refl _ _⟩
    case round =>
      obtain ⟨k, hk, rfl, HT, HW⟩ := hrel
      by_cases hlt : k < n
      · have i1 : (0 : Int) ≤ (k : Int) := by omega
        have i2 : (k : Int) < (n : Int) := by omega
        obtain ⟨a, o1, m1, d1, rfl, ca, hA, _⟩ := (HA.out.below HW.out).cell k hlt
        obtain ⟨b, o2, m2, d2, rfl, cb, hB, _⟩ := (HB.out.below HW.out).cell k hlt
        have HC := hid (same1_any o1 o2 m1 m2 d1 d2 _ _ wr (by rw [hA.len]; exact HS.out k (by have := HA.out.len; omega)) hA hB)
        clear hA hB
        by_cases he : fr.getD k [] = fr'.getD k []
        · have HT2 : Hid (fr.take (k + 1) = fr'.take (k + 1)) := take_same [] HT.out (by have := HA.out.len; omega) (by have := HB.out.len; omega) he
          rw [decide_eq_true he] at HC
          clear he
          go_wp2_with fail
          refine HC.out.mono ?_
          rintro e w1 ⟨rfl, b1⟩
          have HW2 := hid (q_trans HW.out b1)
          clear b1
          go_wp2_with fail
          go_roundw
          case rel => exact ⟨k + 1, by omega, by go_num, HT2, HW2⟩
          case measure => simp [intOf]; omega
        · have HR : Hid (decide (fr = fr') = false) := decide_eq_false (fun e => he (by rw [e]))
          rw [decide_eq_false he] at HC
          clear he
          go_wp2_with fail
          refine HC.out.mono ?_
          rintro e w1 ⟨rfl, b1⟩
          have HW2 := hid (q_trans HW.out b1)
          clear b1
          go_wp2_with fail
          go_ret
          exact ⟨ret_bool HR.out.symm, HW2.out⟩
      · obtain rfl : k = n := by omega
        have HR : Hid (decide (fr = fr') = true) := decide_eq_true (by
          have := HT.out
          rwa [List.take_of_length_le (by have := HA.out.len; omega), List.take_of_length_le (by have := HB.out.len; omega)] at this)
        go_wp2
        go_ret
        exact ⟨ret_bool HR.out.symm, HW.out⟩
  · have HR : Hid (decide (fr = fr') = false) := decide_eq_false (fun e => hnm (by rw [HA.out.len, HB.out.len, e]))
    have e2 : ((n : Int) == (m : Int)) = false := beq_no (by omega)
    have e3 : ((n : Int) != (m : Int)) = true := by simp; omega
    clear hnm
    go_enter Try.func37, Try.ntmps37
    go_wp2
    go_ret
    exact ⟨ret_bool HR.out.symm, Below.refl _ _⟩
set_option maxRecDepth 100000 in
set_option maxHeartbeats 1000000 in
/-- SAME: WHETHER TWO EPOCHS ARE THE SAME. -/
theorem psame_any (y z : WE) (e f : E) (Av Av' : Nat → Prop) (w : World) (HS : Hid (Sm e)) (HA : Hid (HasE w Av y e)) (HB : Hid (HasE w Av' z f)) :
    Calls Try.prog 20 #[(.agg #[.int .i64 e.now, .slice y.p.o y.p.n y.p.c, .slice y.l.o y.l.n y.l.c]), (.agg #[.int .i64 f.now, .slice z.p.o z.p.n z.p.c, .slice z.l.o z.l.n z.l.c])] w fun r w' => r = .returned (.bool (sameB e f)) ∧ Below w.heap.size w w' := by
  obtain ⟨⟨po, P, pc⟩, ⟨lo, L, lc⟩⟩ := y
  obtain ⟨⟨qo, Q, qc⟩, ⟨mo, M, mc⟩⟩ := z
  have hn : P ≤ 1000 := by have h1 := HA.out.pn; have := HS.out.p; simp only at h1; omega
  have hn2 : L ≤ 1000 := by have h1 := HA.out.ln; have := HS.out.l; simp only at h1; omega
  have HR : Hid (sameB e f = (decide (e.now = f.now) && (decide (e.pins = f.pins) && decide (e.lim = f.lim)))) := rfl
  obtain ⟨n, hen⟩ : ∃ n, e.now = n := ⟨_, rfl⟩
  obtain ⟨m, hfm⟩ : ∃ m, f.now = m := ⟨_, rfl⟩
  rw [hen, hfm] at HR
  rw [hen, hfm]
  clear hen hfm
  have HT := hid (b2_start w n m ⟨⟨po, P, pc⟩, ⟨lo, L, lc⟩⟩ ⟨⟨qo, Q, qc⟩, ⟨mo, M, mc⟩⟩ 25)
  by_cases h0 : n = m
  · have d0 := beq_yes h0
    rw [decide_eq_true h0, Bool.true_and] at HR
    clear h0
    go_enter Try.func20, Try.ntmps20
    go_wp2_with fail
    generalize (w.alloc (.cells #[.int .i64 n, .slice po P pc, .slice lo L lc] 25)).alloc (.cells #[.int .i64 m, .slice qo Q qc, .slice mo M mc] 25) = W at HT ⊢
    have CI := hid (equalI_any po qo P Q pc qc e.pins f.pins W hn (HA.out.below HT.out.low).p (HB.out.below HT.out.low).p)
    cases h1 : decide (e.pins = f.pins) with
    | true =>
      rw [h1] at CI HR
      rw [Bool.true_and] at HR
      refine CI.out.mono ?_
      rintro r w1 ⟨rfl, b1⟩
      replace HT := hid (HT.out.below b1)
      clear b1 CI h1
      obtain ⟨hs, hA⟩ := (HA.out.below HT.out.low).l
      obtain ⟨hs', hB⟩ := (HB.out.below HT.out.low).l
      have HC := hid (equalL_any lo mo L M lc mc hs hs' e.lim f.lim Av Av' w1 hn2 (fun i hi => by have := HS.out.each i hi; omega) hA hB)
      clear hA hB
      obtain ⟨c0, c1, c2, cf⟩ := HT.out.a
      obtain ⟨d1, d2, d3, df⟩ := HT.out.b
      go_wp2_with fail
      refine HC.out.mono ?_
      rintro r w2 ⟨rfl, b2⟩
      have HB2 := hid (q_trans HT.out.low b2)
      clear b2
      go_wp2_with fail
      go_ret
      exact ⟨ret_bool HR.out.symm, HB2.out⟩
    | false =>
      rw [h1] at CI HR
      rw [Bool.false_and] at HR
      refine CI.out.mono ?_
      rintro r w1 ⟨rfl, b1⟩
      replace HT := hid (HT.out.below b1)
      clear b1 CI h1
      go_wp2_with fail
      go_ret
      exact ⟨ret_bool HR.out.symm, HT.out.low⟩
  · have d0 := beq_no h0
    rw [decide_eq_false h0, Bool.false_and] at HR
    clear h0
    go_enter Try.func20, Try.ntmps20
    go_wp2_with fail
    go_ret
    exact ⟨ret_bool HR.out.symm, HT.out.low⟩
end Go.Proofs.Ytejghoncihdfkaa.Ep
