/- What the program's Find does. -/
import Derived.Test.YthnfekdoibhnpaaDoorAdW5
import Derived.Test.YthnfekdoibhnpaaDoorAdBox
import Derived.Test.YthnfekdoibhnpaaDoorAdW2
import Derived.WalkMore
import Derived.ScopeJumps
namespace Go.Proofs.YthnfekdoibhnpaaDoor.Ad
open Go.RowKit
open Cp (K)

/-- A scope in which the run jumps back to one label: what is walked from the label on is walked once. -/
theorem scope_back {P : Program} {a : Act} {w : World} {Q : Exit → Act → World → Prop} {c R : Code} (l : Nat) (J : Act → World → Prop) (μ : Act → World → Nat) (hf : findLabel c l = some (.seq .skip R))
    (pass : ∀ a w, J a w → R.wp P (Exit.jump l (fun a' w' => J a' w' ∧ μ a' w' < μ a w) Q) a w)
    (first : (∀ a w, J a w → R.wp P (Exit.jump l J Q) a w) → c.wp P (Exit.jump l J Q) a w) : (Code.scope c).wp P Q a w := by
  refine wp_scope_jumps l J μ hf (first fun a w h => wp_mono (pass a w h) fun e a' w' q => ?_) (fun a w h => wp_seq (wp_skip (pass a w h)))
  cases e with
  | goto l' => exact ⟨q.1, q.2.1⟩
  | normal => exact q
  | exit id => exact q
  | ret => exact q
  | panic ch => exact q
  | outgrown => exact q
/-- What opens says of a step that may be: whether it goes. -/
theorem opens_go {t : List (List K)} {c : K} {s : P} (h : okS s = true) : (c.t == 2 && (mayB c 1 && (c.b == s.1 && ndB t c.o))) = goB t c s := by
  have e : slB t (c.o, s.2) = ndB t c.o := by
    have h := okS_iff.1 h
    cases q : ndB t c.o with
    | true => exact sl_nd.2 ⟨q, h.2.2.1, by omega⟩
    | false =>
      cases p : slB t (c.o, s.2) with
      | false => rfl
      | true => rw [(sl_nd.1 p).1] at q; cases q
  unfold goB
  rw [e]
/-- How long a slice is. -/
def lenOf : Value → Nat | .slice _ n _ => n | _ => 0
/-- What holds at each jump back. -/
def FJ (to ao : Option Addr) (m n cap cap' : Nat) (t : List (List K)) (r : K) (l : List P) (w : World) (a' : Act) (w' : World) : Prop :=
  ∃ (k : Nat) (wo : Option Addr) (wc cb : Nat) (u12 u13 u14 u15 u16 u17 u18 u19 u20 u21 u22 u23 u24 u25 u26 u27 u28 u29 u30 u31 u32 u33 u34 u35 u36 u37 u38 u39 u40 u41 u42 u43 u44 u45 u46 u47 u48 u49 u50 u51 u52 u53 u54 : Value), a' = { tmps := #[.slice to m cap', (.agg #[.int .i64 r.t, .int .i64 r.r, .int .i64 r.b, .int .i64 r.o, .int .i64 r.g]), .slice ao n cap, undef, .pointer (some ⟨w.heap.size, 0, none⟩), undef, .pointer (some ⟨w.heap.size + 1, 0, none⟩), .slice none 0 0, .int .i64 0, .int .i64 0, .slice wo k wc, .pointer (some ⟨cb, 0, none⟩), u12, u13, u14, u15, u16, u17, u18, u19, u20, u21, u22, u23, u24, u25, u26, u27, u28, u29, u30, u31, u32, u33, u34, u35, u36, u37, u38, u39, u40, u41, u42, u43, u44, u45, u46, u47, u48, u49, u50, u51, u52, u53, u54], defers := [] } ∧ k < n ∧ Hid (w.heap.size + 2 ≤ cb) ∧ Hid (Bk w' cb (wayC t r (l.take k))) ∧ Hid (Bp w' (w.heap.size + 1) (0, 0)) ∧ Hid (MineP 43 w' (cb + 1) wo k wc (wayL t r (l.take k))) ∧ Hid (wayB t r (l.take k) = true) ∧ Hid (Below w.heap.size w w')
set_option maxRecDepth 100000 in
set_option maxHeartbeats 2000000 in
theorem pFind_yes (to ao : Option Addr) (m n cap cap' : Nat) (t : List (List K)) (r : K) (l : List P) (w : World) (h4 : n ≤ 4) (h : okA l = true) (HT : Hid (Cp.Tabs w)) (HN : Hid (HasN w to m cap' t)) (HL : Hid (HasP w ao n cap l)) :
    Calls Tryd.prog 19 #[.slice to m cap', (.agg #[.int .i64 r.t, .int .i64 r.r, .int .i64 r.b, .int .i64 r.o, .int .i64 r.g]), .slice ao n cap] w fun e w' => ∃ ko kn kc, e = .returned (.tuple #[(.agg #[.int .i64 (fndK t r l).1, .int .i64 (fndK t r l).2]), .slice ko kn kc, .int .i64 (fndE t r l)]) ∧ HasP w' ko kn kc (fndL t r l) ∧ Below w.heap.size w w' ∧ (∀ a, ko = some a → w.heap.size ≤ a.block) := by
  have HI : Hid (∀ W : World, HasP W ao n cap l → Calls Tryd.prog 15 #[.slice ao n cap] W fun e w' => e = .returned (.int .i64 0) ∧ Below W.heap.size W w') := by
    intro W hW
    have := check_any ao n cap l W hW
    rwa [show chkA l = 0 by simp [chkA, h]] at this
  have HO := hid h
  have HE := hid HL.out.len
  clear h
  go_enter Tryd.func19, Tryd.ntmps19
  go_wp2_with fail
  refine scope_back 0 (FJ to ao m n cap cap' t r l w) (fun a' _ => n - lenOf (a'.tmps.getD 10 undef)) rfl ?_ ?_
  · rintro a' w' ⟨k, wo, wc, cb, u12, u13, u14, u15, u16, u17, u18, u19, u20, u21, u22, u23, u24, u25, u26, u27, u28, u29, u30, u31, u32, u33, u34, u35, u36, u37, u38, u39, u40, u41, u42, u43, u44, u45, u46, u47, u48, u49, u50, u51, u52, u53, u54, rfl, hk, HC, HK, HP, HM, HW, HB⟩
    have HKL : Hid (k < l.length) := by have := HE.out; unfold Hid; omega
    have i1 : (0 : Int) ≤ (k : Int) := by omega
    have i2 : (k : Int) < (n : Int) := by omega
    obtain ⟨a, rfl, ca⟩ := (HL.out.below HB.out).at k hk
    have HWT := hid (way_take (t := t) (r := r) HKL.out)
    have HS : Hid (okS (l.getD k (0, 0)) = true) := okA_all HO.out _ (by rw [getD_get l k HKL.out]; exact List.getElem_mem _)
    generalize l.getD k (0, 0) = s at ca HWT HS
    generalize wayC t r (l.take k) = c at HK HWT
    generalize wayL t r (l.take k) = way at HM HWT
    have HOP : Hid (∀ W : World, Below w.heap.size w W → Calls Tryd.prog 33 #[.slice to m cap', (.agg #[.int .i64 c.t, .int .i64 c.r, .int .i64 c.b, .int .i64 c.o, .int .i64 c.g]), .int .i64 s.1] W fun e w' => e = .returned (.bool (goB t c s)) ∧ Below W.heap.size W w') := by
      intro W hW
      have := opens_any to m cap' t c s.1 W (HT.out.below hW) (HN.out.below hW)
      rwa [opens_go HS.out] at this
    have D1 := hid (q_alloc HB.out (.cells #[.int .i64 s.1, .int .i64 s.2] 56))
    obtain ⟨c0, c1⟩ := ca
    obtain ⟨k0, k1, k2, k3, k4, _, _, _, _, _⟩ := HK.out.below (alloc_below w' (.cells #[.int .i64 s.1, .int .i64 s.2] 56))
    go_wp2_with fail
    refine (HOP.out _ D1.out).mono ?_
    rintro e w2 ⟨rfl, b2⟩
    have HK2 := hid ((HK.out.below (alloc_below w' (.cells #[.int .i64 s.1, .int .i64 s.2] 56))).below b2)
    have HP2 := hid ((HP.out.below (alloc_below w' (.cells #[.int .i64 s.1, .int .i64 s.2] 56))).below b2)
    have HM2 := hid ((HM.out.below (alloc_below w' (.cells #[.int .i64 s.1, .int .i64 s.2] 56))).below b2)
    have AS2 := hid ((at_new w' s 56).below b2)
    have HB2 := hid (q_trans D1.out b2)
    have HZ2 : Hid (cb < w2.heap.size) := HK2.out.lt
    clear b2 D1 HOP k0 k1 k2 k3 k4 c0 c1 HK HP HM HB
    cases hgo : goB t c s with
    | false =>
      have HF : Hid (fndB t r l = false) := by
        unfold Hid fndB
        rw [way_stop (k := k + 1) (by rw [HWT.out.1, hgo, Bool.and_false]), Bool.and_false]
      have HR := hid (fnd_no HF.out)
      obtain ⟨p0, p1, p2, p3⟩ := HP2.out
      clear hgo
      go_wp2_with fail
      simp only [Exit.jump]
      refine bodyPost_ret (v := .tuple #[.agg #[.int .i64 0, .int .i64 0], .slice none 0 0, .int .i64 120]) (by simp [results, Tryd.results19, go_sem, *]) rfl ⟨none, 0, 0, by rw [HR.out.2.1, HR.out.2.2], by rw [HR.out.1]; exact hasP_nil _, ?_, fun a e => by cases e⟩
      exact q_set (q_set HB2.out (Nat.le_succ _) _) (Nat.le_succ _) _
    | true =>
      have HG := hid hgo
      clear hgo
      obtain ⟨k0, k1, k2, k3, k4, _, _, _, _, _⟩ := HK2.out
      obtain ⟨s0, s1⟩ := AS2.out
      have HO2 := hid (own_below HM2.out.2 (q_alloc (alloc_below w2 (.cells #[.int .i64 c.o, .int .i64 s.2] 43)) (.cells #[.int .i64 c.o, .int .i64 s.2] 43)))
      have HRw : Hid (Row ((w2.alloc (.cells #[.int .i64 c.o, .int .i64 s.2] 43)).alloc (.cells #[.int .i64 c.o, .int .i64 s.2] 43)) (some ⟨w2.heap.size + 1, 0, none⟩) (prs [(c.o, s.2)])) := by
        have := one_pair (w2.alloc (.cells #[.int .i64 c.o, .int .i64 s.2] 43)) (c.o, s.2) 43
        unfold Hid
        simpa using this
      have HZ : Hid (cb + 1 ≤ ((w2.alloc (.cells #[.int .i64 c.o, .int .i64 s.2] 43)).alloc (.cells #[.int .i64 c.o, .int .i64 s.2] 43)).heap.size) := by
        have := HZ2.out
        simp [Hid]
        omega
      go_wp2_with (at_builtin; go_loud (refine wpList_append_row _ rfl (.tmp 38) (.tmp 40) 45 43 _ 2 16 rfl Tryd.underlying45 infoK rfl (by decide) (by decide) (cb + 1) _ k (prs way) rfl HO2.out _ 1 1 (prs [(c.o, s.2)]) rfl rfl (fun h => by cases h) HRw.out (prs_one _) (by omega) HZ.out ?_; intro ao3 cap3 w3 own3 grow3; apply Hid.out))
      have HM2b : Hid (MineP 43 ((w2.alloc (.cells #[.int .i64 c.o, .int .i64 s.2] 43)).alloc (.cells #[.int .i64 c.o, .int .i64 s.2] 43)) (cb + 1) wo k wc way) := ⟨HM2.out.1, HO2.out⟩
      have HX := HM2b.out.append HZ.out rfl own3 grow3
      have HM3 := hid HX.1
      have HB3 : Hid (Below w.heap.size w w3) := (q_alloc (q_alloc HB2.out _) _).trans (HX.2.mono (by have := HC.out; omega))
      have HG3 : Hid (Kept (fun i => cb + 1 ≤ i ∧ i < w2.heap.size) w2 w3) := (kept_below (q_alloc (alloc_below w2 _) _)).trans (kept_grown grow3) (fun i _ e => World.ownsRow.lt HM2.out.2 i e.symm)
      have HK3 := hid (HK2.out.kept HG3.out (by omega))
      have HP3 := hid (HP2.out.kept HG3.out (by have := HC.out; omega))
      have AP3 : Hid (AtP w3 ⟨w2.heap.size, 0, none⟩ (c.o, s.2)) := ((at_new w2 (c.o, s.2) 43).below (alloc_below _ _)).kept (kept_grown grow3) (fun e => by have := (World.ownsRow.lt HM2.out.2 _ e.symm).2; simp at this)
      clear HX own3 grow3 HO2 HRw HZ HM2 HM2b HK2 HP2 AS2 HB2 HG3 k0 k1 k2 k3 k4 s0 s1
      have hlast : k + 1 < n ∨ k + 1 = n := by omega
      rcases hlast with hn | hn
      · have i3 : (k : Int) + 1 < (n : Int) := by omega
        have hq : slB t (c.o, s.2) = true := by
          have := HG.out
          simp only [goB, Bool.and_eq_true] at this
          exact this.2.2.2
        have HGt : Hid (∀ W : World, Below w.heap.size w W → Calls Tryd.prog 21 #[.slice to m cap', .agg #[.int .i64 c.o, .int .i64 s.2]] W fun e w' => e = .returned (.tuple #[(.agg #[.int .i64 (slC t (c.o, s.2)).t, .int .i64 (slC t (c.o, s.2)).r, .int .i64 (slC t (c.o, s.2)).b, .int .i64 (slC t (c.o, s.2)).o, .int .i64 (slC t (c.o, s.2)).g]), .bool true]) ∧ Below W.heap.size W w') := by
          intro W hW
          have := pGet_any to m cap' t (c.o, s.2) W (HN.out.below hW)
          rwa [getC_yes hq, hq] at this
        clear hq
        obtain ⟨q0, q1⟩ := AP3.out
        unfold Hid
        go_wp2_with fail
        refine (HGt.out _ HB3.out).mono ?_
        rintro e w4 ⟨rfl, b4⟩
        have HK4 := hid (HK3.out.below b4)
        have HP4 := hid (HP3.out.below b4)
        have HM4 := hid (HM3.out.below b4)
        have HB4 := hid (q_trans HB3.out b4)
        clear b4 HGt HK3 HP3 HM3 HB3 AP3 q0 q1
        have HW2 : Hid (wayB t r (l.take (k + 1)) = true) := by unfold Hid; rw [HWT.out.1, HW.out, HG.out]; rfl
        have HL2 := hid HWT.out.2.1
        have HC2 := hid HWT.out.2.2
        generalize slC t (c.o, s.2) = d at HC2 ⊢
        obtain ⟨k0, k1, k2, k3, k4, f0, f1, f2, f3, f4⟩ := HK4.out
        go_wp2_with fail
        go_step3
        refine ⟨rfl, ⟨k + 1, ao3, cap3, cb, _, _, _, _, _, _, _, _, _, _, _, _, _, _, _, _, _, _, _, _, _, _, _, _, _, _, _, _, _, _, _, _, _, _, _, _, _, _, _, _, _, _, _, rfl, hn, HC, ?_, ?_, ?_, HW2, low5 HB4.out (by have := HC.out; omega)⟩, ?_⟩
        · rw [HC2.out]; exact HK4.out.set5 d
        · exact HP4.out.kept (kept5 w4 cb _ _ _ _ _) (by have := HC.out; omega)
        · rw [HL2.out]; exact HM4.out.kept (kept5 w4 cb _ _ _ _ _) (fun i hi e => by omega)
        · simp [lenOf]; omega
      · have i3 : ¬ (k : Int) + 1 < (n : Int) := by omega
        have HLl : Hid (l.take (k + 1) = l) := by unfold Hid; rw [hn, HE.out, List.take_length]
        have HF : Hid (fndB t r l = true) := by
          unfold Hid
          rw [fndB_iff]
          refine ⟨HO.out, ?_⟩
          rw [← HLl.out, HWT.out.1, HW.out, HG.out]; rfl
        have HR := hid (fnd_yes HF.out)
        have HL2 : Hid (wayL t r l = way ++ [(c.o, s.2)]) := by
          have := HWT.out.2.1
          rw [HLl.out] at this
          exact this
        clear hn
        obtain ⟨q0, q1⟩ := AP3.out
        obtain ⟨p0, p1, p2, p3⟩ := HP3.out
        unfold Hid
        go_wp2_with fail
        simp only [Exit.jump]
        refine bodyPost_ret (v := .tuple #[.agg #[.int .i64 c.o, .int .i64 s.2], .slice ao3 (k + 1) cap3, .int .i64 0]) (by simp [results, Tryd.results19, go_sem, *]) rfl ⟨ao3, k + 1, cap3, ?_, ?_, ?_, ?_⟩
        · rw [HR.out.2.1, HR.out.2.2, HL2.out]; simp
        · rw [HR.out.1, HL2.out]
          exact (HM3.out.kept ((kept_set (fun i => i = w.heap.size + 1) w3 ⟨w.heap.size + 1, 0, none⟩ _ rfl).setCell ⟨w.heap.size + 1, 1, none⟩ _ (fun _ => rfl)) (fun i hi e => by have := HC.out; omega)).has
        · exact q_set (q_set HB3.out (Nat.le_succ _) _) (Nat.le_succ _) _
        · intro a e
          have := (own_row HM3.out.2).2.2.2 a e
          have := HC.out
          omega
  · intro H
    have B0 := hid (q_alloc (alloc_below w (.cells #[.int .i64 r.t, .int .i64 r.r, .int .i64 r.b, .int .i64 r.o, .int .i64 r.g] 41)) (.cells #[.int .i64 0, .int .i64 0] 43))
    have A0 : Hid (Bp ((w.alloc (.cells #[.int .i64 r.t, .int .i64 r.r, .int .i64 r.b, .int .i64 r.o, .int .i64 r.g] 41)).alloc (.cells #[.int .i64 0, .int .i64 0] 43)) (w.heap.size + 1) (0, 0)) := bp_two w _ (0, 0) 43
    have R0 : Hid (AtK ((w.alloc (.cells #[.int .i64 r.t, .int .i64 r.r, .int .i64 r.b, .int .i64 r.o, .int .i64 r.g] 41)).alloc (.cells #[.int .i64 0, .int .i64 0] 43)) ⟨w.heap.size, 0, none⟩ r) := (atK_new w r 41).below (alloc_below _ _)
    replace H := hid H
    go_wp2_with fail
    refine (HI.out _ (HL.out.below B0.out)).mono ?_
    rintro e w1 ⟨rfl, b1⟩
    have A1 := hid (A0.out.below b1)
    obtain ⟨c0, c1, c2, c3, c4⟩ := R0.out.below b1
    have B1 := hid (q_trans B0.out b1)
    have Z1 : Hid (w.heap.size + 2 ≤ w1.heap.size) := by have := b1.size; simp at this; exact this
    clear b1 A0 B0 R0
    go_wp2_with fail
    go_step3
    simp only [Exit.then]
    rename_i hK
    refine hK _ _ ?_
    refine H.out _ _ ⟨0, none, 0, w1.heap.size, _, _, _, _, _, _, _, _, _, _, _, _, _, _, _, _, _, _, _, _, _, _, _, _, _, _, _, _, _, _, _, _, _, _, _, _, _, _, _, _, _, _, _, rfl, by have := okA_pos HO.out; have := HE.out; omega, Z1, bk_new w1 r 41, A1.out.below (alloc_below _ _), mineP_nil _ _ _, rfl, q_alloc B1.out _⟩
set_option maxRecDepth 100000 in
set_option maxHeartbeats 1000000 in
theorem pFind_no (to ao : Option Addr) (m n cap cap' : Nat) (t : List (List K)) (r : K) (l : List P) (w : World) (h : okA l = false) (HL : Hid (HasP w ao n cap l)) :
    Calls Tryd.prog 19 #[.slice to m cap', (.agg #[.int .i64 r.t, .int .i64 r.r, .int .i64 r.b, .int .i64 r.o, .int .i64 r.g]), .slice ao n cap] w fun e w' => ∃ ko kn kc, e = .returned (.tuple #[(.agg #[.int .i64 (fndK t r l).1, .int .i64 (fndK t r l).2]), .slice ko kn kc, .int .i64 (fndE t r l)]) ∧ HasP w' ko kn kc (fndL t r l) ∧ Below w.heap.size w w' ∧ (∀ a, ko = some a → w.heap.size ≤ a.block) := by
  have HF := hid (fnd_no (t := t) (c := r) (l := l) (by simp [fndB, h]))
  have HI : Hid (∀ W : World, HasP W ao n cap l → Calls Tryd.prog 15 #[.slice ao n cap] W fun e w' => e = .returned (.int .i64 120) ∧ Below W.heap.size W w') := by
    intro W hW
    have := check_any ao n cap l W hW
    rwa [show chkA l = 120 by simp [chkA, h]] at this
  clear h
  go_enter Tryd.func19, Tryd.ntmps19
  go_wp2_with fail
  go_step3
  have B0 := hid (q_alloc (alloc_below w (.cells #[.int .i64 r.t, .int .i64 r.r, .int .i64 r.b, .int .i64 r.o, .int .i64 r.g] 41)) (.cells #[.int .i64 0, .int .i64 0] 43))
  have A0 : Hid (Bp ((w.alloc (.cells #[.int .i64 r.t, .int .i64 r.r, .int .i64 r.b, .int .i64 r.o, .int .i64 r.g] 41)).alloc (.cells #[.int .i64 0, .int .i64 0] 43)) (w.heap.size + 1) (0, 0)) := bp_two w _ (0, 0) 43
  go_wp2_with fail
  refine (HI.out _ (HL.out.below B0.out)).mono ?_
  rintro e w1 ⟨rfl, b1⟩
  have A1 := hid (A0.out.below b1)
  have B1 := hid (q_trans B0.out b1)
  clear b1 A0 B0
  obtain ⟨p0, p1, p2, p3⟩ := A1.out
  go_wp2_with fail
  rw [Exit.noGoto_ret]
  refine bodyPost_ret (v := .tuple #[.agg #[.int .i64 0, .int .i64 0], .slice none 0 0, .int .i64 120]) (by simp [results, Tryd.results19, go_sem, *]) rfl ⟨none, 0, 0, by rw [HF.out.2.1, HF.out.2.2], by rw [HF.out.1]; exact hasP_nil _, ?_, fun a e => by cases e⟩
  exact q_set (q_set B1.out (Nat.le_succ _) _) (Nat.le_succ _) _
/-- FIND, OF WHATEVER NODES AND STEPS. -/
theorem pFind_new (to ao : Option Addr) (m n cap cap' : Nat) (t : List (List K)) (r : K) (l : List P) (w : World) (hT : Cp.Tabs w) (hN : HasN w to m cap' t) (hL : HasP w ao n cap l) :
    Calls Tryd.prog 19 #[.slice to m cap', (.agg #[.int .i64 r.t, .int .i64 r.r, .int .i64 r.b, .int .i64 r.o, .int .i64 r.g]), .slice ao n cap] w fun e w' => ∃ ko kn kc, e = .returned (.tuple #[(.agg #[.int .i64 (fndK t r l).1, .int .i64 (fndK t r l).2]), .slice ko kn kc, .int .i64 (fndE t r l)]) ∧ HasP w' ko kn kc (fndL t r l) ∧ Below w.heap.size w w' ∧ (∀ a, ko = some a → w.heap.size ≤ a.block) := by
  cases q : okA l with
  | false => exact pFind_no to ao m n cap cap' t r l w q hL
  | true => exact pFind_yes to ao m n cap cap' t r l w (by have := okA_le q; have := hL.len; omega) q hT hN hL
theorem pFind_any (to ao : Option Addr) (m n cap cap' : Nat) (t : List (List K)) (r : K) (l : List P) (w : World) (hT : Cp.Tabs w) (hN : HasN w to m cap' t) (hL : HasP w ao n cap l) :
    Calls Tryd.prog 19 #[.slice to m cap', (.agg #[.int .i64 r.t, .int .i64 r.r, .int .i64 r.b, .int .i64 r.o, .int .i64 r.g]), .slice ao n cap] w fun e w' => ∃ ko kn kc, e = .returned (.tuple #[(.agg #[.int .i64 (fndK t r l).1, .int .i64 (fndK t r l).2]), .slice ko kn kc, .int .i64 (fndE t r l)]) ∧ HasP w' ko kn kc (fndL t r l) ∧ Below w.heap.size w w' :=
  (pFind_new to ao m n cap cap' t r l w hT hN hL).mono fun _ _ ⟨ko, kn, kc, h1, h2, h3, _⟩ => ⟨ko, kn, kc, h1, h2, h3⟩
end Go.Proofs.YthnfekdoibhnpaaDoor.Ad
