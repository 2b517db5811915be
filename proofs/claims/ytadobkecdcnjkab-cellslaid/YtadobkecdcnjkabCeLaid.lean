/- The walk of CellsLaid: it answers true. -/
import Derived.Test.YtadobkecdcnjkabCeLaid1
namespace Go.Proofs.Ytadobkecdcnjkab.Ce
open Go.RowKit

set_option maxRecDepth 100000 in
set_option maxHeartbeats 1000000 in
theorem claid_no (ao bo co : Option Addr) (n m k cap cap' cap'' : Nat) (x : Int) (w : World) (hn : n ≤ 9223372036854775807) (hm : m ≤ 9223372036854775807) (h : Hid (100 < n ∨ (n ≤ 100 ∧ 100 < m) ∨ (n ≤ 100 ∧ m ≤ 100 ∧ 200 < k))) :
    Calls Try.prog 4 #[.slice ao n cap, .slice bo m cap', .slice co k cap'', .int .i64 x] w fun e w' => e = .returned (.bool true) ∧ Below w.heap.size w w' := by
  rcases h.out with h1 | ⟨h1, h2⟩ | ⟨h1, h2, h3⟩
  · clear h
    go_enter Try.func4, Try.ntmps4
    go_wp2_with (go_at_call 5; refine (live_any _).mono ?_; rintro e w6 ⟨rfl, b6⟩)
    go_ret
    exact ⟨rfl, b6⟩
  · clear h
    go_enter Try.func4, Try.ntmps4
    go_wp2_with (go_at_call 5; refine (live_any _).mono ?_; rintro e w6 ⟨rfl, b6⟩)
    go_ret
    exact ⟨rfl, b6⟩
  · have hd : decide ((k : Int) ≤ 200) = false := by simp; omega
    clear h
    go_enter Try.func4, Try.ntmps4
    go_wp2_with (first | (go_at_call 8; refine (small_any _ _ _ _).mono ?_; rintro e w' ⟨rfl, rfl⟩) | (go_at_call 5; refine (live_any _).mono ?_; rintro e w6 ⟨rfl, b6⟩))
    go_ret
    exact ⟨rfl, b6⟩
set_option maxRecDepth 100000 in
set_option maxHeartbeats 4000000 in
theorem claid_same (ao bo co : Option Addr) (n kn cap cap' cap'' : Nat) (l l' lw : List Int) (ol : List O) (x : Int) (w : World) (hn : n ≤ 100) (hkn : kn ≤ 200) (HN : Hid (n = l.length)) (HM : Hid (n = l'.length)) (HK : Hid (kn = ol.length))
    (HNC : Hid (ao = none → cap = 0)) (HMC : Hid (bo = none → cap' = 0)) (HRL : Hid (Row w ao (vals l))) (HRM : Hid (Row w bo (vals l'))) (HRO : Hid (Row w co (ops ol))) (HEW : Hid (lw = l')) :
    Calls Try.prog 4 #[.slice ao n cap, .slice bo n cap', .slice co kn cap'', .int .i64 x] w fun e w' => e = .returned (.bool true) ∧ Below w.heap.size w w' := by
  have hd : decide ((kn : Int) ≤ 200) = true := by simp; omega
  go_enter Try.func4, Try.ntmps4
  go_wp2_with (go_at_call 8; refine (small_any _ _ _ _).mono ?_; rintro e w0 ⟨rfl, rfl⟩)
  clear hd
  refine (new_yes n _ (by omega)).mono ?_
  rintro e w1 ⟨rfl, hc1, b1⟩
  have HC1 := hid hc1
  have HB1 := hid b1
  clear hc1 b1
  go_wp2_with (first | (go_at_call 10; refine (num_any _ _).mono ?_; rintro e w2 ⟨rfl, rfl⟩) | (at_builtin; go_loud (refine wpList_append_row _ rfl (.tmp 47) (.tmp 48) 22 2 _ 1 8 rfl Try.underlying22 infoI rfl (by decide) (by decide) _ _ 0 [] rfl (own0 _ 2 1) ao n cap (vals l) rfl (by have := HN.out; simp; omega) HNC.out ((HRL.out.below HB1.out).below (alloc_below _ _)) (vals_one l) (by omega) (alloc_below _ _).size ?_; intro ao3 cap3 w3 own3 grow3; apply Hid.out)))
  have b3 := app_below grow3
  rw [Nat.zero_add, List.nil_append] at own3
  obtain ⟨R3, -, -, -⟩ := own_row own3
  have HR3 := hid R3
  have HC3 := hid (HC1.out.below b3)
  have HB3 := hid (q_trans HB1.out b3)
  clear own3 grow3 b3 R3
  unfold Hid
  go_wp2_with fail
  refine (lay_yes HC3.out ao3 n cap3 l (by simp [S.new]) HN.out HR3.out).mono ?_
  rintro e w4 ⟨rfl, hc4, k4⟩
  have HC4 := hid hc4
  have HB4 := hid (HB3.out.trans (k4.below _ HB3.out.size (fun i e => by omega)))
  clear hc4 k4
  go_wp2_with fail
  refine (lay_yes HC4.out bo n cap' l' HN.out.symm HM.out (HRM.out.below HB4.out)).mono ?_
  rintro e w5 ⟨rfl, hc5, k5⟩
  have HC5 : Hid (Cel w5 w0.heap.size (w0.heap.size + 1) w0.heap.size n none 0 ⟨lw, 0, []⟩) := by rw [HEW.out]; exact hc5
  have HB5 := hid (HB4.out.trans (k5.below _ HB4.out.size (fun i e => by omega)))
  have HRW : Hid (Row w0 bo (vals lw)) := by rw [HEW.out]; exact HRM.out
  have HW : Hid (n = lw.length) := by rw [HEW.out]; exact HM.out
  clear hc5 k5
  have HB5' := hid HB5.out.size
  go_wp2_with (go_at_call 10; refine (num_any _ _).mono ?_; rintro e w6 ⟨rfl, rfl⟩)
  refine (lay_nil ao n cap _).mono ?_
  rintro e w7 ⟨rfl, rfl⟩
  go_wp2_with (go_at_call 10; refine (num_any _ _).mono ?_; rintro e w6 ⟨rfl, rfl⟩)
  refine (at_nil x _).mono ?_
  rintro e w8 ⟨rfl, rfl⟩
  have HRun : Hid (Run w0 w8 n none 0 ⟨lw, 0, []⟩ bo cap' none 0 lw []) := by
    have hr : Row w8 bo (vals lw) := HRW.out.below HB5.out
    have hlt : ∀ a, bo = some a → 0 < lw.length → a.block < w0.heap.size := fun a e h0 => by
      obtain ⟨a', e', h⟩ := HRW.out.lt (by rw [len_vals]; exact h0)
      rw [e] at e'
      cases e'
      exact h
    exact { cel := HC5.out, row := hr, nil := HMC.out, avl := (fun a e h0 => Nat.lt_of_lt_of_le (hlt a e h0) HB5'.out), avf := (fun a e h0 f => by have := (HC5.out.lt _ f).1; have := hlt a e h0; omega), avt := (fun a b _ e _ => by cases e), own := World.ownsRow_nil _ _ _ _, atf := (fun b e => by cases e), low := HB5.out }
  have HLW := hid (show n = (⟨lw, 0, []⟩ : S).vs.length from HW.out)
  go_wp2_with fail
  refine (peek_any HC5 (show lw.length ≤ 5000 by have := HW.out; omega)).mono ?_
  rintro e w9 ⟨ao9, cap9, he9, own9, b9⟩
  rw [← HLW.out] at he9 own9
  subst he9
  obtain ⟨R9, -, -, -⟩ := own_row own9
  have HR9 := hid R9
  have HRun9 := hid (HRun.out.below b9)
  clear own9 R9 b9
  go_wp2_with fail
  refine (values_true ao9 bo n cap9 cap' lw w9 (by omega) HW.out HR9.out HRun9.out.row).mono ?_
  rintro e w10 ⟨rfl, nd, rfl⟩
  have HRun10 := hid (HRun9.out.below (drewN_below _ nd))
  go_wp2_with fail
  refine (steps_any (hid HRun10.out.cel)).mono ?_
  rintro e w11 ⟨rfl, rfl⟩
  go_wp2_with fail
  refine (trace_any (hid HRun10.out.cel) (show ([] : List Rc).length ≤ 5000 by decide)).mono ?_
  rintro e w12 ⟨ao12, cap12, rfl, -, b12⟩
  have HRun12 := hid (HRun10.out.below b12)
  clear b12
  go_wp2_with fail
  go_loopw [14, 15] (fun wv i wr => ∃ k : Nat, k ≤ kn ∧ i = .int .i64 k ∧ ∃ tao tcap s av cv, wv = .slice av n cv ∧ Hid (Run w0 wr n tao tcap s av cv none 0 s.vs []) ∧ Hid (n = s.vs.length) ∧ Hid (s.n ≤ k)) (fun _ i _ => kn - (intOf i).toNat)
  case atStart => exact ⟨0, Nat.zero_le _, rfl, none, 0, ⟨lw, 0, []⟩, bo, cap', rfl, HRun12, HLW, Nat.le_refl 0⟩
  case round =>
    obtain ⟨k, hk, rfl, tao, tcap, s, av, cv, rfl, HR, HL, HSN⟩ := hrel
    by_cases hlt : k < kn
    · have i1 : (0 : Int) ≤ (k : Int) := by omega
      have i2 : (k : Int) < (kn : Int) := by omega
      obtain ⟨a, rfl, hat⟩ := atO_of HRO.out k (by have := HK.out; omega)
      obtain ⟨o, ho⟩ : ∃ o, ol.getD k O.zero = o := ⟨_, rfl⟩
      rw [ho] at hat
      have HATL : Hid (∀ x, Below w0.heap.size w0 x → AtO x (a.add (k * 5)) o) := fun x hx => by
        have c := fun {q : Addr} {v : Value} (h : w0.cell? q = some v) => (hx.cell (World.block_lt_of_cell? w0 q h)).trans h
        exact ⟨c hat.c0, c hat.c1, c hat.c2, c hat.c3, c hat.c4⟩
      clear ho hat
      obtain ⟨d0, d1, d2, d3, d4⟩ := HATL.out _ HR.out.low
      go_wp2_with fail
      refine (do_any HR.out.cel o (by have := HSN.out; omega)).mono ?_
      rintro e w13 ⟨rfl, tao', tcap', hc13, kk, mv⟩
      have HR13 := hid (HR.out.step hc13 kk mv)
      clear hc13 kk mv d0 d1 d2 d3 d4
      obtain ⟨d0, d1, d2, d3, d4⟩ := HATL.out _ HR13.out.low
      go_wp2_with fail
      refine (rapply_any av n cv s.vs o w13 HL.out (by omega) HR13.out.nil HR13.out.row).mono ?_
      rintro e w14 ⟨av6, cv6, rfl, R6, N6, nw6, b6⟩
      have HR14 := hid (HR13.out.app (apV_len s.vs o) R6 N6 nw6 b6)
      generalize hr : apR s.vs o = r
      generalize hX : w14.alloc (.cells #[.int .i64 r.o.k, .int .i64 r.o.c, .int .i64 r.o.a, .int .i64 r.o.v, .int .i64 r.o.w, .int .i64 r.got, .bool r.ok] 27) = X
      have alX : Below w14.heap.size w14 X := hX ▸ alloc_below w14 _
      have HRX := hid (HR14.out.below alX)
      rw [← S.step_vs] at HRX
      have HLX : Hid (n = (s.step o).vs.length) := by rw [S.step_len]; exact HL.out
      have HNX := hid (show (s.step o).n ≤ k + 1 by have := HSN.out; have := (S.run_n s [o]).2; simp [S.run] at this; omega)
      clear R6 N6 nw6 b6 alX d0 d1 d2 d3 d4 hr
      go_wp2_with fail
      clear hX
      go_roundw
      case rel => exact ⟨k + 1, by omega, by go_num, tao', tcap', _, av6, cv6, rfl, HRX, HLX, HNX⟩
      case measure => simp [intOf]; omega
    · obtain rfl : k = kn := by omega
      cases hin : inB x n with
      | true =>
        obtain ⟨j, rfl⟩ := Int.eq_ofNat_of_zero_le (inB_iff.1 hin).1
        have hj : j < n := by have := (inB_iff.1 hin).2; omega
        have i1 : (0 : Int) ≤ (j : Int) := by omega
        have i2 : (j : Int) < (n : Int) := by omega
        obtain ⟨y, hy⟩ : ∃ y, s.vs.getD j 0 = y := ⟨_, rfl⟩
        obtain ⟨av', rfl, ca⟩ := HR.out.row.cell j _ (vals_at s.vs j (by have := HL.out; omega))
        rw [hy] at ca
        have HY := hid hy
        clear hy hin
        go_wp2_with fail
        refine (peek_any (hid HR.out.cel) (by have := HL.out; omega)).mono ?_
        rintro e w15 ⟨ao15, cap15, he15, own15, b15⟩
        rw [← HL.out] at he15 own15
        subst he15
        obtain ⟨R15, -, -, -⟩ := own_row own15
        have HR15 := hid R15
        have HU15 := hid (HR.out.below b15)
        clear own15 R15 b15 ca
        go_wp2_with fail
        refine (values_true ao15 (some av') n cap15 cv s.vs w15 (by omega) HL.out HR15.out HU15.out.row).mono ?_
        rintro e w16 ⟨rfl, nd2, rfl⟩
        have HU16 := hid (HU15.out.below (drewN_below _ nd2))
        go_wp2_with fail
        refine (at_yes (hid HU16.out.cel) j n HL.out.symm hj y HY).mono ?_
        rintro e w17 ⟨rfl, rfl⟩
        go_wp2_with fail
        refine (live_any _).mono ?_
        rintro e w18 ⟨rfl, b18⟩
        have HBE := hid (q_trans HU16.out.low b18)
        clear b18
        go_wp2_with fail
        go_ret
        exact ⟨rfl, HBE.out⟩
      | false =>
        have HIN := hid hin
        have hx : (0 ≤ x ∧ ¬ x < n) ∨ ¬ 0 ≤ x := by have := inB_not.1 hin; omega
        clear hin
        rcases hx with ⟨hx0, hx1⟩ | hx0
        all_goals
          go_wp2_with fail
          refine (peek_any (hid HR.out.cel) (by have := HL.out; omega)).mono ?_
          rintro e w15 ⟨ao15, cap15, he15, own15, b15⟩
          rw [← HL.out] at he15 own15
          subst he15
          obtain ⟨R15, -, -, -⟩ := own_row own15
          have HR15 := hid R15
          have HU15 := hid (HR.out.below b15)
          clear own15 R15 b15
          go_wp2_with fail
          refine (values_true ao15 av n cap15 cv s.vs w15 (by omega) HL.out HR15.out HU15.out.row).mono ?_
          rintro e w16 ⟨rfl, nd2, rfl⟩
          have HU16 := hid (HU15.out.below (drewN_below _ nd2))
          go_wp2_with fail
          refine (at_no (hid HU16.out.cel) x n HL.out.symm HIN.out).mono ?_
          rintro e w17 ⟨rfl, rfl⟩
          go_wp2_with fail
          refine (live_any _).mono ?_
          rintro e w18 ⟨rfl, b18⟩
          have HBE := hid (q_trans HU16.out.low b18)
          clear b18
          go_wp2_with fail
          go_ret
          exact ⟨rfl, HBE.out⟩

set_option maxRecDepth 100000 in
set_option maxHeartbeats 4000000 in
theorem claid_diff (ao bo co : Option Addr) (n m kn cap cap' cap'' : Nat) (l lw : List Int) (ol : List O) (x : Int) (w : World) (hn : n ≤ 100) (hm : m ≤ 100) (hkn : kn ≤ 200) (HN : Hid (n = l.length)) (HK : Hid (kn = ol.length))
    (HNC : Hid (ao = none → cap = 0)) (HRL : Hid (Row w ao (vals l))) (HRO : Hid (Row w co (ops ol))) (hne : ((m : Int) != (n : Int)) = true) (heq : ((m : Int) == (n : Int)) = false) (HEW : Hid (lw = l)) :
    Calls Try.prog 4 #[.slice ao n cap, .slice bo m cap', .slice co kn cap'', .int .i64 x] w fun e w' => e = .returned (.bool true) ∧ Below w.heap.size w w' := by
  have hd : decide ((kn : Int) ≤ 200) = true := by simp; omega
  go_enter Try.func4, Try.ntmps4
  go_wp2_with (go_at_call 8; refine (small_any _ _ _ _).mono ?_; rintro e w0 ⟨rfl, rfl⟩)
  clear hd
  refine (new_yes n _ (by omega)).mono ?_
  rintro e w1 ⟨rfl, hc1, b1⟩
  have HC1 := hid hc1
  have HB1 := hid b1
  clear hc1 b1
  go_wp2_with (first | (go_at_call 10; refine (num_any _ _).mono ?_; rintro e w2 ⟨rfl, rfl⟩) | (at_builtin; go_loud (refine wpList_append_row _ rfl (.tmp 47) (.tmp 48) 22 2 _ 1 8 rfl Try.underlying22 infoI rfl (by decide) (by decide) _ _ 0 [] rfl (own0 _ 2 1) ao n cap (vals l) rfl (by have := HN.out; simp; omega) HNC.out ((HRL.out.below HB1.out).below (alloc_below _ _)) (vals_one l) (by omega) (alloc_below _ _).size ?_; intro ao3 cap3 w3 own3 grow3; apply Hid.out)))
  have b3 := app_below grow3
  rw [Nat.zero_add, List.nil_append] at own3
  obtain ⟨R3, -, -, -⟩ := own_row own3
  have HR3 := hid R3
  have HC3 := hid (HC1.out.below b3)
  have HB3 := hid (q_trans HB1.out b3)
  clear own3 grow3 b3 R3
  unfold Hid
  go_wp2_with fail
  refine (lay_yes HC3.out ao3 n cap3 l (by simp [S.new]) HN.out HR3.out).mono ?_
  rintro e w4 ⟨rfl, hc4, k4⟩
  have HC4 := hid hc4
  have HB4 := hid (HB3.out.trans (k4.below _ HB3.out.size (fun i e => by omega)))
  clear hc4 k4
  go_wp2_with fail
  refine (lay_no HC4 bo m n cap' HN.out.symm hne).mono ?_
  rintro e w5 ⟨rfl, rfl⟩
  have HC5 : Hid (Cel w5 w0.heap.size (w0.heap.size + 1) w0.heap.size n none 0 ⟨lw, 0, []⟩) := by rw [HEW.out]; exact HC4.out
  have HB5 := HB4
  have HRW : Hid (Row w0 ao (vals lw)) := by rw [HEW.out]; exact HRL.out
  have HW : Hid (n = lw.length) := by rw [HEW.out]; exact HN.out
  have HB5' := hid HB5.out.size
  go_wp2_with (go_at_call 10; refine (num_any _ _).mono ?_; rintro e w6 ⟨rfl, rfl⟩)
  refine (lay_nil ao n cap _).mono ?_
  rintro e w7 ⟨rfl, rfl⟩
  go_wp2_with (go_at_call 10; refine (num_any _ _).mono ?_; rintro e w6 ⟨rfl, rfl⟩)
  refine (at_nil x _).mono ?_
  rintro e w8 ⟨rfl, rfl⟩
  have HRun : Hid (Run w0 w8 n none 0 ⟨lw, 0, []⟩ ao cap none 0 lw []) := by
    have hr : Row w8 ao (vals lw) := HRW.out.below HB5.out
    have hlt : ∀ a, ao = some a → 0 < lw.length → a.block < w0.heap.size := fun a e h0 => by
      obtain ⟨a', e', h⟩ := HRW.out.lt (by rw [len_vals]; exact h0)
      rw [e] at e'
      cases e'
      exact h
    exact { cel := HC5.out, row := hr, nil := HNC.out, avl := (fun a e h0 => Nat.lt_of_lt_of_le (hlt a e h0) HB5'.out), avf := (fun a e h0 f => by have := (HC5.out.lt _ f).1; have := hlt a e h0; omega), avt := (fun a b _ e _ => by cases e), own := World.ownsRow_nil _ _ _ _, atf := (fun b e => by cases e), low := HB5.out }
  have HLW := hid (show n = (⟨lw, 0, []⟩ : S).vs.length from HW.out)
  go_wp2_with fail
  refine (peek_any HC5 (show lw.length ≤ 5000 by have := HW.out; omega)).mono ?_
  rintro e w9 ⟨ao9, cap9, he9, own9, b9⟩
  rw [← HLW.out] at he9 own9
  subst he9
  obtain ⟨R9, -, -, -⟩ := own_row own9
  have HR9 := hid R9
  have HRun9 := hid (HRun.out.below b9)
  clear own9 R9 b9
  go_wp2_with fail
  refine (values_true ao9 ao n cap9 cap lw w9 (by omega) HW.out HR9.out HRun9.out.row).mono ?_
  rintro e w10 ⟨rfl, nd, rfl⟩
  have HRun10 := hid (HRun9.out.below (drewN_below _ nd))
  go_wp2_with fail
  refine (steps_any (hid HRun10.out.cel)).mono ?_
  rintro e w11 ⟨rfl, rfl⟩
  go_wp2_with fail
  refine (trace_any (hid HRun10.out.cel) (show ([] : List Rc).length ≤ 5000 by decide)).mono ?_
  rintro e w12 ⟨ao12, cap12, rfl, -, b12⟩
  have HRun12 := hid (HRun10.out.below b12)
  clear b12
  go_wp2_with fail
  go_loopw [14, 15] (fun wv i wr => ∃ k : Nat, k ≤ kn ∧ i = .int .i64 k ∧ ∃ tao tcap s av cv, wv = .slice av n cv ∧ Hid (Run w0 wr n tao tcap s av cv none 0 s.vs []) ∧ Hid (n = s.vs.length) ∧ Hid (s.n ≤ k)) (fun _ i _ => kn - (intOf i).toNat)
  case atStart => exact ⟨0, Nat.zero_le _, rfl, none, 0, ⟨lw, 0, []⟩, ao, cap, rfl, HRun12, HLW, Nat.le_refl 0⟩
  case round =>
    obtain ⟨k, hk, rfl, tao, tcap, s, av, cv, rfl, HR, HL, HSN⟩ := hrel
    by_cases hlt : k < kn
    · have i1 : (0 : Int) ≤ (k : Int) := by omega
      have i2 : (k : Int) < (kn : Int) := by omega
      obtain ⟨a, rfl, hat⟩ := atO_of HRO.out k (by have := HK.out; omega)
      obtain ⟨o, ho⟩ : ∃ o, ol.getD k O.zero = o := ⟨_, rfl⟩
      rw [ho] at hat
      have HATL : Hid (∀ x, Below w0.heap.size w0 x → AtO x (a.add (k * 5)) o) := fun x hx => by
        have c := fun {q : Addr} {v : Value} (h : w0.cell? q = some v) => (hx.cell (World.block_lt_of_cell? w0 q h)).trans h
        exact ⟨c hat.c0, c hat.c1, c hat.c2, c hat.c3, c hat.c4⟩
      clear ho hat
      obtain ⟨d0, d1, d2, d3, d4⟩ := HATL.out _ HR.out.low
      go_wp2_with fail
      refine (do_any HR.out.cel o (by have := HSN.out; omega)).mono ?_
      rintro e w13 ⟨rfl, tao', tcap', hc13, kk, mv⟩
      have HR13 := hid (HR.out.step hc13 kk mv)
      clear hc13 kk mv d0 d1 d2 d3 d4
      obtain ⟨d0, d1, d2, d3, d4⟩ := HATL.out _ HR13.out.low
      go_wp2_with fail
      refine (rapply_any av n cv s.vs o w13 HL.out (by omega) HR13.out.nil HR13.out.row).mono ?_
      rintro e w14 ⟨av6, cv6, rfl, R6, N6, nw6, b6⟩
      have HR14 := hid (HR13.out.app (apV_len s.vs o) R6 N6 nw6 b6)
      generalize hr : apR s.vs o = r
      generalize hX : w14.alloc (.cells #[.int .i64 r.o.k, .int .i64 r.o.c, .int .i64 r.o.a, .int .i64 r.o.v, .int .i64 r.o.w, .int .i64 r.got, .bool r.ok] 27) = X
      have alX : Below w14.heap.size w14 X := hX ▸ alloc_below w14 _
      have HRX := hid (HR14.out.below alX)
      rw [← S.step_vs] at HRX
      have HLX : Hid (n = (s.step o).vs.length) := by rw [S.step_len]; exact HL.out
      have HNX := hid (show (s.step o).n ≤ k + 1 by have := HSN.out; have := (S.run_n s [o]).2; simp [S.run] at this; omega)
      clear R6 N6 nw6 b6 alX d0 d1 d2 d3 d4 hr
      go_wp2_with fail
      clear hX
      go_roundw
      case rel => exact ⟨k + 1, by omega, by go_num, tao', tcap', _, av6, cv6, rfl, HRX, HLX, HNX⟩
      case measure => simp [intOf]; omega
    · obtain rfl : k = kn := by omega
      cases hin : inB x n with
      | true =>
        obtain ⟨j, rfl⟩ := Int.eq_ofNat_of_zero_le (inB_iff.1 hin).1
        have hj : j < n := by have := (inB_iff.1 hin).2; omega
        have i1 : (0 : Int) ≤ (j : Int) := by omega
        have i2 : (j : Int) < (n : Int) := by omega
        obtain ⟨y, hy⟩ : ∃ y, s.vs.getD j 0 = y := ⟨_, rfl⟩
        obtain ⟨av', rfl, ca⟩ := HR.out.row.cell j _ (vals_at s.vs j (by have := HL.out; omega))
        rw [hy] at ca
        have HY := hid hy
        clear hy hin
        go_wp2_with fail
        refine (peek_any (hid HR.out.cel) (by have := HL.out; omega)).mono ?_
        rintro e w15 ⟨ao15, cap15, he15, own15, b15⟩
        rw [← HL.out] at he15 own15
        subst he15
        obtain ⟨R15, -, -, -⟩ := own_row own15
        have HR15 := hid R15
        have HU15 := hid (HR.out.below b15)
        clear own15 R15 b15 ca
        go_wp2_with fail
        refine (values_true ao15 (some av') n cap15 cv s.vs w15 (by omega) HL.out HR15.out HU15.out.row).mono ?_
        rintro e w16 ⟨rfl, nd2, rfl⟩
        have HU16 := hid (HU15.out.below (drewN_below _ nd2))
        go_wp2_with fail
        refine (at_yes (hid HU16.out.cel) j n HL.out.symm hj y HY).mono ?_
        rintro e w17 ⟨rfl, rfl⟩
        go_wp2_with fail
        refine (live_any _).mono ?_
        rintro e w18 ⟨rfl, b18⟩
        have HBE := hid (q_trans HU16.out.low b18)
        clear b18
        go_wp2_with fail
        go_ret
        exact ⟨rfl, HBE.out⟩
      | false =>
        have HIN := hid hin
        have hx : (0 ≤ x ∧ ¬ x < n) ∨ ¬ 0 ≤ x := by have := inB_not.1 hin; omega
        clear hin
        rcases hx with ⟨hx0, hx1⟩ | hx0
        all_goals
          go_wp2_with fail
          refine (peek_any (hid HR.out.cel) (by have := HL.out; omega)).mono ?_
          rintro e w15 ⟨ao15, cap15, he15, own15, b15⟩
          rw [← HL.out] at he15 own15
          subst he15
          obtain ⟨R15, -, -, -⟩ := own_row own15
          have HR15 := hid R15
          have HU15 := hid (HR.out.below b15)
          clear own15 R15 b15
          go_wp2_with fail
          refine (values_true ao15 av n cap15 cv s.vs w15 (by omega) HL.out HR15.out HU15.out.row).mono ?_
          rintro e w16 ⟨rfl, nd2, rfl⟩
          have HU16 := hid (HU15.out.below (drewN_below _ nd2))
          go_wp2_with fail
          refine (at_no (hid HU16.out.cel) x n HL.out.symm HIN.out).mono ?_
          rintro e w17 ⟨rfl, rfl⟩
          go_wp2_with fail
          refine (live_any _).mono ?_
          rintro e w18 ⟨rfl, b18⟩
          have HBE := hid (q_trans HU16.out.low b18)
          clear b18
          go_wp2_with fail
          go_ret
          exact ⟨rfl, HBE.out⟩

theorem claid_any (ao : Option Addr) (l : List Int) (n cap : Nat) (bo : Option Addr) (l' : List Int) (m cap' : Nat) (co : Option Addr) (ol : List O) (kn cap'' : Nat) (x : Int) (w : World)
    (h1 : n = l.length) (h2 : n ≤ 9223372036854775807) (h3 : ao = none → cap = 0) (h4 : Row w ao (vals l)) (g1 : m = l'.length) (g2 : m ≤ 9223372036854775807) (g3 : bo = none → cap' = 0) (g4 : Row w bo (vals l')) (k1 : kn = ol.length) (_ : kn ≤ 9223372036854775807) (_ : co = none → cap'' = 0) (k4 : Row w co (ops ol)) :
    Calls Try.prog 4 #[.slice ao n cap, .slice bo m cap', .slice co kn cap'', .int .i64 x] w fun e w' => e = .returned (.bool true) ∧ Below w.heap.size w w' := by
  by_cases hs : n ≤ 100 ∧ m ≤ 100 ∧ kn ≤ 200
  · by_cases he : n = m
    · subst he
      exact claid_same ao bo co n kn cap cap' cap'' l l' _ ol x w hs.1 hs.2.2 h1 g1 k1 h3 g3 h4 g4 k4 rfl
    · exact claid_diff ao bo co n m kn cap cap' cap'' l _ ol x w hs.1 hs.2.1 hs.2.2 h1 k1 h3 h4 k4 (by simp; omega) (by simp; omega) rfl
  · exact claid_no ao bo co n m kn cap cap' cap'' x w h2 g2 (hid (by omega))
end Go.Proofs.Ytadobkecdcnjkab.Ce
