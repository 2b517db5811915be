/- The walk of CellsRuns: it answers true. -/
import Derived.Test.YtadobkecdcnjkaaCeRun
namespace Go.Proofs.Ytadobkecdcnjkaa.Ce
open Go.RowKit

set_option maxRecDepth 100000 in
set_option maxHeartbeats 1000000 in
theorem cruns_live (x : Int) (ao : Option Addr) (n cap : Nat) (w : World) (h : Hid (200 < n ∨ (n ≤ 200 ∧ 100 < x ∧ x ≤ 4096))) :
    Calls Try.prog 3 #[.int .i64 x, .slice ao n cap] w fun e w' => e = .returned (.bool true) ∧ Below w.heap.size w w' := by
  rcases h.out with h1 | ⟨h1, h2, h3⟩
  · have hd : decide ((n : Int) ≤ 200) = false := by simp; omega
    clear h
    go_enter Try.func3, Try.ntmps3
    go_wp2_with (first | (go_at_call 9; refine (small_any _ _ _ _).mono ?_; rintro e w' ⟨rfl, rfl⟩) | (go_at_call 10; refine (live_any _).mono ?_; rintro e w6 ⟨rfl, b6⟩))
    go_ret
    exact ⟨rfl, b6⟩
  · have hd : decide ((n : Int) ≤ 200) = true := by simp; omega
    clear h
    go_enter Try.func3, Try.ntmps3
    go_wp2_with (first | (go_at_call 9; refine (small_any _ _ _ _).mono ?_; rintro e w' ⟨rfl, rfl⟩) | (go_at_call 10; refine (live_any _).mono ?_; rintro e w6 ⟨rfl, b6⟩))
    go_ret
    exact ⟨rfl, b6⟩

set_option maxRecDepth 100000 in
set_option maxHeartbeats 1000000 in
theorem cruns_no (x : Int) (ao : Option Addr) (n cap : Nat) (w : World) (h1 : n ≤ 200) (h : Hid (x < 0 ∨ 4096 < x)) :
    Calls Try.prog 3 #[.int .i64 x, .slice ao n cap] w fun e w' => e = .returned (.bool true) ∧ Below w.heap.size w w' := by
  have hd : decide ((n : Int) ≤ 200) = true := by simp; omega
  rcases h.out with h2 | h2
  · have h3 : ¬ 100 < x := by omega
    have h4 : ¬ 0 ≤ x := by omega
    go_enter Try.func3, Try.ntmps3
    go_wp2_with (first | (go_at_call 9; refine (small_any _ _ _ _).mono ?_; rintro e w' ⟨rfl, rfl⟩) | (go_at_call 11; refine (new_no _ _ h).mono ?_; rintro e w' ⟨rfl, rfl⟩) | (go_at_call 12; refine (num_any _ _).mono ?_; rintro e w' ⟨rfl, rfl⟩) | (go_at_call 10; refine (live_any _).mono ?_; rintro e w6 ⟨rfl, b6⟩))
    go_ret
    exact ⟨rfl, b6⟩
  · have h3 : 100 < x := by omega
    have h4 : 0 ≤ x := by omega
    have h5 : ¬ x ≤ 4096 := by omega
    go_enter Try.func3, Try.ntmps3
    go_wp2_with (first | (go_at_call 9; refine (small_any _ _ _ _).mono ?_; rintro e w' ⟨rfl, rfl⟩) | (go_at_call 11; refine (new_no _ _ h).mono ?_; rintro e w' ⟨rfl, rfl⟩) | (go_at_call 12; refine (num_any _ _).mono ?_; rintro e w' ⟨rfl, rfl⟩) | (go_at_call 10; refine (live_any _).mono ?_; rintro e w6 ⟨rfl, b6⟩))
    go_ret
    exact ⟨rfl, b6⟩

theorem do_yes' {w : World} {B p g vcap : Nat} {tao : Option Addr} {tcap : Nat} {s : S} {o : O} {r : Rc} (HC : Cel w B p g vcap tao tcap s) (hsn : s.n ≤ 5000) (hr : apR s.vs o = r) (hok : okO o s.vs.length = true) :
    Calls Try.prog 14 #[.pointer (some ⟨p, 0, none⟩), (.agg #[.int .i64 o.k, .int .i64 o.c, .int .i64 o.a, .int .i64 o.v, .int .i64 o.w])] w fun e w' => e = .returned (.tuple #[.int .i64 r.got, .bool r.ok, .int .i64 0]) ∧ ∃ tao' tcap', Cel w' B p g vcap tao' tcap' (s.step o) ∧ Kept (foot p g tao) w w' ∧ Moved w tao tao' := by
  have h := do_any HC o hsn
  rwa [hr, chk_yes hok] at h
theorem do_no' {w : World} {B p g vcap : Nat} {tao : Option Addr} {tcap : Nat} {s : S} {o : O} {r : Rc} (HC : Cel w B p g vcap tao tcap s) (hsn : s.n ≤ 5000) (hr : apR s.vs o = r) (hok : okO o s.vs.length = false) :
    Calls Try.prog 14 #[.pointer (some ⟨p, 0, none⟩), (.agg #[.int .i64 o.k, .int .i64 o.c, .int .i64 o.a, .int .i64 o.v, .int .i64 o.w])] w fun e w' => e = .returned (.tuple #[.int .i64 r.got, .bool r.ok, .int .i64 2]) ∧ ∃ tao' tcap', Cel w' B p g vcap tao' tcap' (s.step o) ∧ Kept (foot p g tao) w w' ∧ Moved w tao tao' := by
  have h := do_any HC o hsn
  rwa [hr, chk_no hok] at h

set_option maxRecDepth 100000 in
set_option maxHeartbeats 4000000 in
theorem cruns_yes (m : Nat) (ao : Option Addr) (n cap : Nat) (l : List O) (w : World) (hm : m ≤ 100) (hn : n ≤ 200) (HN : Hid (n = l.length)) (HR : Hid (Row w ao (ops l))) :
    Calls Try.prog 3 #[.int .i64 m, .slice ao n cap] w fun e w' => e = .returned (.bool true) ∧ Below w.heap.size w w' := by
  have hd : decide ((n : Int) ≤ 200) = true := by simp; omega
  go_enter Try.func3, Try.ntmps3
  go_wp2_with (go_at_call 9; refine (small_any _ _ _ _).mono ?_; rintro e w0 ⟨rfl, rfl⟩)
  clear hd
  refine (new_yes m _ (by omega)).mono ?_
  rintro e w1 ⟨rfl, hc1, b1⟩
  have HC1 := hid hc1
  have HB1 := hid b1
  clear hc1 b1
  go_wp2_with (go_at_call 12; refine (num_any _ _).mono ?_; rintro e w2 ⟨rfl, rfl⟩)
  refine (zero_any m _ (by omega)).mono ?_
  rintro e w3 ⟨aoz, capz, rfl, ownz, bz⟩
  have HR0 : Hid (Run w0 w3 m none 0 (S.new m) aoz capz none 0 (S.new m).vs (S.new m).tr) := by
    obtain ⟨Rz, -, Nz, Bz⟩ := own_row ownz
    have hc := HC1.out.below bz
    exact { cel := hc, row := Rz, nil := Nz, avl := fun a e _ => (Bz a e).2, avf := (fun a e _ f => by have := (HC1.out.lt _ f).2; have := (Bz a e).1; omega), avt := (fun a b _ e _ => by cases e), own := World.ownsRow_nil _ _ _ _, atf := (fun b e => by cases e), low := q_trans HB1.out bz }
  clear ownz bz
  go_wp2_with fail
  go_loopw [7, 8, 9] (fun wv tv i wr => ∃ k : Nat, k ≤ n ∧ i = .int .i64 k ∧ ∃ tao tcap s av cv ta ct tn, wv = .slice av m cv ∧ tv = .slice ta tn ct ∧ Hid (Run w0 wr m tao tcap s av cv ta ct s.vs s.tr) ∧ Hid (tn = s.tr.length) ∧ Hid (m = s.vs.length) ∧ Hid (s.n = s.tr.length) ∧ tn ≤ k) (fun _ _ i _ => n - (intOf i).toNat)
  case atStart => exact ⟨0, Nat.zero_le _, rfl, none, 0, S.new m, aoz, capz, none, 0, 0, rfl, rfl, HR0, rfl, by simp [S.new, Hid], rfl, Nat.le_refl 0⟩
  case round =>
    obtain ⟨k, hk, rfl, tao, tcap, s, av, cv, ta, ct, tn, rfl, rfl, HRun, HTN, HVL, HSN, htn⟩ := hrel
    by_cases hlt : k < n
    · have i1 : (0 : Int) ≤ (k : Int) := by omega
      have i2 : (k : Int) < (n : Int) := by omega
      obtain ⟨a, rfl, hat⟩ := atO_of (HR.out.below HRun.out.low) k (by have := HN.out; omega)
      obtain ⟨o, ho⟩ : ∃ o, l.getD k O.zero = o := ⟨_, rfl⟩
      have HAT : Hid (AtO w0 (a.add (k * 5)) o) := by
        obtain ⟨a', e, h⟩ := atO_of HR.out k (by have := HN.out; omega)
        cases e
        rw [ho] at h
        exact h
      have HATL : Hid (∀ x, Below w0.heap.size w0 x → AtO x (a.add (k * 5)) o) := fun x hx => by
        have c := fun {q : Addr} {v : Value} (h : w0.cell? q = some v) => (hx.cell (World.block_lt_of_cell? w0 q h)).trans h
        exact ⟨c HAT.out.c0, c HAT.out.c1, c HAT.out.c2, c HAT.out.c3, c HAT.out.c4⟩
      clear ho hat HAT
      obtain ⟨d0, d1, d2, d3, d4⟩ := HATL.out _ HRun.out.low
      obtain ⟨r, hr⟩ : ∃ r, apR s.vs o = r := ⟨_, rfl⟩
      have HAR := hid hr
      clear hr
      have HSB := hid (show s.n ≤ 5000 by have := HSN.out; have := HTN.out; omega)
      cases hok : okO o m with
      | true =>
        have HOK := hid hok
        have HOK' : Hid (okO o s.vs.length = true) := by rw [← HVL.out]; exact hok
        clear hok
        go_wp2_with fail
        refine (do_yes' HRun.out.cel HSB.out HAR.out HOK'.out).mono ?_
        rintro e w5 ⟨rfl, tao', tcap', hc5, kk, mv⟩
        have HR5 := hid (HRun.out.step hc5 kk mv)
        clear hc5 kk mv d0 d1 d2 d3 d4
        obtain ⟨d0, d1, d2, d3, d4⟩ := HATL.out _ HR5.out.low
        go_wp2_with fail
        have ra := rapply_any av m cv s.vs o w5 HVL.out (by omega) HR5.out.nil HR5.out.row
        rw [HAR.out] at ra
        refine ra.mono ?_
        rintro e w6 ⟨av6, cv6, rfl, R6, N6, nw6, b6⟩
        have HR6 := hid (HR5.out.app (apV_len s.vs o) R6 N6 nw6 b6)
        generalize hX : w6.alloc (.cells #[.int .i64 r.o.k, .int .i64 r.o.c, .int .i64 r.o.a, .int .i64 r.o.v, .int .i64 r.o.w, .int .i64 r.got, .bool r.ok] 38) = X
        have alX : Below w6.heap.size w6 X := hX ▸ alloc_below w6 _
        have HRX := hid (HR6.out.below alX)
        have HPX : Hid (InR X w6.heap.size r) := hX ▸ inR_new w6 r 38
        clear R6 N6 nw6 b6 ra alX d0 d1 d2 d3 d4
        obtain ⟨d0, d1, d2, d3, d4⟩ := HATL.out _ HRX.out.low
        go_wp2_with fail
        clear hX
        refine (is_yes o m _ HOK.out).mono ?_
        rintro e w7 ⟨rfl, b7⟩
        have HR7 := hid (HRX.out.below b7)
        have HP7 := hid (HPX.out.below b7)
        clear b7 d0 d1 d2 d3 d4
        obtain ⟨d0, d1, d2, d3, d4⟩ := HATL.out _ HR7.out.low
        obtain ⟨r0, r1, r2, r3, r4, r5, r6, -⟩ := HP7.out
        go_wp2_with (go_at_call 12; refine (num_any _ _).mono ?_; rintro e w8 ⟨rfl, rfl⟩)
        refine (check_yes o m _ HOK.out).mono ?_
        rintro e w9 ⟨rfl, b9⟩
        have HR9 := hid (HR7.out.below b9)
        have HP9 := hid (HP7.out.below b9)
        clear b9 d0 d1 d2 d3 d4 r0 r1 r2 r3 r4 r5 r6
        obtain ⟨r0, r1, r2, r3, r4, r5, r6, -⟩ := HP9.out
        obtain ⟨i0, hi, hz0, hz1, hz2⟩ := info_of infoR
        have HI := hid hi
        have HZ := hid hz0
        have HZ1 := hid hz1
        have HZ2 := hid hz2
        clear hi hz0 hz1 hz2
        have HBS := hid (HR9.out.low.size)
        have HO9 := hid HR9.out.own
        rw [← HTN.out] at HO9
        go_wp2_with (first | (go_at_call 12; refine (num_any _ _).mono ?_; rintro e w10 ⟨rfl, rfl⟩) | (at_builtin; go_loud (refine wpList_append_lies _ rfl (.tmp 123) (.tmp 125) 32 rfl w0.heap.size 38 i0 _ 7 56 Try.underlying32 HI.out HZ.out HZ1.out HZ2.out rfl (by decide) (.slice ta tn ct) tn (recs s.tr) rfl (HO9.out.alloc _) ⟨_, 0, none⟩ 1 1 (rcC r) rfl rfl (World.news_of_block (heap_alloc_new _ _)) (rcC_one r) (by decide) (by unfold maxLen; omega) (by omega) (by have := HBS.out; simp; omega) _ rfl ?_; intro g1 cap1 w11 own1 grow1 hat1 hlt1; apply Hid.out)))
        have HR11 : Hid (Run w0 w11 m tao' tcap' (s.step o) av6 cv6 (some ⟨g1, 0, none⟩) cap1 (apV s.vs o) (s.tr ++ [r])) := by
          rw [HTN.out] at own1 grow1 hat1
          exact HR9.out.more own1 grow1 (by simpa using hat1)
        have es : (s.step o).vs = apV s.vs o := S.step_vs s o
        have et : (s.step o).tr = s.tr ++ [r] := by rw [S.step_yes HOK'.out, if_pos (by rw [← HTN.out]; omega), HAR.out]
        have en : (s.step o).n = s.n + 1 := by rw [S.step_yes HOK'.out]
        rw [← es, ← et] at HR11
        have HVL2 : Hid (m = (s.step o).vs.length) := by rw [S.step_len]; exact HVL.out
        have HTN2 : Hid (tn + 1 = (s.step o).tr.length) := by rw [et, List.length_append, ← HTN.out]; exact rfl
        have HSN2 : Hid ((s.step o).n = (s.step o).tr.length) := by rw [en, HSN.out, et, List.length_append]; exact rfl
        clear own1 grow1 hat1 hlt1 es et en r0 r1 r2 r3 r4 r5 r6
        obtain ⟨s', hs'⟩ : ∃ s', s.step o = s' := ⟨_, rfl⟩
        rw [hs'] at HR11 HVL2 HTN2 HSN2
        clear hs'
        unfold Hid
        go_wp2_with fail
        refine (peek_any HR11.out.cel (by have := HVL2.out; omega)).mono ?_
        rintro e w12 ⟨ao12, cap12, he12, own12, b12⟩
        rw [← HVL2.out] at he12 own12
        subst he12
        obtain ⟨R12, -, -, -⟩ := own_row own12
        have HRP := hid R12
        have HR12 := hid (HR11.out.below b12)
        clear own12 R12 b12
        go_wp2_with fail
        refine (values_true ao12 av6 m cap12 cv6 s'.vs w12 (by omega) HVL2.out HRP.out HR12.out.row).mono ?_
        rintro e w13 ⟨rfl, nd, rfl⟩
        have HR13 := hid (HR12.out.below (drewN_below _ nd))
        have HSE := hid (steps_any (hid HR13.out.cel))
        rw [HSN2.out, ← HTN2.out] at HSE
        have HLE := hid (len_any (hid HR13.out.cel))
        rw [← HVL2.out] at HLE
        go_wp2_with fail
        refine HSE.out.mono ?_
        rintro e w14 ⟨rfl, rfl⟩
        go_wp2_with fail
        refine HLE.out.mono ?_
        rintro e w15 ⟨rfl, rfl⟩
        go_wp2_with fail
        go_roundw
        case rel => exact ⟨k + 1, by omega, by go_num, tao', tcap', s', av6, cv6, _, _, _, rfl, rfl, HR13, HTN2, HVL2, HSN2, by omega⟩
        case measure => simp [intOf]; omega
      | false =>
        have HOK := hid hok
        have HOK' : Hid (okO o s.vs.length = false) := by rw [← HVL.out]; exact hok
        clear hok
        go_wp2_with fail
        refine (do_no' HRun.out.cel HSB.out HAR.out HOK'.out).mono ?_
        rintro e w5 ⟨rfl, tao', tcap', hc5, kk, mv⟩
        have HR5 := hid (HRun.out.step hc5 kk mv)
        clear hc5 kk mv d0 d1 d2 d3 d4
        obtain ⟨d0, d1, d2, d3, d4⟩ := HATL.out _ HR5.out.low
        go_wp2_with fail
        have ra := rapply_any av m cv s.vs o w5 HVL.out (by omega) HR5.out.nil HR5.out.row
        rw [HAR.out] at ra
        refine ra.mono ?_
        rintro e w6 ⟨av6, cv6, rfl, R6, N6, nw6, b6⟩
        have HR6 := hid (HR5.out.app (apV_len s.vs o) R6 N6 nw6 b6)
        generalize hX : w6.alloc (.cells #[.int .i64 r.o.k, .int .i64 r.o.c, .int .i64 r.o.a, .int .i64 r.o.v, .int .i64 r.o.w, .int .i64 r.got, .bool r.ok] 38) = X
        have alX : Below w6.heap.size w6 X := hX ▸ alloc_below w6 _
        have HRX := hid (HR6.out.below alX)
        have HPX : Hid (InR X w6.heap.size r) := hX ▸ inR_new w6 r 38
        clear R6 N6 nw6 b6 ra alX d0 d1 d2 d3 d4
        obtain ⟨d0, d1, d2, d3, d4⟩ := HATL.out _ HRX.out.low
        go_wp2_with fail
        clear hX
        refine (is_no o m _ HOK.out).mono ?_
        rintro e w7 ⟨rfl, b7⟩
        have HR7 := hid (HRX.out.below b7)
        have HP7 := hid (HPX.out.below b7)
        clear b7 d0 d1 d2 d3 d4
        obtain ⟨d0, d1, d2, d3, d4⟩ := HATL.out _ HR7.out.low
        obtain ⟨r0, r1, r2, r3, r4, r5, r6, -⟩ := HP7.out
        go_wp2_with (go_at_call 12; refine (num_any _ _).mono ?_; rintro e w8 ⟨rfl, rfl⟩)
        refine (check_no o m _ HOK.out).mono ?_
        rintro e w9 ⟨rfl, b9⟩
        have HR9 := hid (HR7.out.below b9)
        have HP9 := hid (HP7.out.below b9)
        clear b9 d0 d1 d2 d3 d4 r0 r1 r2 r3 r4 r5 r6
        obtain ⟨r0, r1, r2, r3, r4, r5, r6, -⟩ := HP9.out
        have es : s.step o = s := S.step_no HOK'.out
        have HR11 := HR9
        rw [es, apV_no HOK'.out] at HR11
        have HVL2 := HVL
        have HTN2 := HTN
        have HSN2 := HSN
        obtain ⟨s', hs'⟩ : ∃ s', s = s' := ⟨_, rfl⟩
        rw [hs'] at HR11 HVL2 HTN2 HSN2
        clear hs' es
        go_wp2_with (go_at_call 12; refine (num_any _ _).mono ?_; rintro e w10 ⟨rfl, rfl⟩)
        clear r0 r1 r2 r3 r4 r5 r6
        refine (peek_any HR11.out.cel (by have := HVL2.out; omega)).mono ?_
        rintro e w12 ⟨ao12, cap12, he12, own12, b12⟩
        rw [← HVL2.out] at he12 own12
        subst he12
        obtain ⟨R12, -, -, -⟩ := own_row own12
        have HRP := hid R12
        have HR12 := hid (HR11.out.below b12)
        clear own12 R12 b12
        go_wp2_with fail
        refine (values_true ao12 av6 m cap12 cv6 s'.vs w12 (by omega) HVL2.out HRP.out HR12.out.row).mono ?_
        rintro e w13 ⟨rfl, nd, rfl⟩
        have HR13 := hid (HR12.out.below (drewN_below _ nd))
        have HSE := hid (steps_any (hid HR13.out.cel))
        rw [HSN2.out, ← HTN2.out] at HSE
        have HLE := hid (len_any (hid HR13.out.cel))
        rw [← HVL2.out] at HLE
        go_wp2_with fail
        refine HSE.out.mono ?_
        rintro e w14 ⟨rfl, rfl⟩
        go_wp2_with fail
        refine HLE.out.mono ?_
        rintro e w15 ⟨rfl, rfl⟩
        go_wp2_with fail
        go_roundw
        case rel => exact ⟨k + 1, by omega, by go_num, tao', tcap', s', av6, cv6, _, _, _, rfl, rfl, HR13, HTN2, HVL2, HSN2, by omega⟩
        case measure => simp [intOf]; omega
    · obtain rfl : k = n := by omega
      have HTL := hid (show s.tr.length ≤ 5000 by rw [← HTN.out]; omega)
      go_wp2_with fail
      refine (trace_any HRun.out.cel HTL.out).mono ?_
      rintro e w4 ⟨aot, capt, he4, ownt, bt⟩
      rw [← HTN.out] at he4 ownt
      subst he4
      obtain ⟨Rt, -, -, -⟩ := own_row ownt
      have HRt := hid Rt
      have HO4 := hid (own_below HRun.out.own bt)
      rw [← HTN.out] at HO4
      have HRo := hid (own_row HO4.out).1
      have HB4 := hid (q_trans HRun.out.low bt)
      clear ownt Rt bt
      go_wp2_with fail
      refine (recs_any aot ta tn capt ct s.tr w4 (by omega) HTN.out HRt.out HRo.out).mono ?_
      rintro e w5 ⟨rfl, nd, rfl⟩
      go_wp2_with fail
      refine (live_any _).mono ?_
      rintro e w6 ⟨rfl, b6⟩
      have HBE := hid (q_trans (q_trans HB4.out (drewN_below _ nd)) b6)
      clear b6
      go_wp2_with fail
      go_ret
      exact ⟨rfl, HBE.out⟩

theorem cruns_any (x : Int) (ao : Option Addr) (l : List O) (n cap : Nat) (w : World) (hl : n = l.length) (_ : n ≤ 9223372036854775807) (_ : ao = none → cap = 0) (hr : Row w ao (ops l)) :
    Calls Try.prog 3 #[.int .i64 x, .slice ao n cap] w fun e w' => e = .returned (.bool true) ∧ Below w.heap.size w w' := by
  by_cases h1 : n ≤ 200
  · by_cases h2 : x < 0 ∨ 4096 < x
    · exact cruns_no x ao n cap w h1 h2
    · by_cases h3 : x ≤ 100
      · obtain ⟨m, rfl⟩ := Int.eq_ofNat_of_zero_le (show 0 ≤ x by omega)
        exact cruns_yes m ao n cap l w (by omega) h1 hl hr
      · exact cruns_live x ao n cap w (hid (by omega))
  · exact cruns_live x ao n cap w (hid (by omega))
end Go.Proofs.Ytadobkecdcnjkaa.Ce
