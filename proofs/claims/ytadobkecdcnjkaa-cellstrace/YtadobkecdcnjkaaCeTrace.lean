/- The walk of CellsTrace: it answers true. -/
import Derived.Test.YtadobkecdcnjkaaCeOps
namespace Go.Proofs.Ytadobkecdcnjkaa.Ce
open Go.RowKit

/-- The values behind the steps of a trace. -/
def play (v : List Int) (t : List Rc) : List Int := t.foldl (fun v r => apV v r.o) v
theorem play_snoc (v : List Int) (t : List Rc) (r : Rc) : play v (t ++ [r]) = apV (play v t) r.o := by simp [play]
theorem play_len (v : List Int) (t : List Rc) : (play v t).length = v.length := by
  induction t generalizing v with
  | nil => rfl
  | cons r t ih => exact (ih (apV v r.o)).trans (apV_len v r.o)
/-- A trace that tells the values: each record is that of its step. -/
structure Tells (v : List Int) (s : S) : Prop where
  vs : s.vs = play v s.tr
  n : s.n = s.tr.length
  each : ∀ i, i < s.tr.length → s.tr.getD i Rc.zero = apR (play v (s.tr.take i)) (s.tr.getD i Rc.zero).o
theorem tells_new (n : Nat) : Tells (List.replicate n 0) (S.new n) := ⟨rfl, rfl, fun i h => by simp [S.new] at h⟩
theorem Tells.step {v : List Int} {s : S} (h : Tells v s) (o : O) (hn : s.n < 2000) : Tells v (s.step o) := by
  cases hok : okO o s.vs.length with
  | false => rw [S.step_no hok]; exact h
  | true =>
    have ht : s.tr.length < 2000 := by rw [← h.n]; exact hn
    rw [S.step_yes hok, if_pos ht]
    have eo : (apR s.vs o).o = o := by rw [apR_yes hok]
    refine ⟨?_, by simp [h.n], fun i hi => ?_⟩
    · show apV s.vs o = play v (s.tr ++ [apR s.vs o])
      rw [play_snoc, eo, ← h.vs]
    · simp only at hi ⊢
      by_cases e : i < s.tr.length
      · have e1 : (s.tr ++ [apR s.vs o]).getD i Rc.zero = s.tr.getD i Rc.zero := by simp [List.getD, List.getElem?_append_left e]
        have e2 : (s.tr ++ [apR s.vs o]).take i = s.tr.take i := by rw [List.take_append_of_le_length (by omega)]
        rw [e1, e2]
        exact h.each i e
      · have e0 : i = s.tr.length := by simp at hi; omega
        subst e0
        have e1 : (s.tr ++ [apR s.vs o]).getD s.tr.length Rc.zero = apR s.vs o := by simp [List.getD]
        have e2 : (s.tr ++ [apR s.vs o]).take s.tr.length = s.tr := by simp
        rw [e1, e2, eo, ← h.vs]

set_option maxRecDepth 100000 in
set_option maxHeartbeats 1000000 in
theorem ctrace_no (x : Int) (ao : Option Addr) (n cap : Nat) (w : World) (h : Hid (200 < n ∨ (n ≤ 200 ∧ x < 0) ∨ (n ≤ 200 ∧ 0 ≤ x ∧ 100 < x))) :
    Calls Try.prog 5 #[.int .i64 x, .slice ao n cap] w fun e w' => e = .returned (.bool true) ∧ Below w.heap.size w w' := by
  rcases h.out with h1 | ⟨h1, h2⟩ | ⟨h1, h2, h3⟩
  · have hd : decide ((n : Int) ≤ 200) = false := by simp; omega
    clear h
    go_enter Try.func5, Try.ntmps5
    go_wp2_with (first | (go_at_call 9; refine (small_any _ _ _ _).mono ?_; rintro e w' ⟨rfl, rfl⟩) | (go_at_call 10; refine (live_any _).mono ?_; rintro e w6 ⟨rfl, b6⟩))
    go_ret
    exact ⟨rfl, b6⟩
  · have hd : decide ((n : Int) ≤ 200) = true := by simp; omega
    clear h
    go_enter Try.func5, Try.ntmps5
    go_wp2_with (first | (go_at_call 9; refine (small_any _ _ _ _).mono ?_; rintro e w' ⟨rfl, rfl⟩) | (go_at_call 10; refine (live_any _).mono ?_; rintro e w6 ⟨rfl, b6⟩))
    go_ret
    exact ⟨rfl, b6⟩
  · have hd : decide ((n : Int) ≤ 200) = true := by simp; omega
    clear h
    go_enter Try.func5, Try.ntmps5
    go_wp2_with (first | (go_at_call 9; refine (small_any _ _ _ _).mono ?_; rintro e w' ⟨rfl, rfl⟩) | (go_at_call 10; refine (live_any _).mono ?_; rintro e w6 ⟨rfl, b6⟩))
    go_ret
    exact ⟨rfl, b6⟩

set_option maxRecDepth 100000 in
set_option maxHeartbeats 2000000 in
theorem ctrace_yes (m : Nat) (ao : Option Addr) (n cap : Nat) (l : List O) (w : World) (hm : m ≤ 100) (hn : n ≤ 200) (HN : Hid (n = l.length)) (HR : Hid (Row w ao (ops l))) :
    Calls Try.prog 5 #[.int .i64 m, .slice ao n cap] w fun e w' => e = .returned (.bool true) ∧ Below w.heap.size w w' := by
  have hd : decide ((n : Int) ≤ 200) = true := by simp; omega
  go_enter Try.func5, Try.ntmps5
  go_wp2_with (go_at_call 9; refine (small_any _ _ _ _).mono ?_; rintro e w0 ⟨rfl, rfl⟩)
  clear hd
  refine (new_yes m _ (by omega)).mono ?_
  rintro e w1 ⟨rfl, hc1, b1⟩
  have HC1 := hid hc1
  have HB1 := hid b1
  clear hc1 b1
  go_wp2_with (go_at_call 12; refine (num_any _ _).mono ?_; rintro e w2 ⟨rfl, rfl⟩)
  go_loopw [7] (fun i wr => ∃ k : Nat, k ≤ n ∧ i = .int .i64 k ∧ ∃ tao tcap s, Hid (Cel wr w0.heap.size (w0.heap.size + 1) w0.heap.size m tao tcap s) ∧ Hid (Tells (List.replicate m 0) s) ∧ Hid (s.n ≤ k) ∧ Hid (Below w0.heap.size w0 wr)) (fun i _ => n - (intOf i).toNat)
  case atStart => exact ⟨0, Nat.zero_le _, rfl, none, 0, S.new m, HC1, tells_new m, Nat.le_refl 0, HB1⟩
  case round =>
    obtain ⟨k, hk, rfl, tao, tcap, s, HC, HS, HSN, HB⟩ := hrel
    by_cases hlt : k < n
    · have i1 : (0 : Int) ≤ (k : Int) := by omega
      have i2 : (k : Int) < (n : Int) := by omega
      obtain ⟨a, rfl, hat⟩ := atO_of (HR.out.below HB.out) k (by have := HN.out; omega)
      obtain ⟨o, ho⟩ : ∃ o, l.getD k O.zero = o := ⟨_, rfl⟩
      rw [ho] at hat
      clear ho
      obtain ⟨d0, d1, d2, d3, d4⟩ := hat
      go_wp2_with fail
      refine (do_any HC.out o (by have := HSN.out; omega)).mono ?_
      rintro e w5 ⟨rfl, tao', tcap', hc5, kk, -⟩
      have HC5 := hid hc5
      have HS5 := hid (HS.out.step o (by have := HSN.out; omega))
      have HN5 := hid (show (s.step o).n ≤ k + 1 by have := HSN.out; have := (S.run_n s [o]).2; simp [S.run] at this; omega)
      have HB5 := hid (HC.out.foot_below kk HB.out (Nat.le_refl _))
      clear hc5 kk d0 d1 d2 d3 d4
      go_wp2_with fail
      go_roundw
      case rel => exact ⟨k + 1, by omega, by go_num, tao', tcap', _, HC5, HS5, HN5, HB5⟩
      case measure => simp [intOf]; omega
    · obtain rfl : k = n := by omega
      have HVL : Hid (m = s.vs.length) := by rw [HS.out.vs, play_len]; simp [Hid]
      have HTL := hid (show s.tr.length ≤ 200 by rw [← HS.out.n]; have := HSN.out; omega)
      go_wp2_with fail
      refine (zero_any m _ (by omega)).mono ?_
      rintro e w3 ⟨aoz, capz, rfl, ownz, bz⟩
      obtain ⟨Rz, -, Nz, -⟩ := own_row ownz
      have HRz := hid Rz
      have HNz := hid Nz
      have HCz := hid (HC.out.below bz)
      have HBz := hid (q_trans HB.out bz)
      clear ownz Rz Nz bz
      go_wp2_with fail
      refine (trace_any HCz (by have := HTL.out; omega)).mono ?_
      rintro e w4 ⟨aot, capt, rfl, ownt, bt⟩
      obtain ⟨Rt, -, -, -⟩ := own_row ownt
      obtain ⟨tn, htn⟩ : ∃ tn, s.tr.length = tn := ⟨_, rfl⟩
      rw [htn]
      have HTN := hid htn
      have HTN2 := hid (show tn ≤ 200 by rw [← htn]; exact HTL.out)
      have HRt := hid Rt
      have HR0 := hid (HRz.out.below bt)
      have HC4 := hid (HCz.out.below bt)
      have HB4 := hid (q_trans HBz.out bt)
      clear ownt Rt bt htn HCz HBz HRz
      go_wp2_with fail
      go_loopw [8, 10] (fun v i wr => ∃ j : Nat, j ≤ tn ∧ i = .int .i64 j ∧ ∃ av cv, v = .slice av m cv ∧ Hid (Row wr av (vals (play (List.replicate m 0) (s.tr.take j)))) ∧ Hid (av = none → cv = 0) ∧ Hid (Below w4.heap.size w4 wr)) (fun _ i _ => tn - (intOf i).toNat)
      case atStart => exact ⟨0, Nat.zero_le _, rfl, aoz, capz, rfl, HR0, HNz, Below.refl _ _⟩
      case round =>
        obtain ⟨j, hj, rfl, av, cv, rfl, HV, HNV, HBV⟩ := hrel
        have j3 := HTN2.out
        by_cases hjt : j < tn
        · have j1 : (0 : Int) ≤ (j : Int) := by omega
          have j2 : (j : Int) < (tn : Int) := by omega
          have hjl : j < s.tr.length := by rw [HTN.out]; exact hjt
          obtain ⟨at', rfl, hat⟩ := atR_of (HRt.out.below HBV.out) j hjl
          obtain ⟨r, hr⟩ : ∃ r, s.tr.getD j Rc.zero = r := ⟨_, rfl⟩
          have HER := hid (HS.out.each j hjl)
          rw [hr] at hat HER
          have HTS := hid (take_snoc s.tr Rc.zero j hjl)
          rw [hr] at HTS
          clear hr
          have hlow : at'.block < wr.heap.size := by have := World.block_lt_of_cell? _ _ hat.c0; rwa [add_block] at this
          obtain ⟨a0, a1, a2, a3, a4, a5, a6⟩ := hat
          have he := eq7 r r
          rw [eqRc_iff.2 rfl] at he
          go_wp2_with fail
          have ap := apply_any av m cv _ r.o wr (by rw [play_len]; simp) (by omega) HNV.out HV.out
          rw [← HER.out] at ap
          refine ap.mono ?_
          rintro e w7 ⟨ao7, cap7, rfl, own7, b7⟩
          obtain ⟨R7, -, N7, -⟩ := own_row own7
          generalize hW : w7.alloc (.cells #[.int .i64 r.o.k, .int .i64 r.o.c, .int .i64 r.o.a, .int .i64 r.o.v, .int .i64 r.o.w, .int .i64 r.got, .bool r.ok] 38) = W
          have al7 : Below w7.heap.size w7 W := hW ▸ alloc_below w7 _
          have HB7 := hid (q_trans HBV.out (q_trans b7 al7))
          have HV7 : Hid (Row W ao7 (vals (play (List.replicate m 0) (s.tr.take (j + 1))))) := by
            rw [HTS.out, play_snoc]
            exact R7.below al7
          have HN7 := hid N7
          have HP7 : InR W w7.heap.size r := hW ▸ inR_new w7 r 38
          have cc := fun {q : Addr} {v : Value} (h : wr.cell? q = some v) => ((q_trans b7 al7).cell (World.block_lt_of_cell? wr q h)).trans h
          have z0 := cc a0
          have z1 := cc a1
          have z2 := cc a2
          have z3 := cc a3
          have z4 := cc a4
          have z5 := cc a5
          have z6 := cc a6
          clear own7 R7 N7 ap b7 al7 a0 a1 a2 a3 a4 a5 a6 cc
          obtain ⟨r0, r1, r2, r3, r4, r5, r6, -⟩ := HP7
          go_wp2_with fail
          clear hW
          go_quiet (fail)
          go_wp2_with fail
          go_roundw
          case rel => exact ⟨j + 1, by omega, by go_num, ao7, cap7, rfl, HV7.out.below (drewN_below _ _), HN7, q_drewN HB7.out _⟩
          case measure => simp [intOf]; omega
        · obtain rfl : j = tn := by omega
          have HVE : Hid (Row wr av (vals s.vs)) := by
            have := HV.out
            rw [← HTN.out, List.take_length, ← HS.out.vs] at this
            exact this
          have HCE := hid (HC4.out.below HBV.out)
          go_wp2_with fail
          refine (peek_any HCE (by have := HVL.out; omega)).mono ?_
          rintro e w8 ⟨ao8, cap8, he8, own8, b8⟩
          rw [← HVL.out] at he8 own8
          subst he8
          obtain ⟨R8, -, -, -⟩ := own_row own8
          have HR8 := hid R8
          have HV8 := hid (HVE.out.below b8)
          have HC8 := hid (HCE.out.below b8)
          have HB8 := hid (q_trans (q_trans HB4.out HBV.out) b8)
          clear own8 R8 b8
          go_wp2_with fail
          refine (values_true av ao8 m cv cap8 s.vs w8 (by omega) HVL.out HV8.out HR8.out).mono ?_
          rintro e w9 ⟨rfl, nd, rfl⟩
          have HC9 := hid (HC8.out.below (drewN_below _ nd))
          have HSE := hid (steps_any HC9)
          rw [HS.out.n, HTN.out] at HSE
          go_wp2_with fail
          refine HSE.out.mono ?_
          rintro e w10 ⟨rfl, rfl⟩
          go_wp2_with fail
          refine (live_any _).mono ?_
          rintro e w11 ⟨rfl, b11⟩
          have HBE := hid (q_trans (q_trans HB8.out (drewN_below _ nd)) b11)
          clear b11
          go_wp2_with fail
          go_ret
          exact ⟨rfl, HBE.out⟩

theorem ctrace_any (x : Int) (ao : Option Addr) (l : List O) (n cap : Nat) (w : World) (hl : n = l.length) (_ : n ≤ 9223372036854775807) (_ : ao = none → cap = 0) (hr : Row w ao (ops l)) :
    Calls Try.prog 5 #[.int .i64 x, .slice ao n cap] w fun e w' => e = .returned (.bool true) ∧ Below w.heap.size w w' := by
  by_cases h : n ≤ 200 ∧ 0 ≤ x ∧ x ≤ 100
  · obtain ⟨m, rfl⟩ := Int.eq_ofNat_of_zero_le h.2.1
    exact ctrace_yes m ao n cap l w (by omega) h.1 hl hr
  · exact ctrace_no x ao n cap w (hid (by omega))
end Go.Proofs.Ytadobkecdcnjkaa.Ce
