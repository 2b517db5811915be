/- The walk of CellsApart: it answers true. -/
import Derived.Test.YtadobkecdcnjkabCeLive
namespace Go.Proofs.Ytadobkecdcnjkab.Ce
open Go.RowKit

/-! ### Steps on unlike cells -/
theorem at0_far {l : List Int} {a b : O} (hb : okO b l.length = true) (hc : 0 ≤ a.c) (h : a.c ≠ b.c) (x : Int) : at0 (l.set b.c.toNat x) a = at0 l a := by
  have hk := okO_iff.1 hb
  have hne : ¬ b.c.toNat = a.c.toNat := by omega
  simp [at0, List.getD, hne]
theorem ap_other {l : List Int} {a b : O} (h : a.c ≠ b.c) : apR (apV l b) a = apR l a := by
  cases ha : okO a l.length with
  | false => rw [apR_no ha, apR_no (by rw [apV_len]; exact ha)]
  | true =>
    rw [apR_yes ha, apR_yes (by rw [apV_len]; exact ha)]
    have hk := okO_iff.1 ha
    cases hb : okO b l.length with
    | false => rw [apV_no hb]
    | true => rw [apV_yes hb, at0_far hb hk.2.1 h]
theorem ap_comm {l : List Int} {a b : O} (h : a.c ≠ b.c) : apV (apV l a) b = apV (apV l b) a := by
  cases ha : okO a l.length with
  | false =>
    rw [apV_no ha, apV_no (l := apV l b) (by rw [apV_len]; exact ha)]
  | true =>
    cases hb : okO b l.length with
    | false => rw [apV_no hb, apV_no (l := apV l a) (by rw [apV_len]; exact hb)]
    | true =>
      have ka := okO_iff.1 ha
      have kb := okO_iff.1 hb
      rw [apV_yes (l := apV l a) (by rw [apV_len]; exact hb), apV_yes (l := apV l b) (by rw [apV_len]; exact ha), apV_yes ha, apV_yes hb, at0_far ha kb.2.1 (Ne.symm h), at0_far hb ka.2.1 h]
      exact List.set_comm _ _ (by omega)

set_option maxRecDepth 100000 in
set_option maxHeartbeats 1000000 in
theorem capart_no (ao : Option Addr) (n cap : Nat) (a b : O) (w : World) (hn2 : n ≤ 9223372036854775807) (h : Hid (100 < n ∨ (n ≤ 100 ∧ a.c = b.c))) :
    Calls Try.prog 3 #[.slice ao n cap, (.agg #[.int .i64 a.k, .int .i64 a.c, .int .i64 a.a, .int .i64 a.v, .int .i64 a.w]), (.agg #[.int .i64 b.k, .int .i64 b.c, .int .i64 b.a, .int .i64 b.v, .int .i64 b.w])] w fun e w' => e = .returned (.bool true) ∧ Below w.heap.size w w' := by
  rcases h.out with h1 | ⟨h1, h2⟩
  · clear h
    go_enter Try.func3, Try.ntmps3
    go_wp2_with (go_at_call 5; refine (live_any _).mono ?_; rintro e w6 ⟨rfl, b6⟩)
    go_ret
    exact ⟨rfl, q_trans (q_alloc (alloc_below w _) _) b6⟩
  · have h3 : (a.c == b.c) = true := by simp [h2]
    clear h h2
    go_enter Try.func3, Try.ntmps3
    go_wp2_with (go_at_call 5; refine (live_any _).mono ?_; rintro e w6 ⟨rfl, b6⟩)
    go_ret
    exact ⟨rfl, q_trans (q_alloc (alloc_below w _) _) b6⟩

theorem two_ops (w : World) (a b : O) : InO ((w.alloc (.cells #[.int .i64 a.k, .int .i64 a.c, .int .i64 a.a, .int .i64 a.v, .int .i64 a.w] 24)).alloc (.cells #[.int .i64 b.k, .int .i64 b.c, .int .i64 b.a, .int .i64 b.v, .int .i64 b.w] 24)) w.heap.size a ∧ InO ((w.alloc (.cells #[.int .i64 a.k, .int .i64 a.c, .int .i64 a.a, .int .i64 a.v, .int .i64 a.w] 24)).alloc (.cells #[.int .i64 b.k, .int .i64 b.c, .int .i64 b.a, .int .i64 b.v, .int .i64 b.w] 24)) (w.heap.size + 1) b := by
  refine ⟨(inO_new w a 24).below (alloc_below _ _), ?_⟩
  have h := inO_new (w.alloc (.cells #[.int .i64 a.k, .int .i64 a.c, .int .i64 a.a, .int .i64 a.v, .int .i64 a.w] 24)) b 24
  rw [show (w.alloc (.cells #[.int .i64 a.k, .int .i64 a.c, .int .i64 a.a, .int .i64 a.v, .int .i64 a.w] 24)).heap.size = w.heap.size + 1 by simp] at h
  exact h

set_option maxRecDepth 100000 in
set_option maxHeartbeats 2000000 in
theorem capart_yes (ao : Option Addr) (n cap : Nat) (l : List Int) (a b : O) (p q : Rc) (x y v : List Int) (w : World) (hn : n ≤ 100) (hne : (a.c == b.c) = false) (HN : Hid (n = l.length)) (HC : Hid (ao = none → cap = 0)) (HR : Hid (Row w ao (vals l)))
    (H1 : Hid (apR l a = p)) (V1 : Hid (apV l a = x)) (H2 : Hid (apR x b = q)) (V2 : Hid (apV x b = y)) (H3 : Hid (apR l b = q)) (V3 : Hid (apV l b = v)) (H4 : Hid (apR v a = p)) (V4 : Hid (apV v a = y)) (LX : Hid (n = x.length)) (LV : Hid (n = v.length)) (LY : Hid (n = y.length)) :
    Calls Try.prog 3 #[.slice ao n cap, (.agg #[.int .i64 a.k, .int .i64 a.c, .int .i64 a.a, .int .i64 a.v, .int .i64 a.w]), (.agg #[.int .i64 b.k, .int .i64 b.c, .int .i64 b.a, .int .i64 b.v, .int .i64 b.w])] w fun e w' => e = .returned (.bool true) ∧ Below w.heap.size w w' := by
  have hp := eq7 p p
  rw [eqRc_iff.2 rfl] at hp
  have hq := eq7 q q
  rw [eqRc_iff.2 rfl] at hq
  go_enter Try.func3, Try.ntmps3
  have HB0 := hid (q_alloc (alloc_below w (.cells #[.int .i64 a.k, .int .i64 a.c, .int .i64 a.a, .int .i64 a.v, .int .i64 a.w] 24)) (.cells #[.int .i64 b.k, .int .i64 b.c, .int .i64 b.a, .int .i64 b.v, .int .i64 b.w] 24))
  have HA0 := hid (two_ops w a b).1
  have HD0 := hid (two_ops w a b).2
  go_wp2_with fail
  have ap := apply_any ao n cap l a _ HN.out (by omega) HC.out (HR.out.below HB0.out)
  rw [H1.out, V1.out] at ap
  refine ap.mono ?_
  rintro e w1 ⟨ao1, cap1, rfl, own1, b1⟩
  obtain ⟨R1, -, N1, -⟩ := own_row own1
  have al1 := alloc_below w1 (.cells #[.int .i64 p.o.k, .int .i64 p.o.c, .int .i64 p.o.a, .int .i64 p.o.v, .int .i64 p.o.w, .int .i64 p.got, .bool p.ok] 27)
  have HR1 := hid (R1.below al1)
  have HN1 := hid N1
  have HB1 := hid (q_trans (q_trans HB0.out b1) al1)
  have HA1 := hid ((HA0.out.below b1).below al1)
  have HD1 := hid ((HD0.out.below b1).below al1)
  have HP1 := hid (inR_new w1 p 27)
  clear own1 R1 N1 ap b1 al1
  obtain ⟨c0, c1, c2, c3, c4⟩ := HD1.out
  go_wp2_with fail
  have ap := apply_any ao1 n cap1 x b _ LX.out (by omega) HN1.out HR1.out
  rw [H2.out, V2.out] at ap
  refine ap.mono ?_
  rintro e w2 ⟨ao2, cap2, rfl, own2, b2⟩
  obtain ⟨R2, -, N2, -⟩ := own_row own2
  have al2 := alloc_below w2 (.cells #[.int .i64 q.o.k, .int .i64 q.o.c, .int .i64 q.o.a, .int .i64 q.o.v, .int .i64 q.o.w, .int .i64 q.got, .bool q.ok] 27)
  have HR2 := hid (R2.below al2)
  have HB2 := hid (q_trans (q_trans HB1.out b2) al2)
  have HA2 := hid ((HA1.out.below b2).below al2)
  have HD2 := hid ((HD1.out.below b2).below al2)
  have HP2 := hid ((HP1.out.below b2).below al2)
  have HQ2 := hid (inR_new w2 q 27)
  clear own2 R2 N2 ap b2 al2 c0 c1 c2 c3 c4
  obtain ⟨c0, c1, c2, c3, c4⟩ := HD2.out
  go_wp2_with fail
  have ap := apply_any ao n cap l b _ HN.out (by omega) HC.out (HR.out.below HB2.out)
  rw [H3.out, V3.out] at ap
  refine ap.mono ?_
  rintro e w3 ⟨ao3, cap3, rfl, own3, b3⟩
  obtain ⟨R3, -, N3, -⟩ := own_row own3
  have al3 := alloc_below w3 (.cells #[.int .i64 q.o.k, .int .i64 q.o.c, .int .i64 q.o.a, .int .i64 q.o.v, .int .i64 q.o.w, .int .i64 q.got, .bool q.ok] 27)
  have HR3 := hid (R3.below al3)
  have HN3 := hid N3
  have HB3 := hid (q_trans (q_trans HB2.out b3) al3)
  have HA3 := hid ((HA2.out.below b3).below al3)
  have HP3 := hid ((HP2.out.below b3).below al3)
  have HQ3 := hid ((HQ2.out.below b3).below al3)
  have HY3 := hid ((HR2.out.below b3).below al3)
  have HS3 := hid (inR_new w3 q 27)
  clear own3 R3 N3 ap b3 al3 c0 c1 c2 c3 c4
  obtain ⟨c0, c1, c2, c3, c4⟩ := HA3.out
  go_wp2_with fail
  have ap := apply_any ao3 n cap3 v a _ LV.out (by omega) HN3.out HR3.out
  rw [H4.out, V4.out] at ap
  refine ap.mono ?_
  rintro e w4 ⟨ao4, cap4, rfl, own4, b4⟩
  obtain ⟨R4, -, -, -⟩ := own_row own4
  generalize hW : w4.alloc (.cells #[.int .i64 p.o.k, .int .i64 p.o.c, .int .i64 p.o.a, .int .i64 p.o.v, .int .i64 p.o.w, .int .i64 p.got, .bool p.ok] 27) = W
  have al4 : Below w4.heap.size w4 W := hW ▸ alloc_below w4 _
  have HR4 := hid (R4.below al4)
  have HB4 := hid (q_trans (q_trans HB3.out b4) al4)
  have HP4 := hid ((HP3.out.below b4).below al4)
  have HQ4 := hid ((HQ3.out.below b4).below al4)
  have HS4 := hid ((HS3.out.below b4).below al4)
  have HY4 := hid ((HY3.out.below b4).below al4)
  have HT4 : Hid (InR W w4.heap.size p) := hW ▸ inR_new w4 p 27
  clear own4 R4 ap b4 al4 c0 c1 c2 c3 c4
  go_wp2_with fail
  clear hW
  refine (values_true ao2 ao4 n cap2 cap4 y W (by omega) LY.out HY4.out HR4.out).mono ?_
  rintro e w5 ⟨rfl, nd, rfl⟩
  obtain ⟨r0, r1, r2, r3, r4, r5, r6, -⟩ := HP4.out
  obtain ⟨s0, s1, s2, s3, s4, s5, s6, -⟩ := HT4.out
  obtain ⟨t0, t1, t2, t3, t4, t5, t6, -⟩ := HQ4.out
  obtain ⟨u0, u1, u2, u3, u4, u5, u6, -⟩ := HS4.out
  go_wp2_with fail
  refine (live_any _).mono ?_
  rintro e w6 ⟨rfl, b6⟩
  have HB := hid (q_trans (q_trans HB4.out (drewN_below _ nd)) b6)
  clear b6 r0 r1 r2 r3 r4 r5 r6 s0 s1 s2 s3 s4 s5 s6 t0 t1 t2 t3 t4 t5 t6 u0 u1 u2 u3 u4 u5 u6
  go_wp2_with fail
  go_ret
  exact ⟨rfl, HB.out⟩

theorem capart_any (ao : Option Addr) (l : List Int) (n cap : Nat) (a b : O) (w : World) (hl : n = l.length) (hn : n ≤ 9223372036854775807) (hc : ao = none → cap = 0) (hr : Row w ao (vals l)) :
    Calls Try.prog 3 #[.slice ao n cap, (.agg #[.int .i64 a.k, .int .i64 a.c, .int .i64 a.a, .int .i64 a.v, .int .i64 a.w]), (.agg #[.int .i64 b.k, .int .i64 b.c, .int .i64 b.a, .int .i64 b.v, .int .i64 b.w])] w fun e w' => e = .returned (.bool true) ∧ Below w.heap.size w w' := by
  by_cases h : n ≤ 100 ∧ a.c ≠ b.c
  · exact capart_yes ao n cap l a b _ _ _ _ _ w h.1 (by simp [h.2]) hl hc hr rfl rfl (ap_other (Ne.symm h.2)) rfl rfl rfl (ap_other h.2) (ap_comm h.2).symm (by rw [apV_len]; exact hl) (by rw [apV_len]; exact hl) (by rw [apV_len, apV_len]; exact hl)
  · exact capart_no ao n cap a b w hn (hid (by
      by_cases h1 : n ≤ 100
      · exact .inr ⟨h1, Classical.byContradiction fun h2 => h ⟨h1, h2⟩⟩
      · exact .inl (by omega)))
end Go.Proofs.Ytadobkecdcnjkab.Ce
