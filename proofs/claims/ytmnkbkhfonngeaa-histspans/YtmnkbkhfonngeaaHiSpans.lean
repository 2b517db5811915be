/- What HistSpans does. -/
import Derived.Test.YtmnkbkhfonngeaaHiG1
import Derived.Test.YtmnkbkhfonngeaaHiSp0
namespace Go.Proofs.Ytmnkbkhfonngeaa.Hi
open Go.RowKit

attribute [local go_sem ↓] lz_is
attribute [local go_sem ↓] ls_is
set_option maxRecDepth 100000 in
set_option maxHeartbeats 8000000 in
theorem spans_in (K : LiveC) (ao : Option Addr) (N cap : Nat) (l : List (Ac × Hd)) (c : Int) (cl : C) (r : Rp) (t d : Int) (w : World) (hN : N ≤ 60) (hd0 : 0 ≤ d) (hd1 : d ≤ 1000) (ht : t ≤ 1000000) (HH : HasZ w ⟨ao, N, cap⟩ l) :
    Calls Try.prog 7 #[.slice ao N cap, .int .i64 c, (.agg #[.int .i64 cl.k, .int .u64 cl.a, .int .u64 cl.b, .int .i64 cl.r, .int .i64 cl.g, .int .i64 cl.t, .int .i64 cl.s, .int .i64 cl.v]), (.agg #[.int .i64 r.e, .int .i64 r.v, .int .i64 r.b, .bool r.t]), .int .i64 t, .int .i64 d] w fun e w' => e = .returned (.bool true) ∧ Below w.heap.size w w' := by
  have HZ0 := hid HH
  have HNl : Hid (N = l.length) := HH.has.len
  clear HH
  have i0 : ¬ ((N : Int) > 60) := by omega
  have i1 : ¬ d < 0 := by omega
  have i2 : ¬ d > 1000 := by omega
  have i3 : ¬ t > 1000000 := by omega
  go_enter Try.func7, Try.ntmps7
  go_upto_region 1 with fail
  have HT := hid (two_cr w cl r)
  generalize (w.alloc (.cells #[.int .i64 cl.k, .int .u64 cl.a, .int .u64 cl.b, .int .i64 cl.r, .int .i64 cl.g, .int .i64 cl.t, .int .i64 cl.s, .int .i64 cl.v] 28)).alloc (.cells #[.int .i64 r.e, .int .i64 r.v, .int .i64 r.b, .bool r.t] 31) = WB at HT ⊢
  have HB0 := hid HT.out.2.2
  have HZ := hid (HZ0.out.below HB0.out)
  have hwl : w.heap.size + 1 < WB.heap.size := HT.out.2.1.lt
  clear HZ0
  go_wp2_with fail
  have HG := hid (g1_new WB)
  generalize WB.alloc (.cells #[.slice none 0 0, .slice none 0 0] 25) = W0 at HG ⊢
  go_loopw [14] (fun i wr => ∃ (j : Nat) (h : Hs) (x : Hh), j ≤ N ∧ i = .int .i64 j ∧ Hid (G1 WB wr x h) ∧ Hid (okH h = true) ∧ Hid (h.s.length ≤ j ∧ h.e.length ≤ j ∧ ShortE h.e)) (fun i _ => N - (intOf i).toNat)
  case atStart => exact ⟨0, h0, nilX, Nat.zero_le _, rfl, HG, h0_ok, Nat.le_refl _, Nat.le_refl _, fun e he => by cases he⟩
  case round =>
    obtain ⟨j, h, x, hj, rfl, HG, HOk, HLn⟩ := hrel
    by_cases hlt : j < N
    · have i1 : (0 : Int) ≤ (j : Int) := by omega
      have i2 : (j : Int) < (N : Int) := by omega
      have hjl : j < l.length := by have := HNl.out; omega
      obtain ⟨a, ea, hS⟩ := sz_of HG.out.a (HZ.out.below HG.out.low).has.row j hjl
      obtain rfl : ao = some a := ea
      obtain ⟨a', ea', ca⟩ := atZ_of (HZ.out.below HG.out.low).has.row j hjl
      cases ea'
      have c26 := ca.c26
      have HU := hid ((HZ.out.below HG.out.low).each _ (show l.getD j (a0, nilH) ∈ l from getD_mem hjl))
      obtain ⟨p9, hp⟩ : ∃ p9, l.getD j (a0, nilH) = p9 := ⟨_, rfl⟩
      have HPq := hid hp
      rw [hp] at hS ca c26 HU
      clear hp
      obtain ⟨z, u⟩ := p9
      clear ca
      dsimp only at c26
      by_cases hu : (u.n : Int) > 10
      · have hun : 10 < u.n := by omega
        clear hS
        go_wp2_with (go_at_call 9; refine (K _).mono ?_; rintro e w9 ⟨rfl, b9⟩)
        go_ret
        exact ⟨rfl, q_trans HB0.out (q_trans HG.out.low b9)⟩
      · have hun : ¬ (10 < u.n) := by omega
        have hu5 : u.n ≤ 5000 := by omega
        go_upto_region 9 with fail
        clear c26
        have hxn : x.s.n ≤ 5000 ∧ x.e.n ≤ 5000 := by have := HLn.out; exact ⟨by rw [HG.out.ha.s.len]; omega, by rw [HG.out.ha.e.len]; omega⟩
        have CD : Hid (∀ X, Below wr.heap.size wr X → Calls Try.prog 10 #[(.agg #[.slice x.s.o x.s.n x.s.c, .slice x.e.o x.e.n x.e.c]), (.agg #[.int .i64 z.k, .int .i64 z.co, .int .i64 z.now, .int .i64 z.c.k, .int .u64 z.c.a, .int .u64 z.c.b, .int .i64 z.c.r, .int .i64 z.c.g, .int .i64 z.c.t, .int .i64 z.c.s, .int .i64 z.c.v, .int .i64 z.r.e, .int .i64 z.r.v, .int .i64 z.r.b, .bool z.r.t, .int .i64 z.e.k, .int .i64 z.e.co, .int .i64 z.e.c.k, .int .u64 z.e.c.a, .int .u64 z.e.c.b, .int .i64 z.e.c.r, .int .i64 z.e.c.g, .int .i64 z.e.c.t, .int .i64 z.e.c.s, .int .i64 z.e.c.v, .int .i64 z.e.sp, .slice u.o u.n u.c])] X fun e w' => ∃ v : Hh, e = .returned (.tuple #[(.agg #[.slice v.s.o v.s.n v.s.c, .slice v.e.o v.e.n v.e.c]), .int .i64 (doE h z)]) ∧ HasH w' v (doH h z) ∧ Below X.heap.size X w') := fun X b => does_any x h z u X hxn.1 hxn.2 hu5 HLn.out.2.2 (HG.out.ha.below b) (HU.out.below b)
        obtain ⟨c0, c1, hl, hcc⟩ := sz_keep hS (Below.refl wr.heap.size wr).drew
        have hlb : WB.heap.size < wr.heap.size := HG.out.a.lt
        clear hS
        have HLn2 : Hid ((doH h z).s.length ≤ j + 1 ∧ (doH h z).e.length ≤ j + 1 ∧ ShortE (doH h z).e) := do_sm HLn.out (by rw [← HU.out.len]; exact hu5)
        have HOk2 : Hid (okH (doH h z) = true) := do_ok z HOk.out
        go_region_with
          (first
            | (go_at_call 10; refine (CD.out _ (Below.refl _ wr).drew).mono ?_; rintro e w9 ⟨v, rfl, hv, hb⟩; have HB9 : Hid (Below wr.heap.size wr w9) := (q_trans (Below.refl _ wr).drew hb); have HF := hid (g1_put HG.out HB9.out hv); have HQ := hid (HG.out.a.below HB9.out); have k0 := HQ.out.c0; have k1 := HQ.out.c1; have f0 := HQ.out.fz 0; have f1 := HQ.out.fz 1; have hq9 := HQ.out.lt; clear hv hb)
            | fail)
        all_goals
          clear CD
          go_wp2_with fail
          go_roundw
          case rel => exact ⟨j + 1, doH h z, v, by omega, by go_num, HF, HOk2, HLn2⟩
          case measure => simp [intOf]; omega
    · have j2 : ¬ (j : Int) < (N : Int) := by omega
      have HC := hid (HT.out.1.below HG.out.low)
      have HR := hid (HT.out.2.1.below HG.out.low)
      have HB := hid (q_trans HB0.out HG.out.low)
      have hxn : x.s.n ≤ 5000 ∧ x.e.n ≤ 5000 := by have := HLn.out; exact ⟨by rw [HG.out.ha.s.len]; omega, by rw [HG.out.ha.e.len]; omega⟩
      have HL : Hid (x.s.n = h.s.length) := HG.out.ha.s.len
      have HHx := hid HG.out.ha
      have HX := hid HG.out.a
      have hwx : w.heap.size < WB.heap.size := by omega
      have CI := hid (invoke_any x h c cl t wr hxn.1 hxn.2 HLn.out.2.2 HHx)
      clear HT HB0 HG HZ HNl
      generalize WB.heap.size = b13 at HX hwl hwx ⊢
      have c0 := HX.out.c0
      have c1 := HX.out.c1
      obtain ⟨d0, d1, d2, d3, d4, d5, d6, d7⟩ := HC.out.at
      go_upto_region 11 with (go_at_call 20; refine CI.out.mono ?_; rintro e w9 ⟨v, rfl, hv, hb⟩)
      have HV : Hid (Hb (w9.alloc (.cells #[.slice v.s.o v.s.n v.s.c, .slice v.e.o v.e.n v.e.c] 25)) w9.heap.size v ∧ HasH (w9.alloc (.cells #[.slice v.s.o v.s.n v.s.c, .slice v.e.o v.e.n v.e.c] 25)) v (invH h c cl t) ∧ Below wr.heap.size wr (w9.alloc (.cells #[.slice v.s.o v.s.n v.s.c, .slice v.e.o v.e.n v.e.c] 25))) := ⟨hb_new _ _, hv.below (alloc_below _ _), q_alloc hb _⟩
      generalize w9.alloc (.cells #[.slice v.s.o v.s.n v.s.c, .slice v.e.o v.e.n v.e.c] 25) = W2 at HV ⊢
      generalize w9.heap.size = b15 at HV ⊢
      clear hv hb CI c0 c1 d0 d1 d2 d3 d4 d5 d6 d7
      replace HB := hid (q_trans HB.out HV.out.2.2)
      replace HC := hid (HC.out.below HV.out.2.2)
      replace HR := hid (HR.out.below HV.out.2.2)
      replace HX := hid (HX.out.below HV.out.2.2)
      replace HHx := hid (HHx.out.below HV.out.2.2)
      have HVb := hid HV.out.1
      have HVh := hid HV.out.2.1
      clear HV
      have c0 := HX.out.c0
      have c1 := HX.out.c1
      have e0 := HVb.out.c0
      have e1 := HVb.out.c1
      by_cases hE : invE h c t = 0
      · have HI := hid hE
        rw [hE]
        clear hE
        have HS := hid (spans_math (cl := cl) (r := r) HI.out hd0)
        have htd : 1 ≤ t := HS.out.1
        have hN1 : Hid (v.s.n = h.s.length + 1) := by have q := HVh.out.s.len; rw [invH_of HI.out] at q; unfold Hid; simpa using q
        have hvn : v.s.n ≤ 5000 ∧ v.e.n ≤ 5000 := by
          have := HLn.out
          have q := HVh.out.e.len
          rw [invH_of HI.out] at q
          exact ⟨by rw [hN1.out]; omega, by rw [q]; show h.e.length ≤ 5000; omega⟩
        have HD2 : Hid (ShortE (invH h c cl t).e) := by rw [invH_of HI.out]; exact HLn.out.2.2
        have CA : Hid (Calls Try.prog 21 #[(.agg #[.slice v.s.o v.s.n v.s.c, .slice v.e.o v.e.n v.e.c]), .int .i64 c, (.agg #[.int .i64 r.e, .int .i64 r.v, .int .i64 r.b, .bool r.t]), .int .i64 (t + d)] W2 fun e w' => ∃ z : Hh, e = .returned (.tuple #[(.agg #[.slice z.s.o z.s.n z.s.c, .slice z.e.o z.e.n z.e.c]), .int .i64 0]) ∧ HasH w' z ⟨h.s ++ [⟨c, cl, t, t + d, r⟩], h.e⟩ ∧ Below W2.heap.size W2 w') := by
          have q := answer_any v (invH h c cl t) c r (t + d) W2 hvn.1 hvn.2 HD2.out HVh
          rwa [HS.out.2.1, HS.out.2.2] at q
        have HVr : Hid (HasS W2 v.s (h.s ++ [(⟨c, cl, t, 0, r0⟩ : Sp)])) := by have q := HVh.out.s; rw [invH_of HI.out] at q; exact q
        clear HS HD2 HI HVh
        obtain ⟨d0, d1, d2, d3⟩ := HR.out.at
        go_upto_region 15 with (first | (go_at_call 15; refine (num_any _ _).mono ?_; rintro e w8 ⟨rfl, hw⟩; rw [hw]; clear hw w8) | (go_at_call 21; refine CA.out.mono ?_; rintro e w9 ⟨v2, rfl, hv, hb⟩))
        have HV : Hid (Hb (w9.alloc (.cells #[.slice v2.s.o v2.s.n v2.s.c, .slice v2.e.o v2.e.n v2.e.c] 25)) w9.heap.size v2 ∧ HasH (w9.alloc (.cells #[.slice v2.s.o v2.s.n v2.s.c, .slice v2.e.o v2.e.n v2.e.c] 25)) v2 ⟨h.s ++ [⟨c, cl, t, t + d, r⟩], h.e⟩ ∧ Below W2.heap.size W2 (w9.alloc (.cells #[.slice v2.s.o v2.s.n v2.s.c, .slice v2.e.o v2.e.n v2.e.c] 25))) := ⟨hb_new _ _, hv.below (alloc_below _ _), q_alloc hb _⟩
        generalize w9.alloc (.cells #[.slice v2.s.o v2.s.n v2.s.c, .slice v2.e.o v2.e.n v2.e.c] 25) = W3 at HV ⊢
        generalize w9.heap.size = b18 at HV ⊢
        clear hv hb CA c0 c1 d0 d1 d2 d3 e0 e1
        replace HB := hid (q_trans HB.out HV.out.2.2)
        replace HC := hid (HC.out.below HV.out.2.2)
        replace HR := hid (HR.out.below HV.out.2.2)
        replace HX := hid (HX.out.below HV.out.2.2)
        replace HHx := hid (HHx.out.below HV.out.2.2)
        replace HVb := hid (HVb.out.below HV.out.2.2)
        replace HVr := hid (HVr.out.below HV.out.2.2)
        have HMb := hid HV.out.1
        have HMr : Hid (HasS W3 v2.s (h.s ++ [(⟨c, cl, t, t + d, r⟩ : Sp)])) := HV.out.2.1.s
        clear HV
        have hN2 : Hid (v2.s.n = h.s.length + 1) := by have q := HMr.out.len; unfold Hid; simpa using q
        obtain ⟨⟨vo, vn, vc⟩, ve⟩ := v
        obtain ⟨⟨mo, mn, mc⟩, me⟩ := v2
        obtain ⟨⟨so, sn, sc⟩, se⟩ := x
        replace HL : Hid (sn = h.s.length) := HL
        have hv9 : vn = sn + 1 := by have a := hN1.out; have b := HL.out; dsimp only at a; omega
        obtain rfl : vn = mn := by have a := hN2.out; have b := hN1.out; dsimp only at a b; omega
        have hsn : sn ≤ 5000 := hxn.1
        clear hN1 hN2 hvn hxn
        obtain ⟨A, eA, hS⟩ := s5_of HVb.out HMb.out HC.out HR.out HVr.out HMr.out HL.out.symm
        obtain ⟨B, eB, hS⟩ := hS
        obtain rfl : vo = some A := eA
        obtain rfl : mo = some B := eB
        have hq1 : ∀ W, (Op.equalIn 10000 50 (.agg #[.int .i64 (⟨c, cl, t, 0, r0⟩ : Sp).co, .int .i64 (⟨c, cl, t, 0, r0⟩ : Sp).c.k, .int .u64 (⟨c, cl, t, 0, r0⟩ : Sp).c.a, .int .u64 (⟨c, cl, t, 0, r0⟩ : Sp).c.b, .int .i64 (⟨c, cl, t, 0, r0⟩ : Sp).c.r, .int .i64 (⟨c, cl, t, 0, r0⟩ : Sp).c.g, .int .i64 (⟨c, cl, t, 0, r0⟩ : Sp).c.t, .int .i64 (⟨c, cl, t, 0, r0⟩ : Sp).c.s, .int .i64 (⟨c, cl, t, 0, r0⟩ : Sp).c.v, .int .i64 (⟨c, cl, t, 0, r0⟩ : Sp).st, .int .i64 (⟨c, cl, t, 0, r0⟩ : Sp).en, .int .i64 (⟨c, cl, t, 0, r0⟩ : Sp).r.e, .int .i64 (⟨c, cl, t, 0, r0⟩ : Sp).r.v, .int .i64 (⟨c, cl, t, 0, r0⟩ : Sp).r.b, .bool (⟨c, cl, t, 0, r0⟩ : Sp).r.t]) (.agg #[.int .i64 (⟨c, cl, t, 0, r0⟩ : Sp).co, .int .i64 (⟨c, cl, t, 0, r0⟩ : Sp).c.k, .int .u64 (⟨c, cl, t, 0, r0⟩ : Sp).c.a, .int .u64 (⟨c, cl, t, 0, r0⟩ : Sp).c.b, .int .i64 (⟨c, cl, t, 0, r0⟩ : Sp).c.r, .int .i64 (⟨c, cl, t, 0, r0⟩ : Sp).c.g, .int .i64 (⟨c, cl, t, 0, r0⟩ : Sp).c.t, .int .i64 (⟨c, cl, t, 0, r0⟩ : Sp).c.s, .int .i64 (⟨c, cl, t, 0, r0⟩ : Sp).c.v, .int .i64 (⟨c, cl, t, 0, r0⟩ : Sp).st, .int .i64 (⟨c, cl, t, 0, r0⟩ : Sp).en, .int .i64 (⟨c, cl, t, 0, r0⟩ : Sp).r.e, .int .i64 (⟨c, cl, t, 0, r0⟩ : Sp).r.v, .int .i64 (⟨c, cl, t, 0, r0⟩ : Sp).r.b, .bool (⟨c, cl, t, 0, r0⟩ : Sp).r.t])).run Try.prog W = .ok true W := fun W => by have q := eqs_run 9997 ⟨c, cl, t, 0, r0⟩ ⟨c, cl, t, 0, r0⟩ W; rwa [eqS_self] at q
        have hq2 : ∀ W, (Op.equalIn 10000 50 (.agg #[.int .i64 (⟨c, cl, t, t + d, r⟩ : Sp).co, .int .i64 (⟨c, cl, t, t + d, r⟩ : Sp).c.k, .int .u64 (⟨c, cl, t, t + d, r⟩ : Sp).c.a, .int .u64 (⟨c, cl, t, t + d, r⟩ : Sp).c.b, .int .i64 (⟨c, cl, t, t + d, r⟩ : Sp).c.r, .int .i64 (⟨c, cl, t, t + d, r⟩ : Sp).c.g, .int .i64 (⟨c, cl, t, t + d, r⟩ : Sp).c.t, .int .i64 (⟨c, cl, t, t + d, r⟩ : Sp).c.s, .int .i64 (⟨c, cl, t, t + d, r⟩ : Sp).c.v, .int .i64 (⟨c, cl, t, t + d, r⟩ : Sp).st, .int .i64 (⟨c, cl, t, t + d, r⟩ : Sp).en, .int .i64 (⟨c, cl, t, t + d, r⟩ : Sp).r.e, .int .i64 (⟨c, cl, t, t + d, r⟩ : Sp).r.v, .int .i64 (⟨c, cl, t, t + d, r⟩ : Sp).r.b, .bool (⟨c, cl, t, t + d, r⟩ : Sp).r.t]) (.agg #[.int .i64 (⟨c, cl, t, t + d, r⟩ : Sp).co, .int .i64 (⟨c, cl, t, t + d, r⟩ : Sp).c.k, .int .u64 (⟨c, cl, t, t + d, r⟩ : Sp).c.a, .int .u64 (⟨c, cl, t, t + d, r⟩ : Sp).c.b, .int .i64 (⟨c, cl, t, t + d, r⟩ : Sp).c.r, .int .i64 (⟨c, cl, t, t + d, r⟩ : Sp).c.g, .int .i64 (⟨c, cl, t, t + d, r⟩ : Sp).c.t, .int .i64 (⟨c, cl, t, t + d, r⟩ : Sp).c.s, .int .i64 (⟨c, cl, t, t + d, r⟩ : Sp).c.v, .int .i64 (⟨c, cl, t, t + d, r⟩ : Sp).st, .int .i64 (⟨c, cl, t, t + d, r⟩ : Sp).en, .int .i64 (⟨c, cl, t, t + d, r⟩ : Sp).r.e, .int .i64 (⟨c, cl, t, t + d, r⟩ : Sp).r.v, .int .i64 (⟨c, cl, t, t + d, r⟩ : Sp).r.b, .bool (⟨c, cl, t, t + d, r⟩ : Sp).r.t])).run Try.prog W = .ok true W := fun W => by have q := eqs_run 9997 ⟨c, cl, t, t + d, r⟩ ⟨c, cl, t, t + d, r⟩ W; rwa [eqS_self] at q
        dsimp only at hq1 hq2
        have m1 : (0 : Int) ≤ (sn : Int) := by omega
        have m2 : (sn : Int) < (vn : Int) := by omega
        have m3 : IntKind.i64.wrap ((sn : Int) + 1) = (vn : Int) := by rw [IntKind.wrap_i64] <;> omega
        have m4 : IntKind.i64.wrap (t + d) = t + d := by rw [IntKind.wrap_i64] <;> omega
        have m5 : ((vn : Int) != (vn : Int)) = false := by simp
        have HV9 := hid hv9
        clear hv9
        go_region_held3 (S5 b15 b18 w.heap.size (w.heap.size + 1) ⟨⟨some A, vn, vc⟩, ve⟩ ⟨⟨some B, vn, mc⟩, me⟩ (A.add (sn * 15)) (B.add (sn * 15)) cl r ⟨c, cl, t, 0, r0⟩ ⟨c, cl, t, t + d, r⟩) ((refine s5_keep hS ?_; repeat' (first | with_reducible exact (Below.refl _ W3).drew | with_reducible exact Below.refl _ _ | with_reducible refine Below.drew ?_)))
          (first | (go_at_call 15; refine (num_any _ _).mono ?_; rintro e w8 ⟨rfl, hw⟩; rw [hw]; clear hw w8) | fail)
        all_goals
          go_wp2_with fail
          go_loopw [20] (fun i wv => ∃ q : Nat, q ≤ sn ∧ i = .int .i64 q ∧ Hid (Below W3.heap.size W3 wv)) (fun i _ => sn - (intOf i).toNat)
          case atStart => exact ⟨0, Nat.zero_le _, rfl, by first | exact hid (Below.refl _ W3).drew | exact hid (Below.refl _ W3) | exact hid (drewN_below _ _)⟩
          case round =>
            obtain ⟨q, hq, rfl, HBv⟩ := hrel
            by_cases hql : q < sn
            · have k1 : (0 : Int) ≤ (q : Int) := by omega
              have k2 : (q : Int) < (sn : Int) := by omega
              have k3 : (q : Int) < (vn : Int) := by omega
              have hqh : q < h.s.length := by rw [← HL.out]; exact hql
              obtain ⟨G, eG, _⟩ := atS_of (HHx.out.s.below HBv.out).row q hqh
              obtain rfl : so = some G := eG
              have hS2 := s2_of (HMb.out.below HBv.out) (HX.out.below HBv.out) (HMr.out.below HBv.out).row (HHx.out.s.below HBv.out).row hqh
              obtain ⟨s, hs⟩ : ∃ s, h.s.getD q s0 = s := ⟨_, rfl⟩
              rw [hs] at hS2
              clear hs
              have hq3 : ∀ W, (Op.equalIn 10000 50 (.agg #[.int .i64 s.co, .int .i64 s.c.k, .int .u64 s.c.a, .int .u64 s.c.b, .int .i64 s.c.r, .int .i64 s.c.g, .int .i64 s.c.t, .int .i64 s.c.s, .int .i64 s.c.v, .int .i64 s.st, .int .i64 s.en, .int .i64 s.r.e, .int .i64 s.r.v, .int .i64 s.r.b, .bool s.r.t]) (.agg #[.int .i64 s.co, .int .i64 s.c.k, .int .u64 s.c.a, .int .u64 s.c.b, .int .i64 s.c.r, .int .i64 s.c.g, .int .i64 s.c.t, .int .i64 s.c.s, .int .i64 s.c.v, .int .i64 s.st, .int .i64 s.en, .int .i64 s.r.e, .int .i64 s.r.v, .int .i64 s.r.b, .bool s.r.t])).run Try.prog W = .ok true W := fun W => by have q := eqs_run 9997 s s W; rwa [eqS_self] at q
              go_upto_region 20 with fail
              go_region_held3 (S2s b18 b13 ⟨⟨some B, vn, mc⟩, me⟩ ⟨⟨some G, sn, sc⟩, se⟩ (B.add (q * 15)) (G.add (q * 15)) s) ((refine s2_keep hS2 ?_; repeat' (first | with_reducible exact (Below.refl _ wv).drew | with_reducible exact Below.refl _ _ | with_reducible refine Below.drew ?_))) (fail)
              all_goals
                go_wp2_with fail
                go_roundw
                case rel => exact ⟨q + 1, by omega, by go_num, hid HBv.out.drew⟩
                case measure => simp [intOf]; omega
            · have k2 : ¬ (q : Int) < (sn : Int) := by omega
              go_wp2_with (go_at_call 9; refine (K _).mono ?_; rintro e w7 ⟨rfl, b7⟩)
              go_ret
              exact ⟨rfl, q_trans HB.out (q_trans HBv.out b7)⟩
      · have hEb : (invE h c t != 0) = true := by simp [hE]
        have HS : Hid (Calls Try.prog 18 #[(.agg #[.slice x.s.o x.s.n x.s.c, .slice x.e.o x.e.n x.e.c]), (.agg #[.slice v.s.o v.s.n v.s.c, .slice v.e.o v.e.n v.e.c])] W2 fun e w' => e = .returned (.bool true) ∧ Below W2.heap.size W2 w') := by
          have q := same_any x v h (invH h c cl t) W2 hxn.1 hxn.2 HLn.out.2.2 HHx HVh
          rw [invH_no hE, eqH_self] at q
          exact q
        clear HVh
        go_wp2_with (first | (go_at_call 15; refine (num_any _ _).mono ?_; rintro e w8 ⟨rfl, hw⟩; rw [hw]; clear hw w8) | (go_at_call 18; refine HS.out.mono ?_; rintro e w9 ⟨rfl, b9⟩) | (go_at_call 9; refine (K _).mono ?_; rintro e w7 ⟨rfl, b7⟩))
        go_ret
        exact ⟨rfl, q_trans HB.out (q_trans b9 b7)⟩
set_option maxHeartbeats 1000000 in
theorem spans_out (K : LiveC) (y : Hd) (c : Int) (cl : C) (r : Rp) (t d : Int) (w : World) (h : 60 < y.n ∨ d < 0 ∨ d > 1000 ∨ t > 1000000) :
    Calls Try.prog 7 #[.slice y.o y.n y.c, .int .i64 c, (.agg #[.int .i64 cl.k, .int .u64 cl.a, .int .u64 cl.b, .int .i64 cl.r, .int .i64 cl.g, .int .i64 cl.t, .int .i64 cl.s, .int .i64 cl.v]), (.agg #[.int .i64 r.e, .int .i64 r.v, .int .i64 r.b, .bool r.t]), .int .i64 t, .int .i64 d] w fun e w' => e = .returned (.bool true) ∧ Below w.heap.size w w' := by
  by_cases h1 : 60 < y.n
  · have i0 : (y.n : Int) > 60 := by omega
    clear h
    go_enter Try.func7, Try.ntmps7
    go_wp2_with (go_at_call 9; refine (K _).mono ?_; rintro e w9 ⟨rfl, b9⟩)
    go_ret
    exact ⟨rfl, q_trans (two_cr w cl r).2.2 b9⟩
  have i0 : ¬ ((y.n : Int) > 60) := by omega
  by_cases h2 : d < 0
  · clear h
    go_enter Try.func7, Try.ntmps7
    go_wp2_with (go_at_call 9; refine (K _).mono ?_; rintro e w9 ⟨rfl, b9⟩)
    go_ret
    exact ⟨rfl, q_trans (two_cr w cl r).2.2 b9⟩
  by_cases h3 : d > 1000
  · clear h
    go_enter Try.func7, Try.ntmps7
    go_wp2_with (go_at_call 9; refine (K _).mono ?_; rintro e w9 ⟨rfl, b9⟩)
    go_ret
    exact ⟨rfl, q_trans (two_cr w cl r).2.2 b9⟩
  have h4 : t > 1000000 := by omega
  clear h
  go_enter Try.func7, Try.ntmps7
  go_wp2_with (go_at_call 9; refine (K _).mono ?_; rintro e w9 ⟨rfl, b9⟩)
  go_ret
  exact ⟨rfl, q_trans (two_cr w cl r).2.2 b9⟩
theorem spans_any (K : LiveC) (y : Hd) (l : List (Ac × Hd)) (c : Int) (cl : C) (r : Rp) (t d : Int) (w : World) (HH : HasZ w y l) :
    Calls Try.prog 7 #[.slice y.o y.n y.c, .int .i64 c, (.agg #[.int .i64 cl.k, .int .u64 cl.a, .int .u64 cl.b, .int .i64 cl.r, .int .i64 cl.g, .int .i64 cl.t, .int .i64 cl.s, .int .i64 cl.v]), (.agg #[.int .i64 r.e, .int .i64 r.v, .int .i64 r.b, .bool r.t]), .int .i64 t, .int .i64 d] w fun e w' => e = .returned (.bool true) ∧ Below w.heap.size w w' := by
  by_cases h : 60 < y.n ∨ d < 0 ∨ d > 1000 ∨ t > 1000000
  · exact spans_out K y c cl r t d w h
  · exact spans_in K y.o y.n y.c l c cl r t d w (by omega) (by omega) (by omega) (by omega) HH
end Go.Proofs.Ytmnkbkhfonngeaa.Hi
