/- CapNever answers true. -/
import Derived.Test.YtgjkocbfpcgccaaDoorCpBack
import Derived.Test.YtgjkocbfpcgccaaDoorRcRefA
namespace Go.Proofs.YtgjkocbfpcgccaaDoor.Cp
open Go.RowKit

/-- Three capabilities lie in three blocks. -/
structure Has3 (w W : World) (m n p : Nat) (c d f : K) : Prop where
  i1 : In W m c
  i2 : In W n d
  i3 : In W p f
  low : Below w.heap.size w W
theorem Has3.below {w W W' : World} {m n p : Nat} {c d f : K} (h : Has3 w W m n p c d f) (hb : Below W.heap.size W W') : Has3 w W' m n p c d f := ⟨h.i1.below hb, h.i2.below hb, h.i3.below hb, q_trans h.low hb⟩

/-- WHAT IS DERIVED MAY BE, NAMES THE SAME OBJECT, HAS NO MORE RIGHTS; A BADGE STAYS. -/
theorem drv_never {c : K} {r b : Int} (h : drvE c r b = 0) : someB (drvC c r b) = true ∧ namB c (drvC c r b) = true ∧ Rt.wiB (drvC c r b).r c.r = true ∧ (¬ c.b = 0 → (drvC c r b).b = c.b) ∧ (drvC c r b).t = c.t ∧ (drvC c r b).o = c.o ∧ (drvC c r b).g = c.g := by
  obtain ⟨hs, hw, hb, hc⟩ := drv_ok h
  rw [hc]
  have hs' := hs
  simp only [someB, Bool.and_eq_true, decide_eq_true_eq, up_iff] at hs'
  obtain ⟨ht, ⟨⟨hr, hbb⟩, ho⟩, hg⟩ := hs'
  have hr2 := (Rt.wiB_iff.1 hw).1
  have hs2 : someB ⟨c.t, r, if b = 0 then c.b else b, c.o, c.g⟩ = true := by
    simp only [someB, Bool.and_eq_true, decide_eq_true_eq, up_iff]
    refine ⟨ht, ⟨⟨hr2, ?_⟩, ho⟩, hg⟩
    by_cases h0 : b = 0
    · rw [if_pos h0]; exact hbb
    · rw [if_neg h0]
      have h1 := hb.resolve_left h0
      simp only [badB, takesB, Bool.and_eq_true, Bool.or_eq_true, beq_iff_eq, decide_eq_true_eq] at h1
      have hm : most c.t = 65535 := by
        unfold most
        rcases h1.1.1 with e | e <;> simp [e]
      rw [hm]
      omega
  refine ⟨hs2, ?_, hw, fun hcb => ?_, rfl, rfl, rfl⟩
  · simp [namB, some_not_none hs, some_not_none hs2]
  · show (if b = 0 then c.b else b) = c.b
    by_cases h0 : b = 0
    · rw [if_pos h0]
    · have h1 := hb.resolve_left h0
      simp only [badB, takesB, Bool.and_eq_true, beq_iff_eq] at h1
      exact absurd h1.1.2 hcb
theorem some_ok {c : K} (h : someB c = true) : okB c = true := by simp [okB, h]
theorem names_v {c d : K} {v : Bool} (h : namB c d = v) (w : World) :
    Calls Tryd.prog 23 #[(.agg #[.int .i64 c.t, .int .i64 c.r, .int .i64 c.b, .int .i64 c.o, .int .i64 c.g]), (.agg #[.int .i64 d.t, .int .i64 d.r, .int .i64 d.b, .int .i64 d.o, .int .i64 d.g])] w fun e w' => e = .returned (.bool v) ∧ Below w.heap.size w w' := by
  have := names_any c d w
  rwa [h] at this
theorem may_v {c : K} {r : Int} {v : Bool} (h : mayB c r = v) (w : World) (hT : Tabs w) :
    Calls Tryd.prog 21 #[(.agg #[.int .i64 c.t, .int .i64 c.r, .int .i64 c.b, .int .i64 c.o, .int .i64 c.g]), .int .i64 r] w fun e w' => e = .returned (.bool v) ∧ Below w.heap.size w w' := by
  have := may_any c r w hT
  rwa [h] at this
theorem rwithin_v {a b : Int} {v : Bool} (h : Rt.wiB a b = v) (w : World) :
    Calls Tryd.prog 25 #[.int .i64 a, .int .i64 b] w fun e w' => e = .returned (.bool v) ∧ w' = w := by
  have := Rt.rwithin_any a b w
  rwa [h] at this

set_option maxRecDepth 100000 in
set_option maxHeartbeats 600000 in
theorem never_no (c : K) (r b l o : Int) (w : World) (hT : Tabs w) (h : ¬ drvE c r b = 0) :
    Calls Tryd.prog 6 #[(.agg #[.int .i64 c.t, .int .i64 c.r, .int .i64 c.b, .int .i64 c.o, .int .i64 c.g]), .int .i64 r, .int .i64 b, .int .i64 l, .int .i64 o] w fun e w' => e = .returned (.bool true) ∧ Below w.heap.size w w' := by
  have HT : Hid (Tabs w) := hT
  obtain ⟨E, hE⟩ : ∃ E, drvE c r b = E := ⟨_, rfl⟩
  have H1 : Hid (∀ W : World, Tabs W → Calls Tryd.prog 19 #[(.agg #[.int .i64 c.t, .int .i64 c.r, .int .i64 c.b, .int .i64 c.o, .int .i64 c.g]), .int .i64 r, .int .i64 b] W fun e w' => e = .returned (.tuple #[.agg #[.int .i64 0, .int .i64 0, .int .i64 0, .int .i64 0, .int .i64 0], .int .i64 E]) ∧ Below W.heap.size W w') := fun W hW => by
    have := derive_any c r b W hW
    rwa [drv_no h, hE] at this
  rw [hE] at h
  clear hT hE
  go_enter Tryd.func6, Tryd.ntmps6
  go_wp2_with fail
  refine (H1.out _ (HT.out.below (q_alloc (Below.refl _ _) _))).mono ?_
  rintro e w1 ⟨rfl, b1⟩
  have HB1 : Hid (Below w.heap.size w (w1.alloc (.cells #[.int .i64 0, .int .i64 0, .int .i64 0, .int .i64 0, .int .i64 0] 23))) := q_alloc (q_trans (q_alloc (Below.refl _ _) _) b1) _
  clear b1
  go_wp2_with (first | (go_at_call 13; refine (num_any _ _).mono ?_; rintro e w5 ⟨rfl, rfl⟩) | (go_at_call 18; refine (live_any _ (HT.out.below HB1.out)).mono ?_; rintro e w6 ⟨rfl, b6⟩))
  go_ret
  exact ⟨rfl, q_trans HB1.out b6⟩

set_option maxRecDepth 100000 in
set_option maxHeartbeats 600000 in
theorem never_ez (c : K) (r b l o : Int) (w : World) (hT : Tabs w) (h : drvE c r b = 0) (h0 : c.b = 0) (h2 : ¬ drvE (drvC c r b) l o = 0) :
    Calls Tryd.prog 6 #[(.agg #[.int .i64 c.t, .int .i64 c.r, .int .i64 c.b, .int .i64 c.o, .int .i64 c.g]), .int .i64 r, .int .i64 b, .int .i64 l, .int .i64 o] w fun e w' => e = .returned (.bool true) ∧ Below w.heap.size w w' := by
  have HT : Hid (Tabs w) := hT
  obtain ⟨d, hd⟩ : ∃ d, drvC c r b = d := ⟨_, rfl⟩
  obtain ⟨f, hf⟩ : ∃ f, drvC d l o = f := ⟨_, rfl⟩
  obtain ⟨E, hE⟩ : ∃ E, drvE d l o = E := ⟨_, rfl⟩
  have H1 : Hid (∀ W : World, Tabs W → Calls Tryd.prog 19 #[(.agg #[.int .i64 c.t, .int .i64 c.r, .int .i64 c.b, .int .i64 c.o, .int .i64 c.g]), .int .i64 r, .int .i64 b] W fun e w' => e = .returned (.tuple #[(.agg #[.int .i64 d.t, .int .i64 d.r, .int .i64 d.b, .int .i64 d.o, .int .i64 d.g]), .int .i64 0]) ∧ Below W.heap.size W w') := fun W hW => by
    have := derive_any c r b W hW
    rwa [hd, h] at this
  have H2 : ∀ W : World, Tabs W → Calls Tryd.prog 19 #[(.agg #[.int .i64 d.t, .int .i64 d.r, .int .i64 d.b, .int .i64 d.o, .int .i64 d.g]), .int .i64 l, .int .i64 o] W fun e w' => e = .returned (.tuple #[(.agg #[.int .i64 f.t, .int .i64 f.r, .int .i64 f.b, .int .i64 f.o, .int .i64 f.g]), .int .i64 E]) ∧ Below W.heap.size W w' := fun W hW => by
    have := derive_any d l o W hW
    rwa [hf, hE] at this
  have hn := drv_never h
  rw [hd] at hn
  obtain ⟨n1, n2, n3, n4, n5, n6, n7⟩ := hn
  have C1 : Hid _ := fun W (hW : Tabs W) => check_c (some_ok n1) W hW
  have C2 : Hid _ := fun W => names_v n2 W
  have C3 : Hid _ := fun W => rwithin_v n3 W
  have hcb : (c.b != 0) = false := by simp [h0]
  have hE0 : ¬ E = 0 := by rw [← hE, ← hd]; exact h2
  clear h2
  have G2 : Hid _ := H2
  have HI : Hid (In (w.alloc (.cells #[.int .i64 c.t, .int .i64 c.r, .int .i64 c.b, .int .i64 c.o, .int .i64 c.g] 23)) w.heap.size c) := in_new w c 23
  clear hT h hd hf hE n1 n2 n3 n4 n5 n6 n7 H2 h0
  go_enter Tryd.func6, Tryd.ntmps6
  go_wp2_with fail
  refine (H1.out _ (HT.out.below (q_alloc (Below.refl _ _) _))).mono ?_
  rintro e w1 ⟨rfl, b1⟩
  have HB1 : Hid (Below w.heap.size w (w1.alloc (.cells #[.int .i64 d.t, .int .i64 d.r, .int .i64 d.b, .int .i64 d.o, .int .i64 d.g] 23))) := q_alloc (q_trans (q_alloc (Below.refl _ _) _) b1) _
  have HI1 : Hid (In (w1.alloc (.cells #[.int .i64 d.t, .int .i64 d.r, .int .i64 d.b, .int .i64 d.o, .int .i64 d.g] 23)) w.heap.size c) := (HI.out.below b1).below (q_alloc (Below.refl _ _) _)
  have HD1 : Hid (In (w1.alloc (.cells #[.int .i64 d.t, .int .i64 d.r, .int .i64 d.b, .int .i64 d.o, .int .i64 d.g] 23)) w1.heap.size d) := in_new w1 d 23
  clear b1
  go_wp2_with (go_at_call 13; refine (num_any _ _).mono ?_; rintro e w5 ⟨rfl, rfl⟩)
  refine (G2.out _ (HT.out.below HB1.out)).mono ?_
  rintro e w2 ⟨rfl, b2⟩
  have b3 := q_alloc (Below.refl w2.heap.size w2) (.cells #[.int .i64 f.t, .int .i64 f.r, .int .i64 f.b, .int .i64 f.o, .int .i64 f.g] 23)
  have HA2 : Hid (Has3 w (w2.alloc (.cells #[.int .i64 f.t, .int .i64 f.r, .int .i64 f.b, .int .i64 f.o, .int .i64 f.g] 23)) w.heap.size w1.heap.size w2.heap.size c d f) := ⟨(HI1.out.below b2).below b3, (HD1.out.below b2).below b3, in_new w2 f 23, q_trans (q_trans HB1.out b2) b3⟩
  have e1 := HI1.out.below b2
  have e2 := HD1.out.below b2
  have hl1 := e1.lt
  have hl2 := e2.lt
  obtain ⟨c0, c1, c2, c3, c4⟩ := e1
  obtain ⟨d0, d1, d2, d3, d4⟩ := e2
  have f0 := HA2.out.i3.c0
  have f1 := HA2.out.i3.c1
  have f2 := HA2.out.i3.c2
  have f3 := HA2.out.i3.c3
  have f4 := HA2.out.i3.c4
  clear b2 b3
  go_wp2_with (go_at_call 13; refine (num_any _ _).mono ?_; rintro e w5 ⟨rfl, rfl⟩)
  refine (C1.out _ (HT.out.below HA2.out.low)).mono ?_
  rintro e w3 ⟨rfl, b3⟩
  have HA3 : Hid (Has3 w w3 w.heap.size w1.heap.size w2.heap.size c d f) := HA2.out.below b3
  clear b3 c0 c1 c2 c3 c4 d0 d1 d2 d3 d4 f0 f1 f2 f3 f4
  obtain ⟨c0, c1, c2, c3, c4⟩ := HA3.out.i1
  obtain ⟨d0, d1, d2, d3, d4⟩ := HA3.out.i2
  obtain ⟨f0, f1, f2, f3, f4⟩ := HA3.out.i3
  go_wp2_with (go_at_call 13; refine (num_any _ _).mono ?_; rintro e w5 ⟨rfl, rfl⟩)
  refine (C2.out _).mono ?_
  rintro e w4 ⟨rfl, b4⟩
  have HA4 : Hid (Has3 w w4 w.heap.size w1.heap.size w2.heap.size c d f) := HA3.out.below b4
  clear b4 c0 c1 c2 c3 c4 d0 d1 d2 d3 d4 f0 f1 f2 f3 f4
  obtain ⟨c0, c1, c2, c3, c4⟩ := HA4.out.i1
  obtain ⟨d0, d1, d2, d3, d4⟩ := HA4.out.i2
  obtain ⟨f0, f1, f2, f3, f4⟩ := HA4.out.i3
  go_wp2_with (first | (go_at_call 13; refine (num_any _ _).mono ?_; rintro e w5 ⟨rfl, rfl⟩) | (go_at_call 25; refine (C3.out _).mono ?_; rintro e w7 ⟨rfl, rfl⟩) | (go_at_call 18; refine (live_any _ (HT.out.below HA4.out.low)).mono ?_; rintro e w6 ⟨rfl, b6⟩))
  go_ret
  exact ⟨rfl, q_trans HA4.out.low b6⟩

set_option maxRecDepth 100000 in
set_option maxHeartbeats 600000 in
theorem never_tz (c : K) (r b l o : Int) (w : World) (hT : Tabs w) (h : drvE c r b = 0) (h0 : c.b = 0) (h2 : drvE (drvC c r b) l o = 0) (h3 : mayB (drvC (drvC c r b) l o) 15 = true) :
    Calls Tryd.prog 6 #[(.agg #[.int .i64 c.t, .int .i64 c.r, .int .i64 c.b, .int .i64 c.o, .int .i64 c.g]), .int .i64 r, .int .i64 b, .int .i64 l, .int .i64 o] w fun e w' => e = .returned (.bool true) ∧ Below w.heap.size w w' := by
  have HT : Hid (Tabs w) := hT
  obtain ⟨d, hd⟩ : ∃ d, drvC c r b = d := ⟨_, rfl⟩
  obtain ⟨f, hf⟩ : ∃ f, drvC d l o = f := ⟨_, rfl⟩
  obtain ⟨E, hE⟩ : ∃ E, drvE d l o = E := ⟨_, rfl⟩
  have H1 : Hid (∀ W : World, Tabs W → Calls Tryd.prog 19 #[(.agg #[.int .i64 c.t, .int .i64 c.r, .int .i64 c.b, .int .i64 c.o, .int .i64 c.g]), .int .i64 r, .int .i64 b] W fun e w' => e = .returned (.tuple #[(.agg #[.int .i64 d.t, .int .i64 d.r, .int .i64 d.b, .int .i64 d.o, .int .i64 d.g]), .int .i64 0]) ∧ Below W.heap.size W w') := fun W hW => by
    have := derive_any c r b W hW
    rwa [hd, h] at this
  have H2 : ∀ W : World, Tabs W → Calls Tryd.prog 19 #[(.agg #[.int .i64 d.t, .int .i64 d.r, .int .i64 d.b, .int .i64 d.o, .int .i64 d.g]), .int .i64 l, .int .i64 o] W fun e w' => e = .returned (.tuple #[(.agg #[.int .i64 f.t, .int .i64 f.r, .int .i64 f.b, .int .i64 f.o, .int .i64 f.g]), .int .i64 E]) ∧ Below W.heap.size W w' := fun W hW => by
    have := derive_any d l o W hW
    rwa [hf, hE] at this
  have hn := drv_never h
  rw [hd] at hn
  obtain ⟨n1, n2, n3, n4, n5, n6, n7⟩ := hn
  have C1 : Hid _ := fun W (hW : Tabs W) => check_c (some_ok n1) W hW
  have C2 : Hid _ := fun W => names_v n2 W
  have C3 : Hid _ := fun W => rwithin_v n3 W
  have hcb : (c.b != 0) = false := by simp [h0]
  have hz : drvE d l o = 0 := by rw [← hd]; exact h2
  have hm := drv_never hz
  rw [hf] at hm
  obtain ⟨m1, m2, m3, m4, m5, m6, m7⟩ := hm
  have hcf : namB c f = true := by simp [namB, some_not_none m1, m5, m6, m7, n5, n6, n7]; exact some_not_none (drv_ok h).1
  have hf15 : mayB f 15 = true := by rw [← hf, ← hd]; exact h3
  have D1 : Hid _ := fun W (hW : Tabs W) => check_c (some_ok m1) W hW
  have D2 : Hid _ := fun W => names_v hcf W
  have D3 : Hid _ := fun W => rwithin_v m3 W
  have D4 : Hid _ := fun W (hW : Tabs W) => may_v hf15 W hW
  have hc15 : mayB c 15 = true := by
    simp only [mayB, Bool.and_eq_true] at hf15 ⊢
    exact ⟨(drv_ok h).1, Rt.wiB_trans hf15.2 (Rt.wiB_trans m3 n3)⟩
  have D5 : Hid _ := fun W (hW : Tabs W) => may_v hc15 W hW
  clear hc15
  rw [hE] at hz
  subst hz
  clear hcf hf15 m1 m2 m3 m4 m5 m6 m7 h2 h3
  have G2 : Hid _ := H2
  have HI : Hid (In (w.alloc (.cells #[.int .i64 c.t, .int .i64 c.r, .int .i64 c.b, .int .i64 c.o, .int .i64 c.g] 23)) w.heap.size c) := in_new w c 23
  clear hT h hd hf hE n1 n2 n3 n4 n5 n6 n7 H2 h0
  go_enter Tryd.func6, Tryd.ntmps6
  go_wp2_with fail
  refine (H1.out _ (HT.out.below (q_alloc (Below.refl _ _) _))).mono ?_
  rintro e w1 ⟨rfl, b1⟩
  have HB1 : Hid (Below w.heap.size w (w1.alloc (.cells #[.int .i64 d.t, .int .i64 d.r, .int .i64 d.b, .int .i64 d.o, .int .i64 d.g] 23))) := q_alloc (q_trans (q_alloc (Below.refl _ _) _) b1) _
  have HI1 : Hid (In (w1.alloc (.cells #[.int .i64 d.t, .int .i64 d.r, .int .i64 d.b, .int .i64 d.o, .int .i64 d.g] 23)) w.heap.size c) := (HI.out.below b1).below (q_alloc (Below.refl _ _) _)
  have HD1 : Hid (In (w1.alloc (.cells #[.int .i64 d.t, .int .i64 d.r, .int .i64 d.b, .int .i64 d.o, .int .i64 d.g] 23)) w1.heap.size d) := in_new w1 d 23
  clear b1
  go_wp2_with (go_at_call 13; refine (num_any _ _).mono ?_; rintro e w5 ⟨rfl, rfl⟩)
  refine (G2.out _ (HT.out.below HB1.out)).mono ?_
  rintro e w2 ⟨rfl, b2⟩
  have b3 := q_alloc (Below.refl w2.heap.size w2) (.cells #[.int .i64 f.t, .int .i64 f.r, .int .i64 f.b, .int .i64 f.o, .int .i64 f.g] 23)
  have HA2 : Hid (Has3 w (w2.alloc (.cells #[.int .i64 f.t, .int .i64 f.r, .int .i64 f.b, .int .i64 f.o, .int .i64 f.g] 23)) w.heap.size w1.heap.size w2.heap.size c d f) := ⟨(HI1.out.below b2).below b3, (HD1.out.below b2).below b3, in_new w2 f 23, q_trans (q_trans HB1.out b2) b3⟩
  have e1 := HI1.out.below b2
  have e2 := HD1.out.below b2
  have hl1 := e1.lt
  have hl2 := e2.lt
  obtain ⟨c0, c1, c2, c3, c4⟩ := e1
  obtain ⟨d0, d1, d2, d3, d4⟩ := e2
  have f0 := HA2.out.i3.c0
  have f1 := HA2.out.i3.c1
  have f2 := HA2.out.i3.c2
  have f3 := HA2.out.i3.c3
  have f4 := HA2.out.i3.c4
  clear b2 b3
  go_wp2_with (go_at_call 13; refine (num_any _ _).mono ?_; rintro e w5 ⟨rfl, rfl⟩)
  refine (C1.out _ (HT.out.below HA2.out.low)).mono ?_
  rintro e w3 ⟨rfl, b3⟩
  have HA3 : Hid (Has3 w w3 w.heap.size w1.heap.size w2.heap.size c d f) := HA2.out.below b3
  clear b3 c0 c1 c2 c3 c4 d0 d1 d2 d3 d4 f0 f1 f2 f3 f4
  obtain ⟨c0, c1, c2, c3, c4⟩ := HA3.out.i1
  obtain ⟨d0, d1, d2, d3, d4⟩ := HA3.out.i2
  obtain ⟨f0, f1, f2, f3, f4⟩ := HA3.out.i3
  go_wp2_with (go_at_call 13; refine (num_any _ _).mono ?_; rintro e w5 ⟨rfl, rfl⟩)
  refine (C2.out _).mono ?_
  rintro e w4 ⟨rfl, b4⟩
  have HA4 : Hid (Has3 w w4 w.heap.size w1.heap.size w2.heap.size c d f) := HA3.out.below b4
  clear b4 c0 c1 c2 c3 c4 d0 d1 d2 d3 d4 f0 f1 f2 f3 f4
  obtain ⟨c0, c1, c2, c3, c4⟩ := HA4.out.i1
  obtain ⟨d0, d1, d2, d3, d4⟩ := HA4.out.i2
  obtain ⟨f0, f1, f2, f3, f4⟩ := HA4.out.i3
  go_wp2_with (first | (go_at_call 13; refine (num_any _ _).mono ?_; rintro e w5 ⟨rfl, rfl⟩) | (go_at_call 25; refine (C3.out _).mono ?_; rintro e w7 ⟨rfl, rfl⟩))
  refine (D1.out _ (HT.out.below HA4.out.low)).mono ?_
  rintro e w8 ⟨rfl, b8⟩
  have HA8 : Hid (Has3 w w8 w.heap.size w1.heap.size w2.heap.size c d f) := HA4.out.below b8
  clear b8 c0 c1 c2 c3 c4 d0 d1 d2 d3 d4 f0 f1 f2 f3 f4
  obtain ⟨c0, c1, c2, c3, c4⟩ := HA8.out.i1
  obtain ⟨d0, d1, d2, d3, d4⟩ := HA8.out.i2
  obtain ⟨f0, f1, f2, f3, f4⟩ := HA8.out.i3
  go_wp2_with (go_at_call 13; refine (num_any _ _).mono ?_; rintro e w5 ⟨rfl, rfl⟩)
  refine (D2.out _).mono ?_
  rintro e w9 ⟨rfl, b9⟩
  have HA9 : Hid (Has3 w w9 w.heap.size w1.heap.size w2.heap.size c d f) := HA8.out.below b9
  clear b9 c0 c1 c2 c3 c4 d0 d1 d2 d3 d4 f0 f1 f2 f3 f4
  obtain ⟨c0, c1, c2, c3, c4⟩ := HA9.out.i1
  obtain ⟨d0, d1, d2, d3, d4⟩ := HA9.out.i2
  obtain ⟨f0, f1, f2, f3, f4⟩ := HA9.out.i3
  go_wp2_with (go_at_call 25; refine (D3.out _).mono ?_; rintro e w7 ⟨rfl, rfl⟩)
  refine (D4.out _ (HT.out.below HA9.out.low)).mono ?_
  rintro e w10 ⟨rfl, b10⟩
  have HA10 : Hid (Has3 w w10 w.heap.size w1.heap.size w2.heap.size c d f) := HA9.out.below b10
  clear b10 c0 c1 c2 c3 c4 d0 d1 d2 d3 d4 f0 f1 f2 f3 f4
  obtain ⟨c0, c1, c2, c3, c4⟩ := HA10.out.i1
  obtain ⟨d0, d1, d2, d3, d4⟩ := HA10.out.i2
  obtain ⟨f0, f1, f2, f3, f4⟩ := HA10.out.i3
  go_wp2_with fail
  refine (D5.out _ (HT.out.below HA10.out.low)).mono ?_
  rintro e w11 ⟨rfl, b11⟩
  have HA11 : Hid (Has3 w w11 w.heap.size w1.heap.size w2.heap.size c d f) := HA10.out.below b11
  clear b11 c0 c1 c2 c3 c4 d0 d1 d2 d3 d4 f0 f1 f2 f3 f4
  obtain ⟨c0, c1, c2, c3, c4⟩ := HA11.out.i1
  obtain ⟨d0, d1, d2, d3, d4⟩ := HA11.out.i2
  obtain ⟨f0, f1, f2, f3, f4⟩ := HA11.out.i3
  go_wp2_with (go_at_call 18; refine (live_any _ (HT.out.below HA11.out.low)).mono ?_; rintro e w6 ⟨rfl, b6⟩)
  go_ret
  exact ⟨rfl, q_trans HA11.out.low b6⟩

set_option maxRecDepth 100000 in
set_option maxHeartbeats 600000 in
theorem never_fz (c : K) (r b l o : Int) (w : World) (hT : Tabs w) (h : drvE c r b = 0) (h0 : c.b = 0) (h2 : drvE (drvC c r b) l o = 0) (h3 : mayB (drvC (drvC c r b) l o) 15 = false) :
    Calls Tryd.prog 6 #[(.agg #[.int .i64 c.t, .int .i64 c.r, .int .i64 c.b, .int .i64 c.o, .int .i64 c.g]), .int .i64 r, .int .i64 b, .int .i64 l, .int .i64 o] w fun e w' => e = .returned (.bool true) ∧ Below w.heap.size w w' := by
  have HT : Hid (Tabs w) := hT
  obtain ⟨d, hd⟩ : ∃ d, drvC c r b = d := ⟨_, rfl⟩
  obtain ⟨f, hf⟩ : ∃ f, drvC d l o = f := ⟨_, rfl⟩
  obtain ⟨E, hE⟩ : ∃ E, drvE d l o = E := ⟨_, rfl⟩
  have H1 : Hid (∀ W : World, Tabs W → Calls Tryd.prog 19 #[(.agg #[.int .i64 c.t, .int .i64 c.r, .int .i64 c.b, .int .i64 c.o, .int .i64 c.g]), .int .i64 r, .int .i64 b] W fun e w' => e = .returned (.tuple #[(.agg #[.int .i64 d.t, .int .i64 d.r, .int .i64 d.b, .int .i64 d.o, .int .i64 d.g]), .int .i64 0]) ∧ Below W.heap.size W w') := fun W hW => by
    have := derive_any c r b W hW
    rwa [hd, h] at this
  have H2 : ∀ W : World, Tabs W → Calls Tryd.prog 19 #[(.agg #[.int .i64 d.t, .int .i64 d.r, .int .i64 d.b, .int .i64 d.o, .int .i64 d.g]), .int .i64 l, .int .i64 o] W fun e w' => e = .returned (.tuple #[(.agg #[.int .i64 f.t, .int .i64 f.r, .int .i64 f.b, .int .i64 f.o, .int .i64 f.g]), .int .i64 E]) ∧ Below W.heap.size W w' := fun W hW => by
    have := derive_any d l o W hW
    rwa [hf, hE] at this
  have hn := drv_never h
  rw [hd] at hn
  obtain ⟨n1, n2, n3, n4, n5, n6, n7⟩ := hn
  have C1 : Hid _ := fun W (hW : Tabs W) => check_c (some_ok n1) W hW
  have C2 : Hid _ := fun W => names_v n2 W
  have C3 : Hid _ := fun W => rwithin_v n3 W
  have hcb : (c.b != 0) = false := by simp [h0]
  have hz : drvE d l o = 0 := by rw [← hd]; exact h2
  have hm := drv_never hz
  rw [hf] at hm
  obtain ⟨m1, m2, m3, m4, m5, m6, m7⟩ := hm
  have hcf : namB c f = true := by simp [namB, some_not_none m1, m5, m6, m7, n5, n6, n7]; exact some_not_none (drv_ok h).1
  have hf15 : mayB f 15 = false := by rw [← hf, ← hd]; exact h3
  have D1 : Hid _ := fun W (hW : Tabs W) => check_c (some_ok m1) W hW
  have D2 : Hid _ := fun W => names_v hcf W
  have D3 : Hid _ := fun W => rwithin_v m3 W
  have D4 : Hid _ := fun W (hW : Tabs W) => may_v hf15 W hW
  rw [hE] at hz
  subst hz
  clear hcf hf15 m1 m2 m3 m4 m5 m6 m7 h2 h3
  have G2 : Hid _ := H2
  have HI : Hid (In (w.alloc (.cells #[.int .i64 c.t, .int .i64 c.r, .int .i64 c.b, .int .i64 c.o, .int .i64 c.g] 23)) w.heap.size c) := in_new w c 23
  clear hT h hd hf hE n1 n2 n3 n4 n5 n6 n7 H2 h0
  go_enter Tryd.func6, Tryd.ntmps6
  go_wp2_with fail
  refine (H1.out _ (HT.out.below (q_alloc (Below.refl _ _) _))).mono ?_
  rintro e w1 ⟨rfl, b1⟩
  have HB1 : Hid (Below w.heap.size w (w1.alloc (.cells #[.int .i64 d.t, .int .i64 d.r, .int .i64 d.b, .int .i64 d.o, .int .i64 d.g] 23))) := q_alloc (q_trans (q_alloc (Below.refl _ _) _) b1) _
  have HI1 : Hid (In (w1.alloc (.cells #[.int .i64 d.t, .int .i64 d.r, .int .i64 d.b, .int .i64 d.o, .int .i64 d.g] 23)) w.heap.size c) := (HI.out.below b1).below (q_alloc (Below.refl _ _) _)
  have HD1 : Hid (In (w1.alloc (.cells #[.int .i64 d.t, .int .i64 d.r, .int .i64 d.b, .int .i64 d.o, .int .i64 d.g] 23)) w1.heap.size d) := in_new w1 d 23
  clear b1
  go_wp2_with (go_at_call 13; refine (num_any _ _).mono ?_; rintro e w5 ⟨rfl, rfl⟩)
  refine (G2.out _ (HT.out.below HB1.out)).mono ?_
  rintro e w2 ⟨rfl, b2⟩
  have b3 := q_alloc (Below.refl w2.heap.size w2) (.cells #[.int .i64 f.t, .int .i64 f.r, .int .i64 f.b, .int .i64 f.o, .int .i64 f.g] 23)
  have HA2 : Hid (Has3 w (w2.alloc (.cells #[.int .i64 f.t, .int .i64 f.r, .int .i64 f.b, .int .i64 f.o, .int .i64 f.g] 23)) w.heap.size w1.heap.size w2.heap.size c d f) := ⟨(HI1.out.below b2).below b3, (HD1.out.below b2).below b3, in_new w2 f 23, q_trans (q_trans HB1.out b2) b3⟩
  have e1 := HI1.out.below b2
  have e2 := HD1.out.below b2
  have hl1 := e1.lt
  have hl2 := e2.lt
  obtain ⟨c0, c1, c2, c3, c4⟩ := e1
  obtain ⟨d0, d1, d2, d3, d4⟩ := e2
  have f0 := HA2.out.i3.c0
  have f1 := HA2.out.i3.c1
  have f2 := HA2.out.i3.c2
  have f3 := HA2.out.i3.c3
  have f4 := HA2.out.i3.c4
  clear b2 b3
  go_wp2_with (go_at_call 13; refine (num_any _ _).mono ?_; rintro e w5 ⟨rfl, rfl⟩)
  refine (C1.out _ (HT.out.below HA2.out.low)).mono ?_
  rintro e w3 ⟨rfl, b3⟩
  have HA3 : Hid (Has3 w w3 w.heap.size w1.heap.size w2.heap.size c d f) := HA2.out.below b3
  clear b3 c0 c1 c2 c3 c4 d0 d1 d2 d3 d4 f0 f1 f2 f3 f4
  obtain ⟨c0, c1, c2, c3, c4⟩ := HA3.out.i1
  obtain ⟨d0, d1, d2, d3, d4⟩ := HA3.out.i2
  obtain ⟨f0, f1, f2, f3, f4⟩ := HA3.out.i3
  go_wp2_with (go_at_call 13; refine (num_any _ _).mono ?_; rintro e w5 ⟨rfl, rfl⟩)
  refine (C2.out _).mono ?_
  rintro e w4 ⟨rfl, b4⟩
  have HA4 : Hid (Has3 w w4 w.heap.size w1.heap.size w2.heap.size c d f) := HA3.out.below b4
  clear b4 c0 c1 c2 c3 c4 d0 d1 d2 d3 d4 f0 f1 f2 f3 f4
  obtain ⟨c0, c1, c2, c3, c4⟩ := HA4.out.i1
  obtain ⟨d0, d1, d2, d3, d4⟩ := HA4.out.i2
  obtain ⟨f0, f1, f2, f3, f4⟩ := HA4.out.i3
  go_wp2_with (first | (go_at_call 13; refine (num_any _ _).mono ?_; rintro e w5 ⟨rfl, rfl⟩) | (go_at_call 25; refine (C3.out _).mono ?_; rintro e w7 ⟨rfl, rfl⟩))
  refine (D1.out _ (HT.out.below HA4.out.low)).mono ?_
  rintro e w8 ⟨rfl, b8⟩
  have HA8 : Hid (Has3 w w8 w.heap.size w1.heap.size w2.heap.size c d f) := HA4.out.below b8
  clear b8 c0 c1 c2 c3 c4 d0 d1 d2 d3 d4 f0 f1 f2 f3 f4
  obtain ⟨c0, c1, c2, c3, c4⟩ := HA8.out.i1
  obtain ⟨d0, d1, d2, d3, d4⟩ := HA8.out.i2
  obtain ⟨f0, f1, f2, f3, f4⟩ := HA8.out.i3
  go_wp2_with (go_at_call 13; refine (num_any _ _).mono ?_; rintro e w5 ⟨rfl, rfl⟩)
  refine (D2.out _).mono ?_
  rintro e w9 ⟨rfl, b9⟩
  have HA9 : Hid (Has3 w w9 w.heap.size w1.heap.size w2.heap.size c d f) := HA8.out.below b9
  clear b9 c0 c1 c2 c3 c4 d0 d1 d2 d3 d4 f0 f1 f2 f3 f4
  obtain ⟨c0, c1, c2, c3, c4⟩ := HA9.out.i1
  obtain ⟨d0, d1, d2, d3, d4⟩ := HA9.out.i2
  obtain ⟨f0, f1, f2, f3, f4⟩ := HA9.out.i3
  go_wp2_with (go_at_call 25; refine (D3.out _).mono ?_; rintro e w7 ⟨rfl, rfl⟩)
  refine (D4.out _ (HT.out.below HA9.out.low)).mono ?_
  rintro e w10 ⟨rfl, b10⟩
  have HA10 : Hid (Has3 w w10 w.heap.size w1.heap.size w2.heap.size c d f) := HA9.out.below b10
  clear b10 c0 c1 c2 c3 c4 d0 d1 d2 d3 d4 f0 f1 f2 f3 f4
  obtain ⟨c0, c1, c2, c3, c4⟩ := HA10.out.i1
  obtain ⟨d0, d1, d2, d3, d4⟩ := HA10.out.i2
  obtain ⟨f0, f1, f2, f3, f4⟩ := HA10.out.i3
  go_wp2_with (go_at_call 18; refine (live_any _ (HT.out.below HA10.out.low)).mono ?_; rintro e w6 ⟨rfl, b6⟩)
  go_ret
  exact ⟨rfl, q_trans HA10.out.low b6⟩

set_option maxRecDepth 100000 in
set_option maxHeartbeats 600000 in
theorem never_en (c : K) (r b l o : Int) (w : World) (hT : Tabs w) (h : drvE c r b = 0) (h0 : ¬ c.b = 0) (h2 : ¬ drvE (drvC c r b) l o = 0) :
    Calls Tryd.prog 6 #[(.agg #[.int .i64 c.t, .int .i64 c.r, .int .i64 c.b, .int .i64 c.o, .int .i64 c.g]), .int .i64 r, .int .i64 b, .int .i64 l, .int .i64 o] w fun e w' => e = .returned (.bool true) ∧ Below w.heap.size w w' := by
  have HT : Hid (Tabs w) := hT
  obtain ⟨d, hd⟩ : ∃ d, drvC c r b = d := ⟨_, rfl⟩
  obtain ⟨f, hf⟩ : ∃ f, drvC d l o = f := ⟨_, rfl⟩
  obtain ⟨E, hE⟩ : ∃ E, drvE d l o = E := ⟨_, rfl⟩
  have H1 : Hid (∀ W : World, Tabs W → Calls Tryd.prog 19 #[(.agg #[.int .i64 c.t, .int .i64 c.r, .int .i64 c.b, .int .i64 c.o, .int .i64 c.g]), .int .i64 r, .int .i64 b] W fun e w' => e = .returned (.tuple #[(.agg #[.int .i64 d.t, .int .i64 d.r, .int .i64 d.b, .int .i64 d.o, .int .i64 d.g]), .int .i64 0]) ∧ Below W.heap.size W w') := fun W hW => by
    have := derive_any c r b W hW
    rwa [hd, h] at this
  have H2 : ∀ W : World, Tabs W → Calls Tryd.prog 19 #[(.agg #[.int .i64 d.t, .int .i64 d.r, .int .i64 d.b, .int .i64 d.o, .int .i64 d.g]), .int .i64 l, .int .i64 o] W fun e w' => e = .returned (.tuple #[(.agg #[.int .i64 f.t, .int .i64 f.r, .int .i64 f.b, .int .i64 f.o, .int .i64 f.g]), .int .i64 E]) ∧ Below W.heap.size W w' := fun W hW => by
    have := derive_any d l o W hW
    rwa [hf, hE] at this
  have hn := drv_never h
  rw [hd] at hn
  obtain ⟨n1, n2, n3, n4, n5, n6, n7⟩ := hn
  have C1 : Hid _ := fun W (hW : Tabs W) => check_c (some_ok n1) W hW
  have C2 : Hid _ := fun W => names_v n2 W
  have C3 : Hid _ := fun W => rwithin_v n3 W
  have hcb : (c.b != 0) = true := by simp [h0]
  have hdb : (d.b != c.b) = false := by simp [n4 h0]
  have hE0 : ¬ E = 0 := by rw [← hE, ← hd]; exact h2
  clear h2
  have G2 : Hid _ := H2
  have HI : Hid (In (w.alloc (.cells #[.int .i64 c.t, .int .i64 c.r, .int .i64 c.b, .int .i64 c.o, .int .i64 c.g] 23)) w.heap.size c) := in_new w c 23
  clear hT h hd hf hE n1 n2 n3 n4 n5 n6 n7 H2 h0
  go_enter Tryd.func6, Tryd.ntmps6
  go_wp2_with fail
  refine (H1.out _ (HT.out.below (q_alloc (Below.refl _ _) _))).mono ?_
  rintro e w1 ⟨rfl, b1⟩
  have HB1 : Hid (Below w.heap.size w (w1.alloc (.cells #[.int .i64 d.t, .int .i64 d.r, .int .i64 d.b, .int .i64 d.o, .int .i64 d.g] 23))) := q_alloc (q_trans (q_alloc (Below.refl _ _) _) b1) _
  have HI1 : Hid (In (w1.alloc (.cells #[.int .i64 d.t, .int .i64 d.r, .int .i64 d.b, .int .i64 d.o, .int .i64 d.g] 23)) w.heap.size c) := (HI.out.below b1).below (q_alloc (Below.refl _ _) _)
  have HD1 : Hid (In (w1.alloc (.cells #[.int .i64 d.t, .int .i64 d.r, .int .i64 d.b, .int .i64 d.o, .int .i64 d.g] 23)) w1.heap.size d) := in_new w1 d 23
  clear b1
  go_wp2_with (go_at_call 13; refine (num_any _ _).mono ?_; rintro e w5 ⟨rfl, rfl⟩)
  refine (G2.out _ (HT.out.below HB1.out)).mono ?_
  rintro e w2 ⟨rfl, b2⟩
  have b3 := q_alloc (Below.refl w2.heap.size w2) (.cells #[.int .i64 f.t, .int .i64 f.r, .int .i64 f.b, .int .i64 f.o, .int .i64 f.g] 23)
  have HA2 : Hid (Has3 w (w2.alloc (.cells #[.int .i64 f.t, .int .i64 f.r, .int .i64 f.b, .int .i64 f.o, .int .i64 f.g] 23)) w.heap.size w1.heap.size w2.heap.size c d f) := ⟨(HI1.out.below b2).below b3, (HD1.out.below b2).below b3, in_new w2 f 23, q_trans (q_trans HB1.out b2) b3⟩
  have e1 := HI1.out.below b2
  have e2 := HD1.out.below b2
  have hl1 := e1.lt
  have hl2 := e2.lt
  obtain ⟨c0, c1, c2, c3, c4⟩ := e1
  obtain ⟨d0, d1, d2, d3, d4⟩ := e2
  have f0 := HA2.out.i3.c0
  have f1 := HA2.out.i3.c1
  have f2 := HA2.out.i3.c2
  have f3 := HA2.out.i3.c3
  have f4 := HA2.out.i3.c4
  clear b2 b3
  go_wp2_with (go_at_call 13; refine (num_any _ _).mono ?_; rintro e w5 ⟨rfl, rfl⟩)
  refine (C1.out _ (HT.out.below HA2.out.low)).mono ?_
  rintro e w3 ⟨rfl, b3⟩
  have HA3 : Hid (Has3 w w3 w.heap.size w1.heap.size w2.heap.size c d f) := HA2.out.below b3
  clear b3 c0 c1 c2 c3 c4 d0 d1 d2 d3 d4 f0 f1 f2 f3 f4
  obtain ⟨c0, c1, c2, c3, c4⟩ := HA3.out.i1
  obtain ⟨d0, d1, d2, d3, d4⟩ := HA3.out.i2
  obtain ⟨f0, f1, f2, f3, f4⟩ := HA3.out.i3
  go_wp2_with (go_at_call 13; refine (num_any _ _).mono ?_; rintro e w5 ⟨rfl, rfl⟩)
  refine (C2.out _).mono ?_
  rintro e w4 ⟨rfl, b4⟩
  have HA4 : Hid (Has3 w w4 w.heap.size w1.heap.size w2.heap.size c d f) := HA3.out.below b4
  clear b4 c0 c1 c2 c3 c4 d0 d1 d2 d3 d4 f0 f1 f2 f3 f4
  obtain ⟨c0, c1, c2, c3, c4⟩ := HA4.out.i1
  obtain ⟨d0, d1, d2, d3, d4⟩ := HA4.out.i2
  obtain ⟨f0, f1, f2, f3, f4⟩ := HA4.out.i3
  go_wp2_with (first | (go_at_call 13; refine (num_any _ _).mono ?_; rintro e w5 ⟨rfl, rfl⟩) | (go_at_call 25; refine (C3.out _).mono ?_; rintro e w7 ⟨rfl, rfl⟩) | (go_at_call 18; refine (live_any _ (HT.out.below HA4.out.low)).mono ?_; rintro e w6 ⟨rfl, b6⟩))
  go_ret
  exact ⟨rfl, q_trans HA4.out.low b6⟩

set_option maxRecDepth 100000 in
set_option maxHeartbeats 600000 in
theorem never_tn (c : K) (r b l o : Int) (w : World) (hT : Tabs w) (h : drvE c r b = 0) (h0 : ¬ c.b = 0) (h2 : drvE (drvC c r b) l o = 0) (h3 : mayB (drvC (drvC c r b) l o) 15 = true) :
    Calls Tryd.prog 6 #[(.agg #[.int .i64 c.t, .int .i64 c.r, .int .i64 c.b, .int .i64 c.o, .int .i64 c.g]), .int .i64 r, .int .i64 b, .int .i64 l, .int .i64 o] w fun e w' => e = .returned (.bool true) ∧ Below w.heap.size w w' := by
  have HT : Hid (Tabs w) := hT
  obtain ⟨d, hd⟩ : ∃ d, drvC c r b = d := ⟨_, rfl⟩
  obtain ⟨f, hf⟩ : ∃ f, drvC d l o = f := ⟨_, rfl⟩
  obtain ⟨E, hE⟩ : ∃ E, drvE d l o = E := ⟨_, rfl⟩
  have H1 : Hid (∀ W : World, Tabs W → Calls Tryd.prog 19 #[(.agg #[.int .i64 c.t, .int .i64 c.r, .int .i64 c.b, .int .i64 c.o, .int .i64 c.g]), .int .i64 r, .int .i64 b] W fun e w' => e = .returned (.tuple #[(.agg #[.int .i64 d.t, .int .i64 d.r, .int .i64 d.b, .int .i64 d.o, .int .i64 d.g]), .int .i64 0]) ∧ Below W.heap.size W w') := fun W hW => by
    have := derive_any c r b W hW
    rwa [hd, h] at this
  have H2 : ∀ W : World, Tabs W → Calls Tryd.prog 19 #[(.agg #[.int .i64 d.t, .int .i64 d.r, .int .i64 d.b, .int .i64 d.o, .int .i64 d.g]), .int .i64 l, .int .i64 o] W fun e w' => e = .returned (.tuple #[(.agg #[.int .i64 f.t, .int .i64 f.r, .int .i64 f.b, .int .i64 f.o, .int .i64 f.g]), .int .i64 E]) ∧ Below W.heap.size W w' := fun W hW => by
    have := derive_any d l o W hW
    rwa [hf, hE] at this
  have hn := drv_never h
  rw [hd] at hn
  obtain ⟨n1, n2, n3, n4, n5, n6, n7⟩ := hn
  have C1 : Hid _ := fun W (hW : Tabs W) => check_c (some_ok n1) W hW
  have C2 : Hid _ := fun W => names_v n2 W
  have C3 : Hid _ := fun W => rwithin_v n3 W
  have hcb : (c.b != 0) = true := by simp [h0]
  have hdb : (d.b != c.b) = false := by simp [n4 h0]
  have hz : drvE d l o = 0 := by rw [← hd]; exact h2
  have hm := drv_never hz
  rw [hf] at hm
  obtain ⟨m1, m2, m3, m4, m5, m6, m7⟩ := hm
  have hcf : namB c f = true := by simp [namB, some_not_none m1, m5, m6, m7, n5, n6, n7]; exact some_not_none (drv_ok h).1
  have hf15 : mayB f 15 = true := by rw [← hf, ← hd]; exact h3
  have D1 : Hid _ := fun W (hW : Tabs W) => check_c (some_ok m1) W hW
  have D2 : Hid _ := fun W => names_v hcf W
  have D3 : Hid _ := fun W => rwithin_v m3 W
  have D4 : Hid _ := fun W (hW : Tabs W) => may_v hf15 W hW
  have hc15 : mayB c 15 = true := by
    simp only [mayB, Bool.and_eq_true] at hf15 ⊢
    exact ⟨(drv_ok h).1, Rt.wiB_trans hf15.2 (Rt.wiB_trans m3 n3)⟩
  have D5 : Hid _ := fun W (hW : Tabs W) => may_v hc15 W hW
  clear hc15
  rw [hE] at hz
  subst hz
  clear hcf hf15 m1 m2 m3 m4 m5 m6 m7 h2 h3
  have G2 : Hid _ := H2
  have HI : Hid (In (w.alloc (.cells #[.int .i64 c.t, .int .i64 c.r, .int .i64 c.b, .int .i64 c.o, .int .i64 c.g] 23)) w.heap.size c) := in_new w c 23
  clear hT h hd hf hE n1 n2 n3 n4 n5 n6 n7 H2 h0
  go_enter Tryd.func6, Tryd.ntmps6
  go_wp2_with fail
  refine (H1.out _ (HT.out.below (q_alloc (Below.refl _ _) _))).mono ?_
  rintro e w1 ⟨rfl, b1⟩
  have HB1 : Hid (Below w.heap.size w (w1.alloc (.cells #[.int .i64 d.t, .int .i64 d.r, .int .i64 d.b, .int .i64 d.o, .int .i64 d.g] 23))) := q_alloc (q_trans (q_alloc (Below.refl _ _) _) b1) _
  have HI1 : Hid (In (w1.alloc (.cells #[.int .i64 d.t, .int .i64 d.r, .int .i64 d.b, .int .i64 d.o, .int .i64 d.g] 23)) w.heap.size c) := (HI.out.below b1).below (q_alloc (Below.refl _ _) _)
  have HD1 : Hid (In (w1.alloc (.cells #[.int .i64 d.t, .int .i64 d.r, .int .i64 d.b, .int .i64 d.o, .int .i64 d.g] 23)) w1.heap.size d) := in_new w1 d 23
  clear b1
  go_wp2_with (go_at_call 13; refine (num_any _ _).mono ?_; rintro e w5 ⟨rfl, rfl⟩)
  refine (G2.out _ (HT.out.below HB1.out)).mono ?_
  rintro e w2 ⟨rfl, b2⟩
  have b3 := q_alloc (Below.refl w2.heap.size w2) (.cells #[.int .i64 f.t, .int .i64 f.r, .int .i64 f.b, .int .i64 f.o, .int .i64 f.g] 23)
  have HA2 : Hid (Has3 w (w2.alloc (.cells #[.int .i64 f.t, .int .i64 f.r, .int .i64 f.b, .int .i64 f.o, .int .i64 f.g] 23)) w.heap.size w1.heap.size w2.heap.size c d f) := ⟨(HI1.out.below b2).below b3, (HD1.out.below b2).below b3, in_new w2 f 23, q_trans (q_trans HB1.out b2) b3⟩
  have e1 := HI1.out.below b2
  have e2 := HD1.out.below b2
  have hl1 := e1.lt
  have hl2 := e2.lt
  obtain ⟨c0, c1, c2, c3, c4⟩ := e1
  obtain ⟨d0, d1, d2, d3, d4⟩ := e2
  have f0 := HA2.out.i3.c0
  have f1 := HA2.out.i3.c1
  have f2 := HA2.out.i3.c2
  have f3 := HA2.out.i3.c3
  have f4 := HA2.out.i3.c4
  clear b2 b3
  go_wp2_with (go_at_call 13; refine (num_any _ _).mono ?_; rintro e w5 ⟨rfl, rfl⟩)
  refine (C1.out _ (HT.out.below HA2.out.low)).mono ?_
  rintro e w3 ⟨rfl, b3⟩
  have HA3 : Hid (Has3 w w3 w.heap.size w1.heap.size w2.heap.size c d f) := HA2.out.below b3
  clear b3 c0 c1 c2 c3 c4 d0 d1 d2 d3 d4 f0 f1 f2 f3 f4
  obtain ⟨c0, c1, c2, c3, c4⟩ := HA3.out.i1
  obtain ⟨d0, d1, d2, d3, d4⟩ := HA3.out.i2
  obtain ⟨f0, f1, f2, f3, f4⟩ := HA3.out.i3
  go_wp2_with (go_at_call 13; refine (num_any _ _).mono ?_; rintro e w5 ⟨rfl, rfl⟩)
  refine (C2.out _).mono ?_
  rintro e w4 ⟨rfl, b4⟩
  have HA4 : Hid (Has3 w w4 w.heap.size w1.heap.size w2.heap.size c d f) := HA3.out.below b4
  clear b4 c0 c1 c2 c3 c4 d0 d1 d2 d3 d4 f0 f1 f2 f3 f4
  obtain ⟨c0, c1, c2, c3, c4⟩ := HA4.out.i1
  obtain ⟨d0, d1, d2, d3, d4⟩ := HA4.out.i2
  obtain ⟨f0, f1, f2, f3, f4⟩ := HA4.out.i3
  go_wp2_with (first | (go_at_call 13; refine (num_any _ _).mono ?_; rintro e w5 ⟨rfl, rfl⟩) | (go_at_call 25; refine (C3.out _).mono ?_; rintro e w7 ⟨rfl, rfl⟩))
  refine (D1.out _ (HT.out.below HA4.out.low)).mono ?_
  rintro e w8 ⟨rfl, b8⟩
  have HA8 : Hid (Has3 w w8 w.heap.size w1.heap.size w2.heap.size c d f) := HA4.out.below b8
  clear b8 c0 c1 c2 c3 c4 d0 d1 d2 d3 d4 f0 f1 f2 f3 f4
  obtain ⟨c0, c1, c2, c3, c4⟩ := HA8.out.i1
  obtain ⟨d0, d1, d2, d3, d4⟩ := HA8.out.i2
  obtain ⟨f0, f1, f2, f3, f4⟩ := HA8.out.i3
  go_wp2_with (go_at_call 13; refine (num_any _ _).mono ?_; rintro e w5 ⟨rfl, rfl⟩)
  refine (D2.out _).mono ?_
  rintro e w9 ⟨rfl, b9⟩
  have HA9 : Hid (Has3 w w9 w.heap.size w1.heap.size w2.heap.size c d f) := HA8.out.below b9
  clear b9 c0 c1 c2 c3 c4 d0 d1 d2 d3 d4 f0 f1 f2 f3 f4
  obtain ⟨c0, c1, c2, c3, c4⟩ := HA9.out.i1
  obtain ⟨d0, d1, d2, d3, d4⟩ := HA9.out.i2
  obtain ⟨f0, f1, f2, f3, f4⟩ := HA9.out.i3
  go_wp2_with (go_at_call 25; refine (D3.out _).mono ?_; rintro e w7 ⟨rfl, rfl⟩)
  refine (D4.out _ (HT.out.below HA9.out.low)).mono ?_
  rintro e w10 ⟨rfl, b10⟩
  have HA10 : Hid (Has3 w w10 w.heap.size w1.heap.size w2.heap.size c d f) := HA9.out.below b10
  clear b10 c0 c1 c2 c3 c4 d0 d1 d2 d3 d4 f0 f1 f2 f3 f4
  obtain ⟨c0, c1, c2, c3, c4⟩ := HA10.out.i1
  obtain ⟨d0, d1, d2, d3, d4⟩ := HA10.out.i2
  obtain ⟨f0, f1, f2, f3, f4⟩ := HA10.out.i3
  go_wp2_with fail
  refine (D5.out _ (HT.out.below HA10.out.low)).mono ?_
  rintro e w11 ⟨rfl, b11⟩
  have HA11 : Hid (Has3 w w11 w.heap.size w1.heap.size w2.heap.size c d f) := HA10.out.below b11
  clear b11 c0 c1 c2 c3 c4 d0 d1 d2 d3 d4 f0 f1 f2 f3 f4
  obtain ⟨c0, c1, c2, c3, c4⟩ := HA11.out.i1
  obtain ⟨d0, d1, d2, d3, d4⟩ := HA11.out.i2
  obtain ⟨f0, f1, f2, f3, f4⟩ := HA11.out.i3
  go_wp2_with (go_at_call 18; refine (live_any _ (HT.out.below HA11.out.low)).mono ?_; rintro e w6 ⟨rfl, b6⟩)
  go_ret
  exact ⟨rfl, q_trans HA11.out.low b6⟩

set_option maxRecDepth 100000 in
set_option maxHeartbeats 600000 in
theorem never_fn (c : K) (r b l o : Int) (w : World) (hT : Tabs w) (h : drvE c r b = 0) (h0 : ¬ c.b = 0) (h2 : drvE (drvC c r b) l o = 0) (h3 : mayB (drvC (drvC c r b) l o) 15 = false) :
    Calls Tryd.prog 6 #[(.agg #[.int .i64 c.t, .int .i64 c.r, .int .i64 c.b, .int .i64 c.o, .int .i64 c.g]), .int .i64 r, .int .i64 b, .int .i64 l, .int .i64 o] w fun e w' => e = .returned (.bool true) ∧ Below w.heap.size w w' := by
  have HT : Hid (Tabs w) := hT
  obtain ⟨d, hd⟩ : ∃ d, drvC c r b = d := ⟨_, rfl⟩
  obtain ⟨f, hf⟩ : ∃ f, drvC d l o = f := ⟨_, rfl⟩
  obtain ⟨E, hE⟩ : ∃ E, drvE d l o = E := ⟨_, rfl⟩
  have H1 : Hid (∀ W : World, Tabs W → Calls Tryd.prog 19 #[(.agg #[.int .i64 c.t, .int .i64 c.r, .int .i64 c.b, .int .i64 c.o, .int .i64 c.g]), .int .i64 r, .int .i64 b] W fun e w' => e = .returned (.tuple #[(.agg #[.int .i64 d.t, .int .i64 d.r, .int .i64 d.b, .int .i64 d.o, .int .i64 d.g]), .int .i64 0]) ∧ Below W.heap.size W w') := fun W hW => by
    have := derive_any c r b W hW
    rwa [hd, h] at this
  have H2 : ∀ W : World, Tabs W → Calls Tryd.prog 19 #[(.agg #[.int .i64 d.t, .int .i64 d.r, .int .i64 d.b, .int .i64 d.o, .int .i64 d.g]), .int .i64 l, .int .i64 o] W fun e w' => e = .returned (.tuple #[(.agg #[.int .i64 f.t, .int .i64 f.r, .int .i64 f.b, .int .i64 f.o, .int .i64 f.g]), .int .i64 E]) ∧ Below W.heap.size W w' := fun W hW => by
    have := derive_any d l o W hW
    rwa [hf, hE] at this
  have hn := drv_never h
  rw [hd] at hn
  obtain ⟨n1, n2, n3, n4, n5, n6, n7⟩ := hn
  have C1 : Hid _ := fun W (hW : Tabs W) => check_c (some_ok n1) W hW
  have C2 : Hid _ := fun W => names_v n2 W
  have C3 : Hid _ := fun W => rwithin_v n3 W
  have hcb : (c.b != 0) = true := by simp [h0]
  have hdb : (d.b != c.b) = false := by simp [n4 h0]
  have hz : drvE d l o = 0 := by rw [← hd]; exact h2
  have hm := drv_never hz
  rw [hf] at hm
  obtain ⟨m1, m2, m3, m4, m5, m6, m7⟩ := hm
  have hcf : namB c f = true := by simp [namB, some_not_none m1, m5, m6, m7, n5, n6, n7]; exact some_not_none (drv_ok h).1
  have hf15 : mayB f 15 = false := by rw [← hf, ← hd]; exact h3
  have D1 : Hid _ := fun W (hW : Tabs W) => check_c (some_ok m1) W hW
  have D2 : Hid _ := fun W => names_v hcf W
  have D3 : Hid _ := fun W => rwithin_v m3 W
  have D4 : Hid _ := fun W (hW : Tabs W) => may_v hf15 W hW
  rw [hE] at hz
  subst hz
  clear hcf hf15 m1 m2 m3 m4 m5 m6 m7 h2 h3
  have G2 : Hid _ := H2
  have HI : Hid (In (w.alloc (.cells #[.int .i64 c.t, .int .i64 c.r, .int .i64 c.b, .int .i64 c.o, .int .i64 c.g] 23)) w.heap.size c) := in_new w c 23
  clear hT h hd hf hE n1 n2 n3 n4 n5 n6 n7 H2 h0
  go_enter Tryd.func6, Tryd.ntmps6
  go_wp2_with fail
  refine (H1.out _ (HT.out.below (q_alloc (Below.refl _ _) _))).mono ?_
  rintro e w1 ⟨rfl, b1⟩
  have HB1 : Hid (Below w.heap.size w (w1.alloc (.cells #[.int .i64 d.t, .int .i64 d.r, .int .i64 d.b, .int .i64 d.o, .int .i64 d.g] 23))) := q_alloc (q_trans (q_alloc (Below.refl _ _) _) b1) _
  have HI1 : Hid (In (w1.alloc (.cells #[.int .i64 d.t, .int .i64 d.r, .int .i64 d.b, .int .i64 d.o, .int .i64 d.g] 23)) w.heap.size c) := (HI.out.below b1).below (q_alloc (Below.refl _ _) _)
  have HD1 : Hid (In (w1.alloc (.cells #[.int .i64 d.t, .int .i64 d.r, .int .i64 d.b, .int .i64 d.o, .int .i64 d.g] 23)) w1.heap.size d) := in_new w1 d 23
  clear b1
  go_wp2_with (go_at_call 13; refine (num_any _ _).mono ?_; rintro e w5 ⟨rfl, rfl⟩)
  refine (G2.out _ (HT.out.below HB1.out)).mono ?_
  rintro e w2 ⟨rfl, b2⟩
  have b3 := q_alloc (Below.refl w2.heap.size w2) (.cells #[.int .i64 f.t, .int .i64 f.r, .int .i64 f.b, .int .i64 f.o, .int .i64 f.g] 23)
  have HA2 : Hid (Has3 w (w2.alloc (.cells #[.int .i64 f.t, .int .i64 f.r, .int .i64 f.b, .int .i64 f.o, .int .i64 f.g] 23)) w.heap.size w1.heap.size w2.heap.size c d f) := ⟨(HI1.out.below b2).below b3, (HD1.out.below b2).below b3, in_new w2 f 23, q_trans (q_trans HB1.out b2) b3⟩
  have e1 := HI1.out.below b2
  have e2 := HD1.out.below b2
  have hl1 := e1.lt
  have hl2 := e2.lt
  obtain ⟨c0, c1, c2, c3, c4⟩ := e1
  obtain ⟨d0, d1, d2, d3, d4⟩ := e2
  have f0 := HA2.out.i3.c0
  have f1 := HA2.out.i3.c1
  have f2 := HA2.out.i3.c2
  have f3 := HA2.out.i3.c3
  have f4 := HA2.out.i3.c4
  clear b2 b3
  go_wp2_with (go_at_call 13; refine (num_any _ _).mono ?_; rintro e w5 ⟨rfl, rfl⟩)
  refine (C1.out _ (HT.out.below HA2.out.low)).mono ?_
  rintro e w3 ⟨rfl, b3⟩
  have HA3 : Hid (Has3 w w3 w.heap.size w1.heap.size w2.heap.size c d f) := HA2.out.below b3
  clear b3 c0 c1 c2 c3 c4 d0 d1 d2 d3 d4 f0 f1 f2 f3 f4
  obtain ⟨c0, c1, c2, c3, c4⟩ := HA3.out.i1
  obtain ⟨d0, d1, d2, d3, d4⟩ := HA3.out.i2
  obtain ⟨f0, f1, f2, f3, f4⟩ := HA3.out.i3
  go_wp2_with (go_at_call 13; refine (num_any _ _).mono ?_; rintro e w5 ⟨rfl, rfl⟩)
  refine (C2.out _).mono ?_
  rintro e w4 ⟨rfl, b4⟩
  have HA4 : Hid (Has3 w w4 w.heap.size w1.heap.size w2.heap.size c d f) := HA3.out.below b4
  clear b4 c0 c1 c2 c3 c4 d0 d1 d2 d3 d4 f0 f1 f2 f3 f4
  obtain ⟨c0, c1, c2, c3, c4⟩ := HA4.out.i1
  obtain ⟨d0, d1, d2, d3, d4⟩ := HA4.out.i2
  obtain ⟨f0, f1, f2, f3, f4⟩ := HA4.out.i3
  go_wp2_with (first | (go_at_call 13; refine (num_any _ _).mono ?_; rintro e w5 ⟨rfl, rfl⟩) | (go_at_call 25; refine (C3.out _).mono ?_; rintro e w7 ⟨rfl, rfl⟩))
  refine (D1.out _ (HT.out.below HA4.out.low)).mono ?_
  rintro e w8 ⟨rfl, b8⟩
  have HA8 : Hid (Has3 w w8 w.heap.size w1.heap.size w2.heap.size c d f) := HA4.out.below b8
  clear b8 c0 c1 c2 c3 c4 d0 d1 d2 d3 d4 f0 f1 f2 f3 f4
  obtain ⟨c0, c1, c2, c3, c4⟩ := HA8.out.i1
  obtain ⟨d0, d1, d2, d3, d4⟩ := HA8.out.i2
  obtain ⟨f0, f1, f2, f3, f4⟩ := HA8.out.i3
  go_wp2_with (go_at_call 13; refine (num_any _ _).mono ?_; rintro e w5 ⟨rfl, rfl⟩)
  refine (D2.out _).mono ?_
  rintro e w9 ⟨rfl, b9⟩
  have HA9 : Hid (Has3 w w9 w.heap.size w1.heap.size w2.heap.size c d f) := HA8.out.below b9
  clear b9 c0 c1 c2 c3 c4 d0 d1 d2 d3 d4 f0 f1 f2 f3 f4
  obtain ⟨c0, c1, c2, c3, c4⟩ := HA9.out.i1
  obtain ⟨d0, d1, d2, d3, d4⟩ := HA9.out.i2
  obtain ⟨f0, f1, f2, f3, f4⟩ := HA9.out.i3
  go_wp2_with (go_at_call 25; refine (D3.out _).mono ?_; rintro e w7 ⟨rfl, rfl⟩)
  refine (D4.out _ (HT.out.below HA9.out.low)).mono ?_
  rintro e w10 ⟨rfl, b10⟩
  have HA10 : Hid (Has3 w w10 w.heap.size w1.heap.size w2.heap.size c d f) := HA9.out.below b10
  clear b10 c0 c1 c2 c3 c4 d0 d1 d2 d3 d4 f0 f1 f2 f3 f4
  obtain ⟨c0, c1, c2, c3, c4⟩ := HA10.out.i1
  obtain ⟨d0, d1, d2, d3, d4⟩ := HA10.out.i2
  obtain ⟨f0, f1, f2, f3, f4⟩ := HA10.out.i3
  go_wp2_with (go_at_call 18; refine (live_any _ (HT.out.below HA10.out.low)).mono ?_; rintro e w6 ⟨rfl, b6⟩)
  go_ret
  exact ⟨rfl, q_trans HA10.out.low b6⟩

theorem never_walk (c : K) (r b l o : Int) (w : World) (hT : Tabs w) :
    Calls Tryd.prog 6 #[(.agg #[.int .i64 c.t, .int .i64 c.r, .int .i64 c.b, .int .i64 c.o, .int .i64 c.g]), .int .i64 r, .int .i64 b, .int .i64 l, .int .i64 o] w fun e w' => e = .returned (.bool true) ∧ Below w.heap.size w w' := by
  by_cases h : drvE c r b = 0
  · by_cases h0 : c.b = 0
    · by_cases h2 : drvE (drvC c r b) l o = 0
      · cases h3 : mayB (drvC (drvC c r b) l o) 15 with
        | true => exact never_tz c r b l o w hT h h0 h2 h3
        | false => exact never_fz c r b l o w hT h h0 h2 h3
      · exact never_ez c r b l o w hT h h0 h2
    · by_cases h2 : drvE (drvC c r b) l o = 0
      · cases h3 : mayB (drvC (drvC c r b) l o) 15 with
        | true => exact never_tn c r b l o w hT h h0 h2 h3
        | false => exact never_fn c r b l o w hT h h0 h2 h3
      · exact never_en c r b l o w hT h h0 h2
  · exact never_no c r b l o w hT h
end Go.Proofs.YtgjkocbfpcgccaaDoor.Cp
