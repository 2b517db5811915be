/- What HistSteps does (gensteps18.py). -/
import Derived.Test.YtmnkbkhfonngeaaHiDoes
import Derived.Test.YtmnkbkhfonngeaaHiDoc
import Derived.Test.YtmnkbkhfonngeaaHiSmall
import Derived.Test.YtmnkbkhfonngeaaHiR1
import Derived.Test.YtmnkbkhfonngeaaHiLd
import Derived.Test.YtmnkbkhfonngeaaHiLv
namespace Go.Proofs.Ytmnkbkhfonngeaa.Hi
open Go.RowKit

/-- What the last statement reads. -/
abbrev SW (b b7 b9 : Nat) (x y z7 z9 : Hh) (w : World) : Prop := w.cell? ⟨b, 0, none⟩ = some (.slice x.s.o x.s.n x.s.c) ∧ w.cell? ⟨b, 1, none⟩ = some (.slice x.e.o x.e.n x.e.c) ∧ w.cell? ⟨b + 1, 0, none⟩ = some (.slice y.s.o y.s.n y.s.c) ∧ w.cell? ⟨b + 1, 1, none⟩ = some (.slice y.e.o y.e.n y.e.c) ∧ w.cell? ⟨b7, 0, none⟩ = some (.slice z7.s.o z7.s.n z7.s.c) ∧ w.cell? ⟨b7, 1, none⟩ = some (.slice z7.e.o z7.e.n z7.e.c) ∧ w.cell? ⟨b9, 0, none⟩ = some (.slice z9.s.o z9.s.n z9.s.c) ∧ w.cell? ⟨b9, 1, none⟩ = some (.slice z9.e.o z9.e.n z9.e.c)
theorem sw_keep {b b7 b9 : Nat} {x y z7 z9 : Hh} {W w : World} (h : SW b b7 b9 x y z7 z9 W) (k : Below W.heap.size W w) : SW b b7 b9 x y z7 z9 w := by
  obtain ⟨h0, h1, h2, h3, h4, h5, h6, h7⟩ := h
  exact ⟨(k.cell (World.block_lt_of_cell? W _ h0)).trans h0, (k.cell (World.block_lt_of_cell? W _ h1)).trans h1, (k.cell (World.block_lt_of_cell? W _ h2)).trans h2, (k.cell (World.block_lt_of_cell? W _ h3)).trans h3, (k.cell (World.block_lt_of_cell? W _ h4)).trans h4, (k.cell (World.block_lt_of_cell? W _ h5)).trans h5, (k.cell (World.block_lt_of_cell? W _ h6)).trans h6, (k.cell (World.block_lt_of_cell? W _ h7)).trans h7⟩
/-- Three boxes. -/
structure B3 (w W : World) (x y : Hh) (z : Ac × Hd) : Prop where
  a : Hb W w.heap.size x
  b : Hb W (w.heap.size + 1) y
  z : Zb W (w.heap.size + 2) z
  low : Below w.heap.size w W
theorem B3.below {w W W' : World} {x y : Hh} {z : Ac × Hd} (h : B3 w W x y z) (q : Below W.heap.size W W') : B3 w W' x y z := ⟨h.a.below q, h.b.below q, h.z.below q, q_trans h.low q⟩
theorem b3_new (w : World) (x y : Hh) (z : Ac × Hd) : B3 w (((w.alloc (.cells #[.slice x.s.o x.s.n x.s.c, .slice x.e.o x.e.n x.e.c] 25)).alloc (.cells #[.slice y.s.o y.s.n y.s.c, .slice y.e.o y.e.n y.e.c] 25)).alloc (.cells #[.int .i64 z.1.k, .int .i64 z.1.co, .int .i64 z.1.now, .int .i64 z.1.c.k, .int .u64 z.1.c.a, .int .u64 z.1.c.b, .int .i64 z.1.c.r, .int .i64 z.1.c.g, .int .i64 z.1.c.t, .int .i64 z.1.c.s, .int .i64 z.1.c.v, .int .i64 z.1.r.e, .int .i64 z.1.r.v, .int .i64 z.1.r.b, .bool z.1.r.t, .int .i64 z.1.e.k, .int .i64 z.1.e.co, .int .i64 z.1.e.c.k, .int .u64 z.1.e.c.a, .int .u64 z.1.e.c.b, .int .i64 z.1.e.c.r, .int .i64 z.1.e.c.g, .int .i64 z.1.e.c.t, .int .i64 z.1.e.c.s, .int .i64 z.1.e.c.v, .int .i64 z.1.e.sp, .slice z.2.o z.2.n z.2.c] 36)) x y z := by
  have s1 : (w.alloc (.cells #[.slice x.s.o x.s.n x.s.c, .slice x.e.o x.e.n x.e.c] 25)).heap.size = w.heap.size + 1 := by simp
  have s2 : ((w.alloc (.cells #[.slice x.s.o x.s.n x.s.c, .slice x.e.o x.e.n x.e.c] 25)).alloc (.cells #[.slice y.s.o y.s.n y.s.c, .slice y.e.o y.e.n y.e.c] 25)).heap.size = w.heap.size + 2 := by simp
  refine ⟨((hb_new w x).below (alloc_below _ _)).below (alloc_below _ _), ?_, ?_, q_alloc (q_alloc (alloc_below _ _) _) _⟩
  · have h := (hb_new (w.alloc (.cells #[.slice x.s.o x.s.n x.s.c, .slice x.e.o x.e.n x.e.c] 25)) y).below (alloc_below _ (.cells #[.int .i64 z.1.k, .int .i64 z.1.co, .int .i64 z.1.now, .int .i64 z.1.c.k, .int .u64 z.1.c.a, .int .u64 z.1.c.b, .int .i64 z.1.c.r, .int .i64 z.1.c.g, .int .i64 z.1.c.t, .int .i64 z.1.c.s, .int .i64 z.1.c.v, .int .i64 z.1.r.e, .int .i64 z.1.r.v, .int .i64 z.1.r.b, .bool z.1.r.t, .int .i64 z.1.e.k, .int .i64 z.1.e.co, .int .i64 z.1.e.c.k, .int .u64 z.1.e.c.a, .int .u64 z.1.e.c.b, .int .i64 z.1.e.c.r, .int .i64 z.1.e.c.g, .int .i64 z.1.e.c.t, .int .i64 z.1.e.c.s, .int .i64 z.1.e.c.v, .int .i64 z.1.e.sp, .slice z.2.o z.2.n z.2.c] 36))
    rwa [s1] at h
  · have h := zb_new ((w.alloc (.cells #[.slice x.s.o x.s.n x.s.c, .slice x.e.o x.e.n x.e.c] 25)).alloc (.cells #[.slice y.s.o y.s.n y.s.c, .slice y.e.o y.e.n y.e.c] 25)) z
    rwa [s2] at h
set_option maxRecDepth 100000 in
set_option maxHeartbeats 4000000 in
theorem steps_row (K : LiveC) (x : Hh) (h : Hs) (y : Hh) (k : Hs) (a : Ac) (u : Hd) (w : World) (HX : Hid (HasH w x h)) (HY : Hid (HasH w y k)) (HU : Hid (HasD w u a.e.l)) :
    Calls Try.prog 3 #[(.agg #[.slice x.s.o x.s.n x.s.c, .slice x.e.o x.e.n x.e.c]), (.agg #[.slice y.s.o y.s.n y.s.c, .slice y.e.o y.e.n y.e.c]), (.agg #[.int .i64 a.k, .int .i64 a.co, .int .i64 a.now, .int .i64 a.c.k, .int .u64 a.c.a, .int .u64 a.c.b, .int .i64 a.c.r, .int .i64 a.c.g, .int .i64 a.c.t, .int .i64 a.c.s, .int .i64 a.c.v, .int .i64 a.r.e, .int .i64 a.r.v, .int .i64 a.r.b, .bool a.r.t, .int .i64 a.e.k, .int .i64 a.e.co, .int .i64 a.e.c.k, .int .u64 a.e.c.a, .int .u64 a.e.c.b, .int .i64 a.e.c.r, .int .i64 a.e.c.g, .int .i64 a.e.c.t, .int .i64 a.e.c.s, .int .i64 a.e.c.v, .int .i64 a.e.sp, .slice u.o u.n u.c])] w fun e w' => e = .returned (.bool true) ∧ Below w.heap.size w w' := by
  go_enter Try.func3, Try.ntmps3
  go_upto_region 1 with fail
  have HT : Hid (B3 w (((w.alloc (.cells #[.slice x.s.o x.s.n x.s.c, .slice x.e.o x.e.n x.e.c] 25)).alloc (.cells #[.slice y.s.o y.s.n y.s.c, .slice y.e.o y.e.n y.e.c] 25)).alloc (.cells #[.int .i64 a.k, .int .i64 a.co, .int .i64 a.now, .int .i64 a.c.k, .int .u64 a.c.a, .int .u64 a.c.b, .int .i64 a.c.r, .int .i64 a.c.g, .int .i64 a.c.t, .int .i64 a.c.s, .int .i64 a.c.v, .int .i64 a.r.e, .int .i64 a.r.v, .int .i64 a.r.b, .bool a.r.t, .int .i64 a.e.k, .int .i64 a.e.co, .int .i64 a.e.c.k, .int .u64 a.e.c.a, .int .u64 a.e.c.b, .int .i64 a.e.c.r, .int .i64 a.e.c.g, .int .i64 a.e.c.t, .int .i64 a.e.c.s, .int .i64 a.e.c.v, .int .i64 a.e.sp, .slice u.o u.n u.c] 36)) x y (a, u)) := b3_new w x y (a, u)
  generalize ((w.alloc (.cells #[.slice x.s.o x.s.n x.s.c, .slice x.e.o x.e.n x.e.c] 25)).alloc (.cells #[.slice y.s.o y.s.n y.s.c, .slice y.e.o y.e.n y.e.c] 25)).alloc (.cells #[.int .i64 a.k, .int .i64 a.co, .int .i64 a.now, .int .i64 a.c.k, .int .u64 a.c.a, .int .u64 a.c.b, .int .i64 a.c.r, .int .i64 a.c.g, .int .i64 a.c.t, .int .i64 a.c.s, .int .i64 a.c.v, .int .i64 a.r.e, .int .i64 a.r.v, .int .i64 a.r.b, .bool a.r.t, .int .i64 a.e.k, .int .i64 a.e.co, .int .i64 a.e.c.k, .int .u64 a.e.c.a, .int .u64 a.e.c.b, .int .i64 a.e.c.r, .int .i64 a.e.c.g, .int .i64 a.e.c.t, .int .i64 a.e.c.s, .int .i64 a.e.c.v, .int .i64 a.e.sp, .slice u.o u.n u.c] 36) = W at HT ⊢
  have c0 := HT.out.a.c0
  have c1 := HT.out.a.c1
  have HSa := hid (small_any x h W (HX.out.below HT.out.low))
  cases hs : smB h with
  | false =>
    rw [hs] at HSa
    clear hs
    go_wp2_with (first | (go_at_call 8; refine HSa.out.mono ?_; rintro e w1 ⟨rfl, b1⟩) | (go_at_call 9; refine (K _).mono ?_; rintro e w9 ⟨rfl, b9⟩))
    go_ret
    exact ⟨rfl, q_trans (q_trans HT.out.low b1) b9⟩
  | true =>
    rw [hs] at HSa
    have HS1 := hid hs
    clear hs
    have HSb : Hid (∀ w1, Below W.heap.size W w1 → Calls Try.prog 8 #[(.agg #[.slice y.s.o y.s.n y.s.c, .slice y.e.o y.e.n y.e.c])] w1 fun e w' => e = .returned (.bool (smB k)) ∧ Below w1.heap.size w1 w') := fun w1 b => small_any y k w1 (HY.out.below (q_trans HT.out.low b))
    have HKb : Hid (∀ w1, Below W.heap.size W w1 → w1.cell? ⟨w.heap.size + 1, 0, none⟩ = some (.slice y.s.o y.s.n y.s.c) ∧ w1.cell? ⟨w.heap.size + 1, 1, none⟩ = some (.slice y.e.o y.e.n y.e.c)) := fun w1 b => ⟨(HT.out.b.below b).c0, (HT.out.b.below b).c1⟩
    cases hs : smB k with
    | false =>
      rw [hs] at HSb
      clear hs
      go_wp2_with (first | (go_at_call 8; refine HSa.out.mono ?_; rintro e w1 ⟨rfl, b1⟩; obtain ⟨k0, k1⟩ := HKb.out w1 b1; have HS9 := hid (HSb.out w1 b1); clear HSa) | (go_at_call 8; refine HS9.out.mono ?_; rintro e w2 ⟨rfl, b2⟩) | (go_at_call 9; refine (K _).mono ?_; rintro e w9 ⟨rfl, b9⟩))
      go_ret
      exact ⟨rfl, q_trans (q_trans (q_trans HT.out.low b1) b2) b9⟩
    | true =>
      rw [hs] at HSb
      have HS2 := hid hs
      clear hs
      have HKz : Hid (∀ w2, Below W.heap.size W w2 → w2.cell? ⟨w.heap.size + 2, 26, none⟩ = some (.slice u.o u.n u.c)) := fun w2 b => by
        have := (HT.out.z.below b).at.c26
        simpa using this
      by_cases hu : (u.n : Int) > 10
      · have hun : 10 < u.n := by omega
        go_wp2_with (first | (go_at_call 8; refine HSa.out.mono ?_; rintro e w1 ⟨rfl, b1⟩; obtain ⟨k0, k1⟩ := HKb.out w1 b1; have HS9 := hid (HSb.out w1 b1); clear HSa) | (go_at_call 8; refine HS9.out.mono ?_; rintro e w2 ⟨rfl, b2⟩; have m0 := HKz.out w2 (q_trans b1 b2)) | (go_at_call 9; refine (K _).mono ?_; rintro e w9 ⟨rfl, b9⟩))
        go_ret
        exact ⟨rfl, q_trans (q_trans (q_trans HT.out.low b1) b2) b9⟩
      · have hun : ¬ (10 < u.n) := by omega
        have hu5 : u.n ≤ 5000 := by omega
        obtain ⟨g1, g2, _⟩ := smB_iff.1 HS1.out
        have hsx : x.s.n ≤ 5000 := by rw [HX.out.s.len]; omega
        have hex : x.e.n ≤ 5000 := by rw [HX.out.e.len]; omega
        have hsh := sm_short HS1.out
        have HSh := hid hsh
        clear g1 g2 hsh
        go_upto_region 3 with (first | (go_at_call 8; refine HSa.out.mono ?_; rintro e w1 ⟨rfl, b1⟩; obtain ⟨k0, k1⟩ := HKb.out w1 b1; have HS9 := hid (HSb.out w1 b1); clear HSa) | (go_at_call 8; refine HS9.out.mono ?_; rintro e w2 ⟨rfl, b2⟩; have m0 := HKz.out w2 (q_trans b1 b2)))
        have HT2 := hid (HT.out.below (q_trans b1 b2))
        clear c0 c1 k0 k1 m0 b1 b2 HT HSb HS9 HKb HKz hu hun
        have HLH := hid (do_len h a)
        have HSH : Hid (ShortE (doH h a).e) := do_short HSh.out (by rw [← HU.out.len]; exact hu5)
        have hs61 : h.s.length ≤ 60 ∧ h.e.length ≤ 60 := ⟨(smB_iff.1 HS1.out).1, (smB_iff.1 HS1.out).2.1⟩
        have c0 := HT2.out.a.c0
        have c1 := HT2.out.a.c1
        have HLD : Hid ((Instr.loadAt 36 (.pointer (some ⟨w.heap.size + 2, 0, none⟩))).run Try.prog w2 = .ok (.agg #[.int .i64 a.k, .int .i64 a.co, .int .i64 a.now, .int .i64 a.c.k, .int .u64 a.c.a, .int .u64 a.c.b, .int .i64 a.c.r, .int .i64 a.c.g, .int .i64 a.c.t, .int .i64 a.c.s, .int .i64 a.c.v, .int .i64 a.r.e, .int .i64 a.r.v, .int .i64 a.r.b, .bool a.r.t, .int .i64 a.e.k, .int .i64 a.e.co, .int .i64 a.e.c.k, .int .u64 a.e.c.a, .int .u64 a.e.c.b, .int .i64 a.e.c.r, .int .i64 a.e.c.g, .int .i64 a.e.c.t, .int .i64 a.e.c.s, .int .i64 a.e.c.v, .int .i64 a.e.sp, .slice u.o u.n u.c]) w2) := HT2.out.z.ld
        have CD := hid (does_any x h a u w2 hsx hex hu5 HSh.out (HX.out.below HT2.out.low) (HU.out.below HT2.out.low))
        go_upto_region 4 with (first | (refine wpList_ld rfl 36 (.tmp 5) rfl _ rfl _ HLD.out ?_) | (go_at_call 10; refine CD.out.mono ?_; rintro e w3 ⟨z7, rfl, hz, b3⟩))
        have HT3 := hid ((HT2.out.below b3).below (alloc_below w3 (.cells #[.slice z7.s.o z7.s.n z7.s.c, .slice z7.e.o z7.e.n z7.e.c] 25)))
        have H7 := hid (hz.below (alloc_below w3 (.cells #[.slice z7.s.o z7.s.n z7.s.c, .slice z7.e.o z7.e.n z7.e.c] 25)))
        have X7 := hid (hb_new w3 z7)
        generalize w3.alloc (.cells #[.slice z7.s.o z7.s.n z7.s.c, .slice z7.e.o z7.e.n z7.e.c] 25) = V3 at HT3 H7 X7 ⊢
        generalize w3.heap.size = b7 at X7 ⊢
        clear CD HT2 hz b3 c0 c1 HLD
        have c0 := HT3.out.a.c0
        have c1 := HT3.out.a.c1
        have HLD : Hid ((Instr.loadAt 36 (.pointer (some ⟨w.heap.size + 2, 0, none⟩))).run Try.prog V3 = .ok (.agg #[.int .i64 a.k, .int .i64 a.co, .int .i64 a.now, .int .i64 a.c.k, .int .u64 a.c.a, .int .u64 a.c.b, .int .i64 a.c.r, .int .i64 a.c.g, .int .i64 a.c.t, .int .i64 a.c.s, .int .i64 a.c.v, .int .i64 a.r.e, .int .i64 a.r.v, .int .i64 a.r.b, .bool a.r.t, .int .i64 a.e.k, .int .i64 a.e.co, .int .i64 a.e.c.k, .int .u64 a.e.c.a, .int .u64 a.e.c.b, .int .i64 a.e.c.r, .int .i64 a.e.c.g, .int .i64 a.e.c.t, .int .i64 a.e.c.s, .int .i64 a.e.c.v, .int .i64 a.e.sp, .slice u.o u.n u.c]) V3) := HT3.out.z.ld
        have CD := hid (document_any x h a u V3 hsx hex hu5 (HX.out.below HT3.out.low) (HU.out.below HT3.out.low))
        go_upto_region 5 with (first | (refine wpList_ld rfl 36 (.tmp 5) rfl _ rfl _ HLD.out ?_) | (go_at_call 11; refine CD.out.mono ?_; rintro e w4 ⟨z9, rfl, hz, b4⟩))
        have HT4 := hid ((HT3.out.below b4).below (alloc_below w4 (.cells #[.slice z9.s.o z9.s.n z9.s.c, .slice z9.e.o z9.e.n z9.e.c] 25)))
        replace H7 := hid ((H7.out.below b4).below (alloc_below w4 (.cells #[.slice z9.s.o z9.s.n z9.s.c, .slice z9.e.o z9.e.n z9.e.c] 25)))
        replace X7 := hid ((X7.out.below b4).below (alloc_below w4 (.cells #[.slice z9.s.o z9.s.n z9.s.c, .slice z9.e.o z9.e.n z9.e.c] 25)))
        have H9 := hid (hz.below (alloc_below w4 (.cells #[.slice z9.s.o z9.s.n z9.s.c, .slice z9.e.o z9.e.n z9.e.c] 25)))
        have X9 := hid (hb_new w4 z9)
        generalize w4.alloc (.cells #[.slice z9.s.o z9.s.n z9.s.c, .slice z9.e.o z9.e.n z9.e.c] 25) = V4 at HT4 H7 X7 H9 X9 ⊢
        generalize w4.heap.size = b9 at X9 ⊢
        clear CD HT3 hz b4 c0 c1 HLD
        have c0 := HT4.out.a.c0
        have c1 := HT4.out.a.c1
        have m1 : V4.cell? ⟨w.heap.size + 2, 1, none⟩ = some (.int .i64 a.co) := by simpa using HT4.out.z.at.c1
        have CP := hid (pending_any x h a.co V4 hsx (HX.out.below HT4.out.low).s)
        go_upto_region 6 with (go_at_call 12; refine CP.out.mono ?_; rintro e w5 ⟨rfl, b5⟩)
        replace HT4 := hid (HT4.out.below b5)
        replace H7 := hid (H7.out.below b5)
        replace X7 := hid (X7.out.below b5)
        replace H9 := hid (H9.out.below b5)
        replace X9 := hid (X9.out.below b5)
        clear CP b5 c0 c1 m1
        have c0 := HT4.out.a.c0
        have c1 := HT4.out.a.c1
        have m1 : w5.cell? ⟨w.heap.size + 2, 1, none⟩ = some (.int .i64 a.co) := by simpa using HT4.out.z.at.c1
        have CP := hid (rpending_any x h a.co w5 hsx (HX.out.below HT4.out.low).s)
        go_upto_region 7 with (go_at_call 13; refine CP.out.mono ?_; rintro e w6 ⟨rfl, b6⟩)
        replace HT4 := hid (HT4.out.below b6)
        replace H7 := hid (H7.out.below b6)
        replace X7 := hid (X7.out.below b6)
        replace H9 := hid (H9.out.below b6)
        replace X9 := hid (X9.out.below b6)
        clear CP b6 c0 c1 m1
        have hz7 : z7.s.n ≤ 5000 ∧ z7.e.n ≤ 5000 := by
          have := HLH.out
          exact ⟨by rw [H7.out.s.len]; omega, by rw [H7.out.e.len]; omega⟩
        have C1 : Hid (∀ X, Below w6.heap.size w6 X → Calls Try.prog 14 #[(.agg #[.slice z7.s.o z7.s.n z7.s.c, .slice z7.e.o z7.e.n z7.e.c]), (.agg #[.slice z9.s.o z9.s.n z9.s.c, .slice z9.e.o z9.e.n z9.e.c])] X fun e w' => e = .returned (.bool true) ∧ Below X.heap.size X w') := fun X b => by
          have q := rsame_any z7 z9 _ _ X hz7.1 hz7.2 HSH.out (H7.out.below b) (H9.out.below b)
          rwa [eqH_self] at q
        have C2 : Hid (∀ X, Below w6.heap.size w6 X → Calls Try.prog 16 #[(.agg #[.slice x.s.o x.s.n x.s.c, .slice x.e.o x.e.n x.e.c])] X fun e w' => e = .returned (.int .i64 (ckE h)) ∧ Below X.heap.size X w') := fun X b => check_any x h X hsx hex (HX.out.below (q_trans HT4.out.low b))
        have C3 : Hid (∀ X, Below w6.heap.size w6 X → Calls Try.prog 17 #[(.agg #[.slice x.s.o x.s.n x.s.c, .slice x.e.o x.e.n x.e.c])] X fun e w' => e = .returned (.bool (okH h)) ∧ Below X.heap.size X w') := fun X b => ris_any x h X hsx hex (HX.out.below (q_trans HT4.out.low b))
        have C4 : Hid (∀ X, Below w6.heap.size w6 X → Calls Try.prog 18 #[(.agg #[.slice x.s.o x.s.n x.s.c, .slice x.e.o x.e.n x.e.c]), (.agg #[.slice y.s.o y.s.n y.s.c, .slice y.e.o y.e.n y.e.c])] X fun e w' => e = .returned (.bool (eqH h k)) ∧ Below X.heap.size X w') := fun X b => same_any x y h k X hsx hex HSh.out (HX.out.below (q_trans HT4.out.low b)) (HY.out.below (q_trans HT4.out.low b))
        have C5 : Hid (∀ X, Below w6.heap.size w6 X → Calls Try.prog 14 #[(.agg #[.slice x.s.o x.s.n x.s.c, .slice x.e.o x.e.n x.e.c]), (.agg #[.slice y.s.o y.s.n y.s.c, .slice y.e.o y.e.n y.e.c])] X fun e w' => e = .returned (.bool (eqH h k)) ∧ Below X.heap.size X w') := fun X b => rsame_any x y h k X hsx hex HSh.out (HX.out.below (q_trans HT4.out.low b)) (HY.out.below (q_trans HT4.out.low b))
        have p0 : w6.cell? ⟨w.heap.size, 0, none⟩ = some (.slice x.s.o x.s.n x.s.c) := HT4.out.a.c0
        have p1 : w6.cell? ⟨w.heap.size, 1, none⟩ = some (.slice x.e.o x.e.n x.e.c) := HT4.out.a.c1
        have p2 : w6.cell? ⟨w.heap.size + 1, 0, none⟩ = some (.slice y.s.o y.s.n y.s.c) := HT4.out.b.c0
        have p3 : w6.cell? ⟨w.heap.size + 1, 1, none⟩ = some (.slice y.e.o y.e.n y.e.c) := HT4.out.b.c1
        have p4 : w6.cell? ⟨b7, 0, none⟩ = some (.slice z7.s.o z7.s.n z7.s.c) := X7.out.c0
        have p5 : w6.cell? ⟨b7, 1, none⟩ = some (.slice z7.e.o z7.e.n z7.e.c) := X7.out.c1
        have p6 : w6.cell? ⟨b9, 0, none⟩ = some (.slice z9.s.o z9.s.n z9.s.c) := X9.out.c0
        have p7 : w6.cell? ⟨b9, 1, none⟩ = some (.slice z9.e.o z9.e.n z9.e.c) := X9.out.c1
        have hLow := hid HT4.out.low
        have hS : SW w.heap.size b7 b9 x y z7 z9 w6 := ⟨p0, p1, p2, p3, p4, p5, p6, p7⟩
        generalize doE h a = E0
        generalize pnI h.s a.co = P0
        have e1 : (E0 == E0) = true := by simp
        have e2 : (P0 == P0) = true := by simp
        clear HLH HSH hs61 HT4 H7 X7 H9 X9 hz7 HS1 HS2 HSh
        have hck : ckE h = if okH h then 0 else 180 := rfl
        rw [hck] at C2
        clear hck
        generalize okH h = q1 at C2 C3
        generalize eqH h k = q2 at C4 C5
        generalize pnB h.s a.co = q3
        have e3 : (q2 == q2) = true := by simp
        have e4 : (q3 == q3) = true := by simp
        cases q1
        all_goals simp only [if_true, if_false, Bool.false_eq_true] at C2
        all_goals
          go_region_held3 (SW w.heap.size b7 b9 x y z7 z9) ((refine sw_keep hS ?_; repeat' (first | with_reducible exact HB6.out | with_reducible exact HB5.out | with_reducible exact HB4.out | with_reducible exact HB3.out | with_reducible exact HB2.out | with_reducible exact HB1.out | with_reducible exact (Below.refl _ w6).drew | with_reducible exact Below.refl _ _ | with_reducible refine Below.drew ?_)))
            (first
              | (go_at_call 15; refine (num_any _ _).mono ?_; rintro e w8 ⟨rfl, hw⟩; rw [hw]; clear hw w8)
              | (go_at_call 9; refine (K _).mono ?_; rintro e wF ⟨rfl, b⟩; have HB6 : Hid (Below w6.heap.size w6 wF) := q_trans HB5.out b; clear b)
              | (go_at_call 18; refine (C4.out _ HB3.out).mono ?_; rintro e wD ⟨rfl, b⟩; have HB4 : Hid (Below w6.heap.size w6 wD) := q_trans HB3.out b; clear b)
              | (go_at_call 17; refine (C3.out _ HB2.out).mono ?_; rintro e wC ⟨rfl, b⟩; have HB3 : Hid (Below w6.heap.size w6 wC) := q_trans HB2.out b; clear b)
              | (go_at_call 16; refine (C2.out _ HB1.out).mono ?_; rintro e wB ⟨rfl, b⟩; have HB2 : Hid (Below w6.heap.size w6 wB) := q_trans HB1.out b; clear b)
              | (go_at_call 14; refine (C5.out _ HB4.out).mono ?_; rintro e wE ⟨rfl, b⟩; have HB5 : Hid (Below w6.heap.size w6 wE) := q_trans HB4.out b; clear b)
              | (go_at_call 14; refine (C1.out _ (Below.refl _ w6).drew).mono ?_; rintro e wA ⟨rfl, b⟩; have HB1 : Hid (Below w6.heap.size w6 wA) := q_trans (Below.refl _ w6).drew b; clear b)
              | fail)
          all_goals
            go_wp2_with fail
            go_ret
            exact ⟨rfl, q_trans hLow.out HB6.out⟩
end Go.Proofs.Ytmnkbkhfonngeaa.Hi
