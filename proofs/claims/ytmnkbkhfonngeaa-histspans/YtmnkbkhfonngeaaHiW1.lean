/- What num, isCore, open, Ahead, mayEnd, mayFollow, last do, the program's and the document's. -/
import Derived.Test.YtmnkbkhfonngeaaHiMem
import Derived.Laws.NewBlocks
import Derived.Deep.Cut
import Derived.Deep.CutRange
import Derived.Deep.RegionLaw
import Derived.Deep.RegionHeld3
import Derived.Lib.SliceRun
namespace Go.Proofs.Ytmnkbkhfonngeaa.Hi
open Go.RowKit

set_option maxHeartbeats 400000 in
theorem num_any (x : Int) (w : World) :
    Calls Try.prog 15 #[.int .i64 x] w fun e w' => e = .returned (.int .i64 x) ∧ w' = w := by
  go_enter Try.func15, Try.ntmps15
  go_wp2
  go_ret
  exact ⟨rfl, rfl⟩
set_option maxHeartbeats 400000 in
theorem isCore_any (c : Int) (w : World) :
    Calls Try.prog 41 #[.int .i64 c] w fun e w' => e = .returned (.bool (okC c)) ∧ w' = w := by
  by_cases h1 : c ≥ 0
  · by_cases h2 : c < 64
    · have H : Hid (okC c = true) := okC_iff.2 ⟨h1, h2⟩
      go_enter Try.func41, Try.ntmps41
      go_wp2
      go_ret
      exact ⟨ret_bool H.out.symm, rfl⟩
    · have H : Hid (okC c = false) := okC_not.2 (by omega)
      go_enter Try.func41, Try.ntmps41
      go_wp2
      go_ret
      exact ⟨ret_bool H.out.symm, rfl⟩
  · have H : Hid (okC c = false) := okC_not.2 (by omega)
    go_enter Try.func41, Try.ntmps41
    go_wp2
    go_ret
    exact ⟨ret_bool H.out.symm, rfl⟩
set_option maxHeartbeats 400000 in
theorem rcore_any (c : Int) (w : World) :
    Calls Try.prog 32 #[.int .i64 c] w fun e w' => e = .returned (.bool (okC c)) ∧ w' = w := by
  by_cases h1 : c ≥ 0
  · by_cases h2 : c < 64
    · have H : Hid (okC c = true) := okC_iff.2 ⟨h1, h2⟩
      go_enter Try.func32, Try.ntmps32
      go_wp2
      go_ret
      exact ⟨ret_bool H.out.symm, rfl⟩
    · have H : Hid (okC c = false) := okC_not.2 (by omega)
      go_enter Try.func32, Try.ntmps32
      go_wp2
      go_ret
      exact ⟨ret_bool H.out.symm, rfl⟩
  · have H : Hid (okC c = false) := okC_not.2 (by omega)
    go_enter Try.func32, Try.ntmps32
    go_wp2
    go_ret
    exact ⟨ret_bool H.out.symm, rfl⟩
set_option maxHeartbeats 400000 in
theorem open_any (s : Sp) (w : World) :
    Calls Try.prog 27 #[(.agg #[.int .i64 s.co, .int .i64 s.c.k, .int .u64 s.c.a, .int .u64 s.c.b, .int .i64 s.c.r, .int .i64 s.c.g, .int .i64 s.c.t, .int .i64 s.c.s, .int .i64 s.c.v, .int .i64 s.st, .int .i64 s.en, .int .i64 s.r.e, .int .i64 s.r.v, .int .i64 s.r.b, .bool s.r.t])] w fun e w' => e = .returned (.bool (opB s)) ∧ Below w.heap.size w w' := by
  have H : Hid (opB s = (s.en == 0)) := rfl
  go_enter Try.func27, Try.ntmps27
  go_wp2_with fail
  go_ret
  exact ⟨ret_bool H.out.symm, alloc_below _ _⟩
theorem two_sp (w : World) (a b : Sp) : Sb ((w.alloc (.cells #[.int .i64 a.co, .int .i64 a.c.k, .int .u64 a.c.a, .int .u64 a.c.b, .int .i64 a.c.r, .int .i64 a.c.g, .int .i64 a.c.t, .int .i64 a.c.s, .int .i64 a.c.v, .int .i64 a.st, .int .i64 a.en, .int .i64 a.r.e, .int .i64 a.r.v, .int .i64 a.r.b, .bool a.r.t] 50)).alloc (.cells #[.int .i64 b.co, .int .i64 b.c.k, .int .u64 b.c.a, .int .u64 b.c.b, .int .i64 b.c.r, .int .i64 b.c.g, .int .i64 b.c.t, .int .i64 b.c.s, .int .i64 b.c.v, .int .i64 b.st, .int .i64 b.en, .int .i64 b.r.e, .int .i64 b.r.v, .int .i64 b.r.b, .bool b.r.t] 50)) w.heap.size a ∧ Sb ((w.alloc (.cells #[.int .i64 a.co, .int .i64 a.c.k, .int .u64 a.c.a, .int .u64 a.c.b, .int .i64 a.c.r, .int .i64 a.c.g, .int .i64 a.c.t, .int .i64 a.c.s, .int .i64 a.c.v, .int .i64 a.st, .int .i64 a.en, .int .i64 a.r.e, .int .i64 a.r.v, .int .i64 a.r.b, .bool a.r.t] 50)).alloc (.cells #[.int .i64 b.co, .int .i64 b.c.k, .int .u64 b.c.a, .int .u64 b.c.b, .int .i64 b.c.r, .int .i64 b.c.g, .int .i64 b.c.t, .int .i64 b.c.s, .int .i64 b.c.v, .int .i64 b.st, .int .i64 b.en, .int .i64 b.r.e, .int .i64 b.r.v, .int .i64 b.r.b, .bool b.r.t] 50)) (w.heap.size + 1) b ∧ Below w.heap.size w ((w.alloc (.cells #[.int .i64 a.co, .int .i64 a.c.k, .int .u64 a.c.a, .int .u64 a.c.b, .int .i64 a.c.r, .int .i64 a.c.g, .int .i64 a.c.t, .int .i64 a.c.s, .int .i64 a.c.v, .int .i64 a.st, .int .i64 a.en, .int .i64 a.r.e, .int .i64 a.r.v, .int .i64 a.r.b, .bool a.r.t] 50)).alloc (.cells #[.int .i64 b.co, .int .i64 b.c.k, .int .u64 b.c.a, .int .u64 b.c.b, .int .i64 b.c.r, .int .i64 b.c.g, .int .i64 b.c.t, .int .i64 b.c.s, .int .i64 b.c.v, .int .i64 b.st, .int .i64 b.en, .int .i64 b.r.e, .int .i64 b.r.v, .int .i64 b.r.b, .bool b.r.t] 50)) := by
  refine ⟨(sb_new w a).below (alloc_below _ _), ?_, q_alloc (alloc_below _ _) _⟩
  have h := sb_new (w.alloc (.cells #[.int .i64 a.co, .int .i64 a.c.k, .int .u64 a.c.a, .int .u64 a.c.b, .int .i64 a.c.r, .int .i64 a.c.g, .int .i64 a.c.t, .int .i64 a.c.s, .int .i64 a.c.v, .int .i64 a.st, .int .i64 a.en, .int .i64 a.r.e, .int .i64 a.r.v, .int .i64 a.r.b, .bool a.r.t] 50)) b
  rwa [show (w.alloc (.cells #[.int .i64 a.co, .int .i64 a.c.k, .int .u64 a.c.a, .int .u64 a.c.b, .int .i64 a.c.r, .int .i64 a.c.g, .int .i64 a.c.t, .int .i64 a.c.s, .int .i64 a.c.v, .int .i64 a.st, .int .i64 a.en, .int .i64 a.r.e, .int .i64 a.r.v, .int .i64 a.r.b, .bool a.r.t] 50)).heap.size = w.heap.size + 1 by simp] at h
set_option maxHeartbeats 1000000 in
theorem ahead_any (a b : Sp) (w : World) :
    Calls Try.prog 19 #[(.agg #[.int .i64 a.co, .int .i64 a.c.k, .int .u64 a.c.a, .int .u64 a.c.b, .int .i64 a.c.r, .int .i64 a.c.g, .int .i64 a.c.t, .int .i64 a.c.s, .int .i64 a.c.v, .int .i64 a.st, .int .i64 a.en, .int .i64 a.r.e, .int .i64 a.r.v, .int .i64 a.r.b, .bool a.r.t]), (.agg #[.int .i64 b.co, .int .i64 b.c.k, .int .u64 b.c.a, .int .u64 b.c.b, .int .i64 b.c.r, .int .i64 b.c.g, .int .i64 b.c.t, .int .i64 b.c.s, .int .i64 b.c.v, .int .i64 b.st, .int .i64 b.en, .int .i64 b.r.e, .int .i64 b.r.v, .int .i64 b.r.b, .bool b.r.t])] w fun e w' => e = .returned (.bool (ahB a b)) ∧ Below w.heap.size w w' := by
  go_enter Try.func19, Try.ntmps19
  go_upto_region 1 with fail
  have HT := hid (two_sp w a b)
  generalize (w.alloc (.cells #[.int .i64 a.co, .int .i64 a.c.k, .int .u64 a.c.a, .int .u64 a.c.b, .int .i64 a.c.r, .int .i64 a.c.g, .int .i64 a.c.t, .int .i64 a.c.s, .int .i64 a.c.v, .int .i64 a.st, .int .i64 a.en, .int .i64 a.r.e, .int .i64 a.r.v, .int .i64 a.r.b, .bool a.r.t] 50)).alloc (.cells #[.int .i64 b.co, .int .i64 b.c.k, .int .u64 b.c.a, .int .u64 b.c.b, .int .i64 b.c.r, .int .i64 b.c.g, .int .i64 b.c.t, .int .i64 b.c.s, .int .i64 b.c.v, .int .i64 b.st, .int .i64 b.en, .int .i64 b.r.e, .int .i64 b.r.v, .int .i64 b.r.b, .bool b.r.t] 50) = W at HT ⊢
  have HB := hid HT.out.2.2
  obtain ⟨c0, c1, c2, c3, c4, c5, c6, c7, c8, c9, c10, c11, c12, c13, c14⟩ := HT.out.1.at
  have hlt := HT.out.2.1.lt
  have HK := hid (open_any a W)
  cases ho : opB a with
  | true =>
    have HR : Hid (ahB a b = false) := by simp [Hid, ahB, ho]
    rw [ho] at HK
    clear ho
    go_wp2_with fail
    refine HK.out.mono ?_
    rintro e w1 ⟨rfl, b1⟩
    replace HB := hid (q_trans HB.out b1)
    clear b1
    go_wp2_with fail
    go_ret
    exact ⟨ret_bool HR.out.symm, HB.out⟩
  | false =>
    have HR : Hid (ahB a b = decide (a.en < b.st)) := by simp [Hid, ahB, ho]
    rw [ho] at HK
    clear ho
    go_wp2_with fail
    refine HK.out.mono ?_
    rintro e w1 ⟨rfl, b1⟩
    replace HB := hid (q_trans HB.out b1)
    obtain ⟨d0, d1, d2, d3, d4, d5, d6, d7, d8, d9, d10, d11, d12, d13, d14⟩ := (HT.out.1.below b1).at
    obtain ⟨e0, e1, e2, e3, e4, e5, e6, e7, e8, e9, e10, e11, e12, e13, e14⟩ := (HT.out.2.1.below b1).at
    clear b1
    go_wp2_with fail
    go_ret
    exact ⟨ret_bool HR.out.symm, HB.out⟩
set_option maxHeartbeats 1000000 in
theorem mayEnd_any (s : Sp) (w : World) :
    Calls Try.prog 42 #[(.agg #[.int .i64 s.co, .int .i64 s.c.k, .int .u64 s.c.a, .int .u64 s.c.b, .int .i64 s.c.r, .int .i64 s.c.g, .int .i64 s.c.t, .int .i64 s.c.s, .int .i64 s.c.v, .int .i64 s.st, .int .i64 s.en, .int .i64 s.r.e, .int .i64 s.r.v, .int .i64 s.r.b, .bool s.r.t])] w fun e w' => e = .returned (.bool (enB s)) ∧ Below w.heap.size w w' := by
  have hq : ∀ W, (Op.equalIn 10000 31 (.agg #[.int .i64 s.r.e, .int .i64 s.r.v, .int .i64 s.r.b, .bool s.r.t]) (.agg #[.int .i64 0, .int .i64 0, .int .i64 0, .bool false])).run Try.prog W = .ok (eqR s.r r0) W := fun W => eqr_run 9998 s.r r0 W
  go_enter Try.func42, Try.ntmps42
  go_upto_region 1 with fail
  have HT := hid (sb_new w s)
  have HB := hid (alloc_below w (.cells #[.int .i64 s.co, .int .i64 s.c.k, .int .u64 s.c.a, .int .u64 s.c.b, .int .i64 s.c.r, .int .i64 s.c.g, .int .i64 s.c.t, .int .i64 s.c.s, .int .i64 s.c.v, .int .i64 s.st, .int .i64 s.en, .int .i64 s.r.e, .int .i64 s.r.v, .int .i64 s.r.b, .bool s.r.t] 50))
  generalize w.alloc (.cells #[.int .i64 s.co, .int .i64 s.c.k, .int .u64 s.c.a, .int .u64 s.c.b, .int .i64 s.c.r, .int .i64 s.c.g, .int .i64 s.c.t, .int .i64 s.c.s, .int .i64 s.c.v, .int .i64 s.st, .int .i64 s.en, .int .i64 s.r.e, .int .i64 s.r.v, .int .i64 s.r.b, .bool s.r.t] 50) = W at HT HB ⊢
  obtain ⟨c0, c1, c2, c3, c4, c5, c6, c7, c8, c9, c10, c11, c12, c13, c14⟩ := HT.out.at
  have HK := hid (open_any s W)
  cases ho : opB s with
  | true =>
    have HR : Hid (enB s = eqR s.r r0) := by simp [opB] at ho; simp [Hid, enB, ho]
    rw [ho] at HK
    clear ho
    go_wp2_with fail
    refine HK.out.mono ?_
    rintro e w1 ⟨rfl, b1⟩
    replace HB := hid (q_trans HB.out b1)
    obtain ⟨d0, d1, d2, d3, d4, d5, d6, d7, d8, d9, d10, d11, d12, d13, d14⟩ := (HT.out.below b1).at
    clear b1
    go_wp2_with fail
    go_ret
    exact ⟨ret_bool HR.out.symm, HB.out⟩
  | false =>
    have HR : Hid (enB s = decide (s.en ≥ s.st)) := by simp [opB] at ho; simp [Hid, enB, ho]
    rw [ho] at HK
    clear ho
    go_wp2_with fail
    refine HK.out.mono ?_
    rintro e w1 ⟨rfl, b1⟩
    replace HB := hid (q_trans HB.out b1)
    obtain ⟨d0, d1, d2, d3, d4, d5, d6, d7, d8, d9, d10, d11, d12, d13, d14⟩ := (HT.out.below b1).at
    clear b1
    go_wp2_with fail
    go_ret
    exact ⟨ret_bool HR.out.symm, HB.out⟩
set_option maxHeartbeats 1000000 in
theorem mayFollow_any (e : Ev) (y : Hd) (p : Int) (w : World) :
    Calls Try.prog 38 #[(.agg #[.int .i64 e.k, .int .i64 e.co, .int .i64 e.c.k, .int .u64 e.c.a, .int .u64 e.c.b, .int .i64 e.c.r, .int .i64 e.c.g, .int .i64 e.c.t, .int .i64 e.c.s, .int .i64 e.c.v, .int .i64 e.sp, .slice y.o y.n y.c]), .int .i64 p] w fun r w' => r = .returned (.bool (flB e p)) ∧ Below w.heap.size w w' := by
  go_enter Try.func38, Try.ntmps38
  go_upto_region 1 with fail
  have HT := hid (eb_new w (e, y))
  have HB := hid (alloc_below w (.cells #[.int .i64 e.k, .int .i64 e.co, .int .i64 e.c.k, .int .u64 e.c.a, .int .u64 e.c.b, .int .i64 e.c.r, .int .i64 e.c.g, .int .i64 e.c.t, .int .i64 e.c.s, .int .i64 e.c.v, .int .i64 e.sp, .slice y.o y.n y.c] 34))
  have hT : Hid (Eb (w.alloc (.cells #[.int .i64 e.k, .int .i64 e.co, .int .i64 e.c.k, .int .u64 e.c.a, .int .u64 e.c.b, .int .i64 e.c.r, .int .i64 e.c.g, .int .i64 e.c.t, .int .i64 e.c.s, .int .i64 e.c.v, .int .i64 e.sp, .slice y.o y.n y.c] 34)) w.heap.size (e, y)) := HT
  clear HT
  generalize w.alloc (.cells #[.int .i64 e.k, .int .i64 e.co, .int .i64 e.c.k, .int .u64 e.c.a, .int .u64 e.c.b, .int .i64 e.c.r, .int .i64 e.c.g, .int .i64 e.c.t, .int .i64 e.c.s, .int .i64 e.c.v, .int .i64 e.sp, .slice y.o y.n y.c] 34) = W at hT HB ⊢
  obtain ⟨c0, c1, c2, c3, c4, c5, c6, c7, c8, c9, c10, c11⟩ := hT.out.at
  dsimp only at c0 c1 c2 c3 c4 c5 c6 c7 c8 c9 c10 c11
  by_cases h1 : e.k ≥ 0
  · by_cases h2 : e.k ≤ 3
    · cases h3 : okC e.co with
      | true =>
        have HR : Hid (flB e p = decide (e.sp > p)) := by simp [Hid, flB, h1, h2, h3]
        go_wp2_with (go_at_call 41; refine (isCore_any _ _).mono ?_; rintro e w8 ⟨rfl, hw⟩; rw [hw, h3]; clear hw w8)
        go_ret
        exact ⟨ret_bool HR.out.symm, HB.out⟩
      | false =>
        have HR : Hid (flB e p = false) := by simp [Hid, flB, h3]
        go_wp2_with (go_at_call 41; refine (isCore_any _ _).mono ?_; rintro e w8 ⟨rfl, hw⟩; rw [hw, h3]; clear hw w8)
        go_ret
        exact ⟨ret_bool HR.out.symm, HB.out⟩
    · have HR : Hid (flB e p = false) := by simp [Hid, flB, h2]
      go_wp2_with fail
      go_ret
      exact ⟨ret_bool HR.out.symm, HB.out⟩
  · have HR : Hid (flB e p = false) := by simp [Hid, flB, h1]
    go_wp2_with fail
    go_ret
    exact ⟨ret_bool HR.out.symm, HB.out⟩
end Go.Proofs.Ytmnkbkhfonngeaa.Hi
