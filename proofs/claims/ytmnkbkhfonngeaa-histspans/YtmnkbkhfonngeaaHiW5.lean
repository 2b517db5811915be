/- What sameEvent, slices.EqualFunc at events, Same do. -/
import Derived.Test.YtmnkbkhfonngeaaHiW4
namespace Go.Proofs.Ytmnkbkhfonngeaa.Hi
open Go.RowKit

theorem two_ev (w : World) (a b : Ev × Hd) : Eb ((w.alloc (.cells #[.int .i64 a.1.k, .int .i64 a.1.co, .int .i64 a.1.c.k, .int .u64 a.1.c.a, .int .u64 a.1.c.b, .int .i64 a.1.c.r, .int .i64 a.1.c.g, .int .i64 a.1.c.t, .int .i64 a.1.c.s, .int .i64 a.1.c.v, .int .i64 a.1.sp, .slice a.2.o a.2.n a.2.c] 34)).alloc (.cells #[.int .i64 b.1.k, .int .i64 b.1.co, .int .i64 b.1.c.k, .int .u64 b.1.c.a, .int .u64 b.1.c.b, .int .i64 b.1.c.r, .int .i64 b.1.c.g, .int .i64 b.1.c.t, .int .i64 b.1.c.s, .int .i64 b.1.c.v, .int .i64 b.1.sp, .slice b.2.o b.2.n b.2.c] 34)) w.heap.size a ∧ Eb ((w.alloc (.cells #[.int .i64 a.1.k, .int .i64 a.1.co, .int .i64 a.1.c.k, .int .u64 a.1.c.a, .int .u64 a.1.c.b, .int .i64 a.1.c.r, .int .i64 a.1.c.g, .int .i64 a.1.c.t, .int .i64 a.1.c.s, .int .i64 a.1.c.v, .int .i64 a.1.sp, .slice a.2.o a.2.n a.2.c] 34)).alloc (.cells #[.int .i64 b.1.k, .int .i64 b.1.co, .int .i64 b.1.c.k, .int .u64 b.1.c.a, .int .u64 b.1.c.b, .int .i64 b.1.c.r, .int .i64 b.1.c.g, .int .i64 b.1.c.t, .int .i64 b.1.c.s, .int .i64 b.1.c.v, .int .i64 b.1.sp, .slice b.2.o b.2.n b.2.c] 34)) (w.heap.size + 1) b ∧ Below w.heap.size w ((w.alloc (.cells #[.int .i64 a.1.k, .int .i64 a.1.co, .int .i64 a.1.c.k, .int .u64 a.1.c.a, .int .u64 a.1.c.b, .int .i64 a.1.c.r, .int .i64 a.1.c.g, .int .i64 a.1.c.t, .int .i64 a.1.c.s, .int .i64 a.1.c.v, .int .i64 a.1.sp, .slice a.2.o a.2.n a.2.c] 34)).alloc (.cells #[.int .i64 b.1.k, .int .i64 b.1.co, .int .i64 b.1.c.k, .int .u64 b.1.c.a, .int .u64 b.1.c.b, .int .i64 b.1.c.r, .int .i64 b.1.c.g, .int .i64 b.1.c.t, .int .i64 b.1.c.s, .int .i64 b.1.c.v, .int .i64 b.1.sp, .slice b.2.o b.2.n b.2.c] 34)) := by
  refine ⟨(eb_new w a).below (alloc_below _ _), ?_, q_alloc (alloc_below _ _) _⟩
  have h := eb_new (w.alloc (.cells #[.int .i64 a.1.k, .int .i64 a.1.co, .int .i64 a.1.c.k, .int .u64 a.1.c.a, .int .u64 a.1.c.b, .int .i64 a.1.c.r, .int .i64 a.1.c.g, .int .i64 a.1.c.t, .int .i64 a.1.c.s, .int .i64 a.1.c.v, .int .i64 a.1.sp, .slice a.2.o a.2.n a.2.c] 34)) b
  rwa [show (w.alloc (.cells #[.int .i64 a.1.k, .int .i64 a.1.co, .int .i64 a.1.c.k, .int .u64 a.1.c.a, .int .u64 a.1.c.b, .int .i64 a.1.c.r, .int .i64 a.1.c.g, .int .i64 a.1.c.t, .int .i64 a.1.c.s, .int .i64 a.1.c.v, .int .i64 a.1.sp, .slice a.2.o a.2.n a.2.c] 34)).heap.size = w.heap.size + 1 by simp] at h
theorem two_hi (w : World) (a b : Hh) : Hb ((w.alloc (.cells #[.slice a.s.o a.s.n a.s.c, .slice a.e.o a.e.n a.e.c] 25)).alloc (.cells #[.slice b.s.o b.s.n b.s.c, .slice b.e.o b.e.n b.e.c] 25)) w.heap.size a ∧ Hb ((w.alloc (.cells #[.slice a.s.o a.s.n a.s.c, .slice a.e.o a.e.n a.e.c] 25)).alloc (.cells #[.slice b.s.o b.s.n b.s.c, .slice b.e.o b.e.n b.e.c] 25)) (w.heap.size + 1) b ∧ Below w.heap.size w ((w.alloc (.cells #[.slice a.s.o a.s.n a.s.c, .slice a.e.o a.e.n a.e.c] 25)).alloc (.cells #[.slice b.s.o b.s.n b.s.c, .slice b.e.o b.e.n b.e.c] 25)) := by
  refine ⟨(hb_new w a).below (alloc_below _ _), ?_, q_alloc (alloc_below _ _) _⟩
  have h := hb_new (w.alloc (.cells #[.slice a.s.o a.s.n a.s.c, .slice a.e.o a.e.n a.e.c] 25)) b
  rwa [show (w.alloc (.cells #[.slice a.s.o a.s.n a.s.c, .slice a.e.o a.e.n a.e.c] 25)).heap.size = w.heap.size + 1 by simp] at h
set_option maxHeartbeats 1000000 in
/-- sameEvent: WHETHER TWO EVENTS ARE THE SAME. -/
theorem sameEvent_any (e f : Ev) (y z : Hd) (w : World) (hs : y.n ≤ 5000) (HY : Hid (HasD w y e.l)) (HZ : Hid (HasD w z f.l)) :
    Calls Try.prog 35 #[(.agg #[.int .i64 e.k, .int .i64 e.co, .int .i64 e.c.k, .int .u64 e.c.a, .int .u64 e.c.b, .int .i64 e.c.r, .int .i64 e.c.g, .int .i64 e.c.t, .int .i64 e.c.s, .int .i64 e.c.v, .int .i64 e.sp, .slice y.o y.n y.c]), (.agg #[.int .i64 f.k, .int .i64 f.co, .int .i64 f.c.k, .int .u64 f.c.a, .int .u64 f.c.b, .int .i64 f.c.r, .int .i64 f.c.g, .int .i64 f.c.t, .int .i64 f.c.s, .int .i64 f.c.v, .int .i64 f.sp, .slice z.o z.n z.c])] w fun r w' => r = .returned (.bool (eqE e f)) ∧ Below w.heap.size w w' := by
  have he : ∀ W, (Op.equalIn 10000 28 (.agg #[.int .i64 e.c.k, .int .u64 e.c.a, .int .u64 e.c.b, .int .i64 e.c.r, .int .i64 e.c.g, .int .i64 e.c.t, .int .i64 e.c.s, .int .i64 e.c.v]) (.agg #[.int .i64 f.c.k, .int .u64 f.c.a, .int .u64 f.c.b, .int .i64 f.c.r, .int .i64 f.c.g, .int .i64 f.c.t, .int .i64 f.c.s, .int .i64 f.c.v])).run Try.prog W = .ok (eqC e.c f.c) W := fun W => eqc_run 9998 e.c f.c W
  go_enter Try.func35, Try.ntmps35
  go_upto_region 1 with fail
  have HT : Hid (Eb ((w.alloc (.cells #[.int .i64 e.k, .int .i64 e.co, .int .i64 e.c.k, .int .u64 e.c.a, .int .u64 e.c.b, .int .i64 e.c.r, .int .i64 e.c.g, .int .i64 e.c.t, .int .i64 e.c.s, .int .i64 e.c.v, .int .i64 e.sp, .slice y.o y.n y.c] 34)).alloc (.cells #[.int .i64 f.k, .int .i64 f.co, .int .i64 f.c.k, .int .u64 f.c.a, .int .u64 f.c.b, .int .i64 f.c.r, .int .i64 f.c.g, .int .i64 f.c.t, .int .i64 f.c.s, .int .i64 f.c.v, .int .i64 f.sp, .slice z.o z.n z.c] 34)) w.heap.size (e, y) ∧ Eb ((w.alloc (.cells #[.int .i64 e.k, .int .i64 e.co, .int .i64 e.c.k, .int .u64 e.c.a, .int .u64 e.c.b, .int .i64 e.c.r, .int .i64 e.c.g, .int .i64 e.c.t, .int .i64 e.c.s, .int .i64 e.c.v, .int .i64 e.sp, .slice y.o y.n y.c] 34)).alloc (.cells #[.int .i64 f.k, .int .i64 f.co, .int .i64 f.c.k, .int .u64 f.c.a, .int .u64 f.c.b, .int .i64 f.c.r, .int .i64 f.c.g, .int .i64 f.c.t, .int .i64 f.c.s, .int .i64 f.c.v, .int .i64 f.sp, .slice z.o z.n z.c] 34)) (w.heap.size + 1) (f, z) ∧ Below w.heap.size w ((w.alloc (.cells #[.int .i64 e.k, .int .i64 e.co, .int .i64 e.c.k, .int .u64 e.c.a, .int .u64 e.c.b, .int .i64 e.c.r, .int .i64 e.c.g, .int .i64 e.c.t, .int .i64 e.c.s, .int .i64 e.c.v, .int .i64 e.sp, .slice y.o y.n y.c] 34)).alloc (.cells #[.int .i64 f.k, .int .i64 f.co, .int .i64 f.c.k, .int .u64 f.c.a, .int .u64 f.c.b, .int .i64 f.c.r, .int .i64 f.c.g, .int .i64 f.c.t, .int .i64 f.c.s, .int .i64 f.c.v, .int .i64 f.sp, .slice z.o z.n z.c] 34))) := two_ev w (e, y) (f, z)
  generalize (w.alloc (.cells #[.int .i64 e.k, .int .i64 e.co, .int .i64 e.c.k, .int .u64 e.c.a, .int .u64 e.c.b, .int .i64 e.c.r, .int .i64 e.c.g, .int .i64 e.c.t, .int .i64 e.c.s, .int .i64 e.c.v, .int .i64 e.sp, .slice y.o y.n y.c] 34)).alloc (.cells #[.int .i64 f.k, .int .i64 f.co, .int .i64 f.c.k, .int .u64 f.c.a, .int .u64 f.c.b, .int .i64 f.c.r, .int .i64 f.c.g, .int .i64 f.c.t, .int .i64 f.c.s, .int .i64 f.c.v, .int .i64 f.sp, .slice z.o z.n z.c] 34) = W at HT ⊢
  have HB := hid HT.out.2.2
  obtain ⟨c0, c1, c2, c3, c4, c5, c6, c7, c8, c9, c10, c11⟩ := HT.out.1.at
  obtain ⟨g0, g1, g2, g3, g4, g5, g6, g7, g8, g9, g10, g11⟩ := HT.out.2.1.at
  dsimp only at c0 c1 c2 c3 c4 c5 c6 c7 c8 c9 c10 c11 g0 g1 g2 g3 g4 g5 g6 g7 g8 g9 g10 g11
  have HK := hid (equal_dn y z e.l f.l W (by omega) (HY.out.below HB.out) (HZ.out.below HB.out))
  clear HT
  cases h1 : (e.k == f.k) with
  | false =>
    have HR : Hid (eqE e f = false) := by simp only [Hid, eqE, h1, Bool.false_and]
    go_wp2_with fail
    go_ret
    exact ⟨ret_bool HR.out.symm, HB.out⟩
  | true =>
    cases h2 : (e.co == f.co) with
    | false =>
      have HR : Hid (eqE e f = false) := by simp only [Hid, eqE, h2, Bool.false_and, Bool.and_false]
      go_wp2_with fail
      go_ret
      exact ⟨ret_bool HR.out.symm, HB.out⟩
    | true =>
      cases h3 : eqC e.c f.c with
      | false =>
        have HR : Hid (eqE e f = false) := by simp only [Hid, eqE, h3, Bool.false_and, Bool.and_false]
        rw [h3] at he
        go_wp2_with fail
        go_ret
        exact ⟨ret_bool HR.out.symm, HB.out⟩
      | true =>
        rw [h3] at he
        cases h4 : (e.sp == f.sp) with
        | false =>
          have HR : Hid (eqE e f = false) := by simp only [Hid, eqE, h4, Bool.false_and, Bool.and_false]
          go_wp2_with fail
          go_ret
          exact ⟨ret_bool HR.out.symm, HB.out⟩
        | true =>
          have HR : Hid (eqE e f = eqDs e.l f.l) := by simp only [Hid, eqE, h1, h2, h3, h4, Bool.true_and]
          go_wp2_with (go_at_call 43; refine HK.out.mono ?_; rintro e w1 ⟨rfl, b1⟩)
          go_ret
          exact ⟨ret_bool HR.out.symm, q_trans HB.out b1⟩
set_option maxRecDepth 100000 in
set_option maxHeartbeats 1000000 in
theorem equalF_len (ao bo : Option Addr) (n m cap cap' : Nat) (f : Value) (w : World) (h : ((n : Int) != (m : Int)) = true) :
    Calls Try.prog 34 #[.slice ao n cap, .slice bo m cap', f] w fun e w' => e = .returned (.bool false) ∧ w' = w := by
  go_enter Try.func34, Try.ntmps34
  go_wp2
  go_ret
  exact ⟨rfl, rfl⟩
set_option maxRecDepth 100000 in
set_option maxHeartbeats 1000000 in
theorem equalF_eq (ao bo : Option Addr) (n cap cap' : Nat) (xs ys : List (Ev × Hd)) (w : World) (hs : n ≤ 5000) (hd : ∀ x ∈ xs, x.2.n ≤ 5000) (HA : Hid (HasX w ⟨ao, n, cap⟩ xs)) (HB : Hid (HasX w ⟨bo, n, cap'⟩ ys)) :
    Calls Try.prog 34 #[.slice ao n cap, .slice bo n cap', .func (.func 35) #[] #[]] w fun e w' => e = .returned (.bool (eqEs (xs.map (·.1)) (ys.map (·.1)))) ∧ Below w.heap.size w w' := by
  have HN : Hid (n = xs.length) := HA.out.has.len
  have HM : Hid (n = ys.length) := HB.out.has.len
  have HD := hid hd
  clear hd
  obtain ⟨la, hla⟩ : ∃ l, xs.map (·.1) = l := ⟨_, rfl⟩
  obtain ⟨lb, hlb⟩ : ∃ l, ys.map (·.1) = l := ⟨_, rfl⟩
  have HLA := hid hla
  have HLB := hid hlb
  rw [hla, hlb]
  clear hla hlb
  have HNa : Hid (n = la.length) := by unfold Hid; rw [← HLA.out, List.length_map]; exact HN.out
  have HNb : Hid (n = lb.length) := by unfold Hid; rw [← HLB.out, List.length_map]; exact HM.out
  go_enter Try.func34, Try.ntmps34
  go_wp2_with fail
  go_loopw [17] (fun i wr => ∃ k : Nat, k ≤ n ∧ i = .int .i64 k ∧ Hid (la.take k = lb.take k) ∧ Hid (Below w.heap.size w wr)) (fun i _ => n - (intOf i).toNat)
  case atStart => exact ⟨0, Nat.zero_le _, rfl, by simp [Hid], Below.refl _ _⟩
  case round =>
    obtain ⟨k, hk, rfl, HT, HL⟩ := hrel
    by_cases hlt : k < n
    · have i1 : (0 : Int) ≤ (k : Int) := by omega
      have i2 : (k : Int) < (n : Int) := by omega
      have hkx : k < xs.length := by have := HN.out; omega
      have hky : k < ys.length := by have := HM.out; omega
      obtain ⟨a, ea, ca⟩ := atE_of (HA.out.below HL.out).has.row k hkx
      obtain rfl : ao = some a := ea
      obtain ⟨b, eb, cb⟩ := atE_of (HB.out.below HL.out).has.row k hky
      obtain rfl : bo = some b := eb
      have HX1 := hid ((HA.out.below HL.out).one hkx)
      have HY1 := hid ((HB.out.below HL.out).one hky)
      have hd1 : (xs.getD k (e0, nilH)).2.n ≤ 5000 := HD.out _ (by rw [show xs.getD k (e0, nilH) = xs[k] by simp [List.getD, hkx]]; exact List.getElem_mem hkx)
      have HEA : Hid (E la k = (xs.getD k (e0, nilH)).1) := by unfold Hid; rw [← HLA.out, E_map hkx]
      have HEB : Hid (E lb k = (ys.getD k (e0, nilH)).1) := by unfold Hid; rw [← HLB.out, E_map hky]
      obtain ⟨x, hx⟩ : ∃ x, xs.getD k (e0, nilH) = x := ⟨_, rfl⟩
      obtain ⟨z, hz⟩ : ∃ x, ys.getD k (e0, nilH) = x := ⟨_, rfl⟩
      rw [hx] at ca HX1 HEA hd1
      rw [hz] at cb HY1 HEB
      clear hx hz
      obtain ⟨e, u⟩ := x
      obtain ⟨f, v⟩ := z
      replace HEA : Hid (E la k = e) := HEA
      replace HEB : Hid (E lb k = f) := HEB
      have hlb : b.block < wr.heap.size := by have := cb.lt; rwa [add_block] at this
      have hlb2 : (b.add (k * 12)).block < wr.heap.size := cb.lt
      obtain ⟨c0, c1, c2, c3, c4, c5, c6, c7, c8, c9, c10, c11⟩ := ca
      obtain ⟨g0, g1, g2, g3, g4, g5, g6, g7, g8, g9, g10, g11⟩ := cb
      dsimp only at c0 c1 c2 c3 c4 c5 c6 c7 c8 c9 c10 c11 g0 g1 g2 g3 g4 g5 g6 g7 g8 g9 g10 g11
      go_upto_region 7 with fail
      have HT2 : Hid (Eb ((wr.alloc (.cells #[.int .i64 e.k, .int .i64 e.co, .int .i64 e.c.k, .int .u64 e.c.a, .int .u64 e.c.b, .int .i64 e.c.r, .int .i64 e.c.g, .int .i64 e.c.t, .int .i64 e.c.s, .int .i64 e.c.v, .int .i64 e.sp, .slice u.o u.n u.c] 34)).alloc (.cells #[.int .i64 f.k, .int .i64 f.co, .int .i64 f.c.k, .int .u64 f.c.a, .int .u64 f.c.b, .int .i64 f.c.r, .int .i64 f.c.g, .int .i64 f.c.t, .int .i64 f.c.s, .int .i64 f.c.v, .int .i64 f.sp, .slice v.o v.n v.c] 34)) wr.heap.size (e, u) ∧ Eb ((wr.alloc (.cells #[.int .i64 e.k, .int .i64 e.co, .int .i64 e.c.k, .int .u64 e.c.a, .int .u64 e.c.b, .int .i64 e.c.r, .int .i64 e.c.g, .int .i64 e.c.t, .int .i64 e.c.s, .int .i64 e.c.v, .int .i64 e.sp, .slice u.o u.n u.c] 34)).alloc (.cells #[.int .i64 f.k, .int .i64 f.co, .int .i64 f.c.k, .int .u64 f.c.a, .int .u64 f.c.b, .int .i64 f.c.r, .int .i64 f.c.g, .int .i64 f.c.t, .int .i64 f.c.s, .int .i64 f.c.v, .int .i64 f.sp, .slice v.o v.n v.c] 34)) (wr.heap.size + 1) (f, v) ∧ Below wr.heap.size wr ((wr.alloc (.cells #[.int .i64 e.k, .int .i64 e.co, .int .i64 e.c.k, .int .u64 e.c.a, .int .u64 e.c.b, .int .i64 e.c.r, .int .i64 e.c.g, .int .i64 e.c.t, .int .i64 e.c.s, .int .i64 e.c.v, .int .i64 e.sp, .slice u.o u.n u.c] 34)).alloc (.cells #[.int .i64 f.k, .int .i64 f.co, .int .i64 f.c.k, .int .u64 f.c.a, .int .u64 f.c.b, .int .i64 f.c.r, .int .i64 f.c.g, .int .i64 f.c.t, .int .i64 f.c.s, .int .i64 f.c.v, .int .i64 f.sp, .slice v.o v.n v.c] 34))) := two_ev wr (e, u) (f, v)
      generalize (wr.alloc (.cells #[.int .i64 e.k, .int .i64 e.co, .int .i64 e.c.k, .int .u64 e.c.a, .int .u64 e.c.b, .int .i64 e.c.r, .int .i64 e.c.g, .int .i64 e.c.t, .int .i64 e.c.s, .int .i64 e.c.v, .int .i64 e.sp, .slice u.o u.n u.c] 34)).alloc (.cells #[.int .i64 f.k, .int .i64 f.co, .int .i64 f.c.k, .int .u64 f.c.a, .int .u64 f.c.b, .int .i64 f.c.r, .int .i64 f.c.g, .int .i64 f.c.t, .int .i64 f.c.s, .int .i64 f.c.v, .int .i64 f.sp, .slice v.o v.n v.c] 34) = W at HT2 ⊢
      clear c0 c1 c2 c3 c4 c5 c6 c7 c8 c9 c10 c11 g0 g1 g2 g3 g4 g5 g6 g7 g8 g9 g10 g11
      have HB9 := hid (q_trans HL.out HT2.out.2.2)
      have HK := hid (sameEvent_any e f u v W hd1 (HX1.out.below HT2.out.2.2) (HY1.out.below HT2.out.2.2))
      obtain ⟨c0, c1, c2, c3, c4, c5, c6, c7, c8, c9, c10, c11⟩ := HT2.out.1.at
      obtain ⟨g0, g1, g2, g3, g4, g5, g6, g7, g8, g9, g10, g11⟩ := HT2.out.2.1.at
      dsimp only at c0 c1 c2 c3 c4 c5 c6 c7 c8 c9 c10 c11 g0 g1 g2 g3 g4 g5 g6 g7 g8 g9 g10 g11
      clear HT2
      cases hef : eqE e f with
      | true =>
        rw [hef] at HK
        have HE : Hid (e = f) := eqE_iff.1 hef
        clear hef
        go_wp2_with fail
        refine HK.out.mono ?_
        rintro e9 w1 ⟨rfl, b1⟩
        replace HB9 := hid (q_trans HB9.out b1)
        clear b1
        go_wp2_with fail
        go_roundw
        case rel => exact ⟨k + 1, by omega, by go_num, (by have h1 : la.getD k e0 = e := HEA.out; have h2 : lb.getD k e0 = f := HEB.out; rw [take_snoc la e0 k (by have := HNa.out; omega), take_snoc lb e0 k (by have := HNb.out; omega), HT.out, h1, h2, HE.out]; exact rfl), HB9⟩
        case measure => simp [intOf]; omega
      | false =>
        rw [hef] at HK
        have HE : Hid (¬ e = f) := eqE_not.1 hef
        clear hef
        go_wp2_with fail
        refine HK.out.mono ?_
        rintro e9 w1 ⟨rfl, b1⟩
        replace HB9 := hid (q_trans HB9.out b1)
        clear b1
        go_wp2_with fail
        go_ret
        exact ⟨ret_bool (eqEs_not.2 (fun g => HE.out (by rw [← HEA.out, ← HEB.out, g]))).symm, HB9.out⟩
    · obtain rfl : k = n := by omega
      go_wp2_with fail
      go_ret
      exact ⟨ret_bool (eqEs_iff.2 (take_full (HNa.out.symm.trans HNb.out) (by rw [← HNa.out]; exact HT.out))).symm, HL.out⟩
/-- All lists of replies are short. -/
def ShortE (l : List Ev) : Prop := ∀ e ∈ l, e.l.length ≤ 5000
theorem shortX {w : World} {y : Hd} {xs : List (Ev × Hd)} {l : List Ev} (h : HasX w y xs) (e : xs.map (·.1) = l) (k : ShortE l) : ∀ x ∈ xs, x.2.n ≤ 5000 := fun x hx => by
  rw [(h.each x hx).len]
  exact k x.1 (by rw [← e]; exact List.mem_map_of_mem hx)
theorem equalF (y z : Hd) (la lb : List Ev) (w : World) (hs : y.n ≤ 5000) (hd : ShortE la) (HA : HasE w y la) (HB : HasE w z lb) :
    Calls Try.prog 34 #[.slice y.o y.n y.c, .slice z.o z.n z.c, .func (.func 35) #[] #[]] w fun e w' => e = .returned (.bool (eqEs la lb)) ∧ Below w.heap.size w w' := by
  by_cases h : y.n = z.n
  · obtain ⟨xs, ex, hx⟩ := HA
    obtain ⟨ys, ey, hy⟩ := HB
    obtain ⟨bo, m, cb⟩ := z
    obtain rfl : y.n = m := h
    rw [← ex, ← ey]
    exact equalF_eq y.o bo y.n y.c cb xs ys w hs (shortX hx ex hd) hx hy
  · rw [(eqEs_not (l := la) (m := lb)).2 (fun e => h (by rw [HA.len, HB.len, e]))]
    refine (equalF_len y.o z.o y.n z.n y.c z.c _ w (by simp; omega)).mono ?_
    rintro e w' ⟨rfl, rfl⟩
    exact ⟨rfl, Below.refl _ _⟩
set_option maxHeartbeats 1000000 in
/-- Same: WHETHER TWO HISTORIES ARE THE SAME. -/
theorem same_any (x z : Hh) (h k : Hs) (w : World) (hs : x.s.n ≤ 5000) (he : x.e.n ≤ 5000) (hd : ShortE h.e) (HX : Hid (HasH w x h)) (HZ : Hid (HasH w z k)) :
    Calls Try.prog 18 #[(.agg #[.slice x.s.o x.s.n x.s.c, .slice x.e.o x.e.n x.e.c]), (.agg #[.slice z.s.o z.s.n z.s.c, .slice z.e.o z.e.n z.e.c])] w fun e w' => e = .returned (.bool (eqH h k)) ∧ Below w.heap.size w w' := by
  have HD := hid hd
  clear hd
  go_enter Try.func18, Try.ntmps18
  go_upto_region 1 with fail
  have HT := hid (two_hi w x z)
  generalize (w.alloc (.cells #[.slice x.s.o x.s.n x.s.c, .slice x.e.o x.e.n x.e.c] 25)).alloc (.cells #[.slice z.s.o z.s.n z.s.c, .slice z.e.o z.e.n z.e.c] 25) = W at HT ⊢
  have HB := hid HT.out.2.2
  have c0 := HT.out.1.c0
  have g0 := HT.out.2.1.c0
  have HK := hid (equal_sp x.s z.s h.s k.s W (by omega) (HX.out.s.below HB.out) (HZ.out.s.below HB.out))
  cases h1 : eqSs h.s k.s with
  | false =>
    rw [h1] at HK
    have HR : Hid (eqH h k = false) := by simp [Hid, eqH, h1]
    clear h1
    go_wp2_with fail
    refine HK.out.mono ?_
    rintro e w1 ⟨rfl, b1⟩
    replace HB := hid (q_trans HB.out b1)
    clear b1
    go_wp2_with fail
    go_ret
    exact ⟨ret_bool HR.out.symm, HB.out⟩
  | true =>
    rw [h1] at HK
    have HR : Hid (eqH h k = eqEs h.e k.e) := by simp [Hid, eqH, h1]
    clear h1
    go_wp2_with fail
    refine HK.out.mono ?_
    rintro e w1 ⟨rfl, b1⟩
    replace HB := hid (q_trans HB.out b1)
    have c1 := (HT.out.1.below b1).c1
    have g1 := (HT.out.2.1.below b1).c1
    clear b1
    have HJ := hid (equalF x.e z.e h.e k.e w1 he HD.out (HX.out.e.below HB.out) (HZ.out.e.below HB.out))
    go_wp2_with fail
    refine HJ.out.mono ?_
    rintro e w2 ⟨rfl, b2⟩
    replace HB := hid (q_trans HB.out b2)
    clear b2
    go_wp2_with fail
    go_ret
    exact ⟨ret_bool HR.out.symm, HB.out⟩
end Go.Proofs.Ytmnkbkhfonngeaa.Hi
