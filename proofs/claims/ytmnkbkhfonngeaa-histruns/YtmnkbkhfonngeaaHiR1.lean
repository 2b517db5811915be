/- What the document's Dones, Same do (genr118.py). -/
import Derived.Test.YtmnkbkhfonngeaaHiW5
namespace Go.Proofs.Ytmnkbkhfonngeaa.Hi
open Go.RowKit

set_option maxRecDepth 100000 in
set_option maxHeartbeats 1000000 in
theorem dones_len (ao bo : Option Addr) (n m cap cap' : Nat) (w : World) (h : ((n : Int) != (m : Int)) = true) :
    Calls Try.prog 29 #[.slice ao n cap, .slice bo m cap'] w fun e w' => e = .returned (.bool false) ∧ w' = w := by
  go_enter Try.func29, Try.ntmps29
  go_wp2
  go_ret
  exact ⟨rfl, rfl⟩
set_option maxRecDepth 100000 in
set_option maxHeartbeats 1000000 in
theorem dones_eq (ao bo : Option Addr) (n cap cap' : Nat) (la lb : List Dn) (w : World) (hs : n ≤ 5000) (HA : Hid (n = la.length)) (HB : Hid (n = lb.length)) (RA : Hid (Row w ao (la.flatMap dnC))) (RB : Hid (Row w bo (lb.flatMap dnC))) :
    Calls Try.prog 29 #[.slice ao n cap, .slice bo n cap'] w fun e w' => e = .returned (.bool (eqDs la lb)) ∧ ∃ nd, w' = w.drewN nd := by
  go_enter Try.func29, Try.ntmps29
  go_wp2
  go_loopw [5] (fun i wr => ∃ k : Nat, k ≤ n ∧ i = .int .i64 k ∧ Hid (la.take k = lb.take k) ∧ ∃ nd, wr = w.drewN nd) (fun i _ => n - (intOf i).toNat)
  case atStart => exact ⟨0, Nat.zero_le _, rfl, by simp [Hid], 0, rfl⟩
  case round =>
    obtain ⟨k, hk, rfl, HT, nd, rfl⟩ := hrel
    by_cases hlt : k < n
    · have i1 : (0 : Int) ≤ (k : Int) := by omega
      have i2 : (k : Int) < (n : Int) := by omega
      obtain ⟨a, rfl, ca⟩ := atD_of RA.out k (by have := HA.out; omega)
      obtain ⟨b, rfl, cb⟩ := atD_of RB.out k (by have := HB.out; omega)
      obtain ⟨x, hx⟩ : ∃ x, la.getD k d0 = x := ⟨_, rfl⟩
      obtain ⟨y, hy⟩ : ∃ y, lb.getD k d0 = y := ⟨_, rfl⟩
      rw [hx] at ca
      rw [hy] at cb
      have HX := hid hx
      have HY := hid hy
      clear hx hy
      obtain ⟨c0, c1, c2, c3, c4⟩ := ca
      obtain ⟨g0, g1, g2, g3, g4⟩ := cb
      have he : ∀ W, (Op.equalIn 10000 78 (.agg #[.int .i64 x.c, .int .i64 x.r.e, .int .i64 x.r.v, .int .i64 x.r.b, .bool x.r.t]) (.agg #[.int .i64 y.c, .int .i64 y.r.e, .int .i64 y.r.v, .int .i64 y.r.b, .bool y.r.t])).run Try.prog W = .ok (eqD x y) W := fun W => eqd_run 9997 x y W
      by_cases hxy : x = y
      · rw [eqD_iff.2 hxy] at he
        have HXY := hid hxy
        clear hxy
        go_wp2
        go_quiet (fail)
        go_wp2
        go_roundw
        case rel => exact ⟨k + 1, by omega, by go_num, by rw [take_snoc la d0 k (by have := HA.out; omega), take_snoc lb d0 k (by have := HB.out; omega), HT.out, HX.out, HY.out, HXY.out]; exact rfl, _, rfl⟩
        case measure => simp [intOf]; omega
      · rw [eqD_not.2 hxy] at he
        have HXY := hid hxy
        clear hxy
        go_wp2
        go_quiet (fail)
        go_wp2
        go_ret
        exact ⟨ret_bool (eqDs_not.2 (fun e => HXY.out (by rw [← HX.out, ← HY.out, e]))).symm, _, drewN_add _ _ _⟩
    · obtain rfl : k = n := by omega
      go_wp2
      go_ret
      exact ⟨ret_bool (eqDs_iff.2 (take_full (HA.out.symm.trans HB.out) (by rw [← HA.out]; exact HT.out))).symm, _, rfl⟩
theorem dones_any (y z : Hd) (la lb : List Dn) (w : World) (hs : y.n ≤ 5000) (hA : HasD w y la) (hB : HasD w z lb) :
    Calls Try.prog 29 #[.slice y.o y.n y.c, .slice z.o z.n z.c] w fun e w' => e = .returned (.bool (eqDs la lb)) ∧ Below w.heap.size w w' := by
  by_cases h : y.n = z.n
  · have hB' := hB.len
    rw [← h] at hB' ⊢
    refine (dones_eq y.o z.o y.n y.c z.c la lb w hs hA.len hB' hA.row hB.row).mono ?_
    rintro e w' ⟨rfl, nd, rfl⟩
    exact ⟨rfl, drewN_below _ _⟩
  · rw [(eqDs_not (l := la) (m := lb)).2 (fun e => h (by rw [hA.len, hB.len, e]))]
    refine (dones_len y.o z.o y.n z.n y.c z.c w (by simp; omega)).mono ?_
    rintro e w' ⟨rfl, rfl⟩
    exact ⟨rfl, Below.refl _ _⟩
/-- What is read of two events. -/
abbrev SEv (b1 b2 : Nat) (y z : Hd) (a b : Addr) (p q : Ev × Hd) (w : World) : Prop := w.cell? ⟨b1, 1, none⟩ = some (.slice y.o y.n y.c) ∧ w.cell? ⟨b2, 1, none⟩ = some (.slice z.o z.n z.c) ∧ w.cell? a = some (.int .i64 p.1.k) ∧ w.cell? ⟨a.block, a.off + 1, none⟩ = some (.int .i64 p.1.co) ∧ w.cell? ⟨a.block, a.off + 2, none⟩ = some (.int .i64 p.1.c.k) ∧ w.cell? ⟨a.block, a.off + 3, none⟩ = some (.int .u64 p.1.c.a) ∧ w.cell? ⟨a.block, a.off + 4, none⟩ = some (.int .u64 p.1.c.b) ∧ w.cell? ⟨a.block, a.off + 5, none⟩ = some (.int .i64 p.1.c.r) ∧ w.cell? ⟨a.block, a.off + 6, none⟩ = some (.int .i64 p.1.c.g) ∧ w.cell? ⟨a.block, a.off + 7, none⟩ = some (.int .i64 p.1.c.t) ∧ w.cell? ⟨a.block, a.off + 8, none⟩ = some (.int .i64 p.1.c.s) ∧ w.cell? ⟨a.block, a.off + 9, none⟩ = some (.int .i64 p.1.c.v) ∧ w.cell? ⟨a.block, a.off + 10, none⟩ = some (.int .i64 p.1.sp) ∧ w.cell? ⟨a.block, a.off + 11, none⟩ = some (.slice p.2.o p.2.n p.2.c) ∧ w.cell? b = some (.int .i64 q.1.k) ∧ w.cell? ⟨b.block, b.off + 1, none⟩ = some (.int .i64 q.1.co) ∧ w.cell? ⟨b.block, b.off + 2, none⟩ = some (.int .i64 q.1.c.k) ∧ w.cell? ⟨b.block, b.off + 3, none⟩ = some (.int .u64 q.1.c.a) ∧ w.cell? ⟨b.block, b.off + 4, none⟩ = some (.int .u64 q.1.c.b) ∧ w.cell? ⟨b.block, b.off + 5, none⟩ = some (.int .i64 q.1.c.r) ∧ w.cell? ⟨b.block, b.off + 6, none⟩ = some (.int .i64 q.1.c.g) ∧ w.cell? ⟨b.block, b.off + 7, none⟩ = some (.int .i64 q.1.c.t) ∧ w.cell? ⟨b.block, b.off + 8, none⟩ = some (.int .i64 q.1.c.s) ∧ w.cell? ⟨b.block, b.off + 9, none⟩ = some (.int .i64 q.1.c.v) ∧ w.cell? ⟨b.block, b.off + 10, none⟩ = some (.int .i64 q.1.sp) ∧ w.cell? ⟨b.block, b.off + 11, none⟩ = some (.slice q.2.o q.2.n q.2.c)
theorem sev_of {b1 b2 : Nat} {x1 x2 : Hh} {a b : Addr} {p q : Ev × Hd} {w : World} (h1 : Hb w b1 x1) (h2 : Hb w b2 x2) (ha : AtE w a p) (hb : AtE w b q) : SEv b1 b2 x1.e x2.e a b p q w := ⟨h1.c1, h2.c1, ha.c0, ha.c1, ha.c2, ha.c3, ha.c4, ha.c5, ha.c6, ha.c7, ha.c8, ha.c9, ha.c10, ha.c11, hb.c0, hb.c1, hb.c2, hb.c3, hb.c4, hb.c5, hb.c6, hb.c7, hb.c8, hb.c9, hb.c10, hb.c11⟩
theorem sev_keep {b1 b2 : Nat} {y z : Hd} {a b : Addr} {p q : Ev × Hd} {W w : World} (h : SEv b1 b2 y z a b p q W) (k : Below W.heap.size W w) : SEv b1 b2 y z a b p q w := by
  refine ⟨?_, ?_, ?_, ?_, ?_, ?_, ?_, ?_, ?_, ?_, ?_, ?_, ?_, ?_, ?_, ?_, ?_, ?_, ?_, ?_, ?_, ?_, ?_, ?_, ?_, ?_⟩
  · exact (k.cell (World.block_lt_of_cell? W _ h.1)).trans h.1
  · exact (k.cell (World.block_lt_of_cell? W _ h.2.1)).trans h.2.1
  · exact (k.cell (World.block_lt_of_cell? W _ h.2.2.1)).trans h.2.2.1
  · exact (k.cell (World.block_lt_of_cell? W _ h.2.2.2.1)).trans h.2.2.2.1
  · exact (k.cell (World.block_lt_of_cell? W _ h.2.2.2.2.1)).trans h.2.2.2.2.1
  · exact (k.cell (World.block_lt_of_cell? W _ h.2.2.2.2.2.1)).trans h.2.2.2.2.2.1
  · exact (k.cell (World.block_lt_of_cell? W _ h.2.2.2.2.2.2.1)).trans h.2.2.2.2.2.2.1
  · exact (k.cell (World.block_lt_of_cell? W _ h.2.2.2.2.2.2.2.1)).trans h.2.2.2.2.2.2.2.1
  · exact (k.cell (World.block_lt_of_cell? W _ h.2.2.2.2.2.2.2.2.1)).trans h.2.2.2.2.2.2.2.2.1
  · exact (k.cell (World.block_lt_of_cell? W _ h.2.2.2.2.2.2.2.2.2.1)).trans h.2.2.2.2.2.2.2.2.2.1
  · exact (k.cell (World.block_lt_of_cell? W _ h.2.2.2.2.2.2.2.2.2.2.1)).trans h.2.2.2.2.2.2.2.2.2.2.1
  · exact (k.cell (World.block_lt_of_cell? W _ h.2.2.2.2.2.2.2.2.2.2.2.1)).trans h.2.2.2.2.2.2.2.2.2.2.2.1
  · exact (k.cell (World.block_lt_of_cell? W _ h.2.2.2.2.2.2.2.2.2.2.2.2.1)).trans h.2.2.2.2.2.2.2.2.2.2.2.2.1
  · exact (k.cell (World.block_lt_of_cell? W _ h.2.2.2.2.2.2.2.2.2.2.2.2.2.1)).trans h.2.2.2.2.2.2.2.2.2.2.2.2.2.1
  · exact (k.cell (World.block_lt_of_cell? W _ h.2.2.2.2.2.2.2.2.2.2.2.2.2.2.1)).trans h.2.2.2.2.2.2.2.2.2.2.2.2.2.2.1
  · exact (k.cell (World.block_lt_of_cell? W _ h.2.2.2.2.2.2.2.2.2.2.2.2.2.2.2.1)).trans h.2.2.2.2.2.2.2.2.2.2.2.2.2.2.2.1
  · exact (k.cell (World.block_lt_of_cell? W _ h.2.2.2.2.2.2.2.2.2.2.2.2.2.2.2.2.1)).trans h.2.2.2.2.2.2.2.2.2.2.2.2.2.2.2.2.1
  · exact (k.cell (World.block_lt_of_cell? W _ h.2.2.2.2.2.2.2.2.2.2.2.2.2.2.2.2.2.1)).trans h.2.2.2.2.2.2.2.2.2.2.2.2.2.2.2.2.2.1
  · exact (k.cell (World.block_lt_of_cell? W _ h.2.2.2.2.2.2.2.2.2.2.2.2.2.2.2.2.2.2.1)).trans h.2.2.2.2.2.2.2.2.2.2.2.2.2.2.2.2.2.2.1
  · exact (k.cell (World.block_lt_of_cell? W _ h.2.2.2.2.2.2.2.2.2.2.2.2.2.2.2.2.2.2.2.1)).trans h.2.2.2.2.2.2.2.2.2.2.2.2.2.2.2.2.2.2.2.1
  · exact (k.cell (World.block_lt_of_cell? W _ h.2.2.2.2.2.2.2.2.2.2.2.2.2.2.2.2.2.2.2.2.1)).trans h.2.2.2.2.2.2.2.2.2.2.2.2.2.2.2.2.2.2.2.2.1
  · exact (k.cell (World.block_lt_of_cell? W _ h.2.2.2.2.2.2.2.2.2.2.2.2.2.2.2.2.2.2.2.2.2.1)).trans h.2.2.2.2.2.2.2.2.2.2.2.2.2.2.2.2.2.2.2.2.2.1
  · exact (k.cell (World.block_lt_of_cell? W _ h.2.2.2.2.2.2.2.2.2.2.2.2.2.2.2.2.2.2.2.2.2.2.1)).trans h.2.2.2.2.2.2.2.2.2.2.2.2.2.2.2.2.2.2.2.2.2.2.1
  · exact (k.cell (World.block_lt_of_cell? W _ h.2.2.2.2.2.2.2.2.2.2.2.2.2.2.2.2.2.2.2.2.2.2.2.1)).trans h.2.2.2.2.2.2.2.2.2.2.2.2.2.2.2.2.2.2.2.2.2.2.2.1
  · exact (k.cell (World.block_lt_of_cell? W _ h.2.2.2.2.2.2.2.2.2.2.2.2.2.2.2.2.2.2.2.2.2.2.2.2.1)).trans h.2.2.2.2.2.2.2.2.2.2.2.2.2.2.2.2.2.2.2.2.2.2.2.2.1
  · exact (k.cell (World.block_lt_of_cell? W _ h.2.2.2.2.2.2.2.2.2.2.2.2.2.2.2.2.2.2.2.2.2.2.2.2.2)).trans h.2.2.2.2.2.2.2.2.2.2.2.2.2.2.2.2.2.2.2.2.2.2.2.2.2
theorem eb_two {W : World} (p q : Ev × Hd) : Eb ((W.alloc (.cells #[.int .i64 p.1.k, .int .i64 p.1.co, .int .i64 p.1.c.k, .int .u64 p.1.c.a, .int .u64 p.1.c.b, .int .i64 p.1.c.r, .int .i64 p.1.c.g, .int .i64 p.1.c.t, .int .i64 p.1.c.s, .int .i64 p.1.c.v, .int .i64 p.1.sp, .slice p.2.o p.2.n p.2.c] 34)).alloc (.cells #[.int .i64 q.1.k, .int .i64 q.1.co, .int .i64 q.1.c.k, .int .u64 q.1.c.a, .int .u64 q.1.c.b, .int .i64 q.1.c.r, .int .i64 q.1.c.g, .int .i64 q.1.c.t, .int .i64 q.1.c.s, .int .i64 q.1.c.v, .int .i64 q.1.sp, .slice q.2.o q.2.n q.2.c] 34)) W.heap.size p ∧ Eb ((W.alloc (.cells #[.int .i64 p.1.k, .int .i64 p.1.co, .int .i64 p.1.c.k, .int .u64 p.1.c.a, .int .u64 p.1.c.b, .int .i64 p.1.c.r, .int .i64 p.1.c.g, .int .i64 p.1.c.t, .int .i64 p.1.c.s, .int .i64 p.1.c.v, .int .i64 p.1.sp, .slice p.2.o p.2.n p.2.c] 34)).alloc (.cells #[.int .i64 q.1.k, .int .i64 q.1.co, .int .i64 q.1.c.k, .int .u64 q.1.c.a, .int .u64 q.1.c.b, .int .i64 q.1.c.r, .int .i64 q.1.c.g, .int .i64 q.1.c.t, .int .i64 q.1.c.s, .int .i64 q.1.c.v, .int .i64 q.1.sp, .slice q.2.o q.2.n q.2.c] 34)) (W.heap.size + 1) q ∧ Below W.heap.size W ((W.alloc (.cells #[.int .i64 p.1.k, .int .i64 p.1.co, .int .i64 p.1.c.k, .int .u64 p.1.c.a, .int .u64 p.1.c.b, .int .i64 p.1.c.r, .int .i64 p.1.c.g, .int .i64 p.1.c.t, .int .i64 p.1.c.s, .int .i64 p.1.c.v, .int .i64 p.1.sp, .slice p.2.o p.2.n p.2.c] 34)).alloc (.cells #[.int .i64 q.1.k, .int .i64 q.1.co, .int .i64 q.1.c.k, .int .u64 q.1.c.a, .int .u64 q.1.c.b, .int .i64 q.1.c.r, .int .i64 q.1.c.g, .int .i64 q.1.c.t, .int .i64 q.1.c.s, .int .i64 q.1.c.v, .int .i64 q.1.sp, .slice q.2.o q.2.n q.2.c] 34)) := two_ev W p q
theorem eb_drew {W V : World} {b c : Nat} {p q : Ev × Hd} (h : Eb V b p ∧ Eb V c q ∧ Below W.heap.size W V) : Eb V.drew b p ∧ Eb V.drew c q ∧ Below W.heap.size W V.drew := ⟨h.1.below (Below.refl _ _).drew, h.2.1.below (Below.refl _ _).drew, h.2.2.drew⟩
theorem eb_swap {W V : World} {b c : Nat} {p q : Ev × Hd} (h : Eb V b p ∧ Eb V c q ∧ Below W.heap.size W V) : Eb V c q ∧ Eb V b p ∧ Below W.heap.size W V := ⟨h.2.1, h.1, h.2.2⟩
set_option maxRecDepth 100000 in
set_option maxHeartbeats 2000000 in
theorem rsame_in (so zo : Option Addr) (sn zn sc zc : Nat) (eo fo : Option Addr) (en fn ec fc : Nat) (h k : Hs) (w : World) (hs : sn ≤ 5000) (he : en ≤ 5000) (hsz : sn = zn) (hez : en = fn) (hd : ShortE h.e) (HX : Hid (HasH w ⟨⟨so, sn, sc⟩, ⟨eo, en, ec⟩⟩ h)) (HZ : Hid (HasH w ⟨⟨zo, zn, zc⟩, ⟨fo, fn, fc⟩⟩ k)) :
    Calls Try.prog 14 #[.agg #[.slice so sn sc, .slice eo en ec], .agg #[.slice zo zn zc, .slice fo fn fc]] w fun e w' => e = .returned (.bool (eqH h k)) ∧ Below w.heap.size w w' := by
  subst hsz hez
  have HD := hid hd
  clear hd
  have HN1 : Hid (sn = h.s.length) := HX.out.s.len
  have HN2 : Hid (sn = k.s.length) := HZ.out.s.len
  have HN3 : Hid (en = h.e.length) := HX.out.e.len
  have HN4 : Hid (en = k.e.length) := HZ.out.e.len
  go_enter Try.func14, Try.ntmps14
  go_upto_region 1 with fail
  have HT : Hid (Hb ((w.alloc (.cells #[.slice so sn sc, .slice eo en ec] 25)).alloc (.cells #[.slice zo sn zc, .slice fo en fc] 25)) w.heap.size ⟨⟨so, sn, sc⟩, ⟨eo, en, ec⟩⟩ ∧ Hb ((w.alloc (.cells #[.slice so sn sc, .slice eo en ec] 25)).alloc (.cells #[.slice zo sn zc, .slice fo en fc] 25)) (w.heap.size + 1) ⟨⟨zo, sn, zc⟩, ⟨fo, en, fc⟩⟩ ∧ Below w.heap.size w ((w.alloc (.cells #[.slice so sn sc, .slice eo en ec] 25)).alloc (.cells #[.slice zo sn zc, .slice fo en fc] 25))) := two_hi w ⟨⟨so, sn, sc⟩, ⟨eo, en, ec⟩⟩ ⟨⟨zo, sn, zc⟩, ⟨fo, en, fc⟩⟩
  generalize (w.alloc (.cells #[.slice so sn sc, .slice eo en ec] 25)).alloc (.cells #[.slice zo sn zc, .slice fo en fc] 25) = W at HT ⊢
  have c0 : W.cell? ⟨w.heap.size, 0, none⟩ = some (.slice so sn sc) := HT.out.1.c0
  have c1 : W.cell? ⟨w.heap.size, 1, none⟩ = some (.slice eo en ec) := HT.out.1.c1
  have g0 : W.cell? ⟨w.heap.size + 1, 0, none⟩ = some (.slice zo sn zc) := HT.out.2.1.c0
  have g1 : W.cell? ⟨w.heap.size + 1, 1, none⟩ = some (.slice fo en fc) := HT.out.2.1.c1
  have q1 : ((sn : Int) != (sn : Int)) = false := by simp
  have q2 : ((en : Int) != (en : Int)) = false := by simp
  go_wp2_with fail
  clear q1 q2
  go_loopw [5] (fun i wr => ∃ q : Nat, q ≤ sn ∧ i = .int .i64 q ∧ Hid (h.s.take q = k.s.take q) ∧ ∃ nd, wr = W.drewN nd) (fun i _ => sn - (intOf i).toNat)
  case atStart => exact ⟨0, Nat.zero_le _, rfl, by simp [Hid], 0, rfl⟩
  case round =>
    obtain ⟨q, hq, rfl, HTk, nd, rfl⟩ := hrel
    by_cases hlt : q < sn
    · have i1 : (0 : Int) ≤ (q : Int) := by omega
      have i2 : (q : Int) < (sn : Int) := by omega
      obtain ⟨a, ea, ca⟩ := atS_of (HX.out.below HT.out.2.2).s.row q (by have := HN1.out; omega)
      obtain rfl : so = some a := ea
      obtain ⟨b, eb, cb⟩ := atS_of (HZ.out.below HT.out.2.2).s.row q (by have := HN2.out; omega)
      obtain rfl : zo = some b := eb
      obtain ⟨x, hx⟩ : ∃ x, h.s.getD q s0 = x := ⟨_, rfl⟩
      obtain ⟨y, hy⟩ : ∃ y, k.s.getD q s0 = y := ⟨_, rfl⟩
      rw [hx] at ca
      rw [hy] at cb
      have HXx := hid hx
      have HYy := hid hy
      clear hx hy
      obtain ⟨k0, k1, k2, k3, k4, k5, k6, k7, k8, k9, k10, k11, k12, k13, k14⟩ := ca
      obtain ⟨l0, l1, l2, l3, l4, l5, l6, l7, l8, l9, l10, l11, l12, l13, l14⟩ := cb
      have he : ∀ W, (Op.equalIn 10000 50 (.agg #[.int .i64 x.co, .int .i64 x.c.k, .int .u64 x.c.a, .int .u64 x.c.b, .int .i64 x.c.r, .int .i64 x.c.g, .int .i64 x.c.t, .int .i64 x.c.s, .int .i64 x.c.v, .int .i64 x.st, .int .i64 x.en, .int .i64 x.r.e, .int .i64 x.r.v, .int .i64 x.r.b, .bool x.r.t]) (.agg #[.int .i64 y.co, .int .i64 y.c.k, .int .u64 y.c.a, .int .u64 y.c.b, .int .i64 y.c.r, .int .i64 y.c.g, .int .i64 y.c.t, .int .i64 y.c.s, .int .i64 y.c.v, .int .i64 y.st, .int .i64 y.en, .int .i64 y.r.e, .int .i64 y.r.v, .int .i64 y.r.b, .bool y.r.t])).run Try.prog W = .ok (eqS x y) W := fun W => eqs_run 9997 x y W
      by_cases hxy : x = y
      · rw [eqS_iff.2 hxy] at he
        have HXY := hid hxy
        clear hxy
        go_wp2_with fail
        go_quiet (fail)
        go_wp2_with fail
        go_roundw
        case rel => exact ⟨q + 1, by omega, by go_num, by rw [take_snoc h.s s0 q (by have := HN1.out; omega), take_snoc k.s s0 q (by have := HN2.out; omega), HTk.out, HXx.out, HYy.out, HXY.out]; exact rfl, _, rfl⟩
        case measure => simp [intOf]; omega
      · rw [eqS_not.2 hxy] at he
        have HXY := hid hxy
        clear hxy
        go_wp2_with fail
        go_quiet (fail)
        go_wp2_with fail
        go_ret
        exact ⟨ret_bool (eqH_not.2 (fun e => HXY.out (by rw [← HXx.out, ← HYy.out, e]))).symm, (by rw [drewN_add]; exact q_trans HT.out.2.2 (drewN_below _ _))⟩
    · obtain rfl : sn = q := by omega
      have HSS : Hid (h.s = k.s) := take_full (HN1.out.symm.trans HN2.out) (by rw [← HN1.out]; exact HTk.out)
      have HT2 : Hid (Hb (W.drewN nd) w.heap.size ⟨⟨so, sn, sc⟩, ⟨eo, en, ec⟩⟩ ∧ Hb (W.drewN nd) (w.heap.size + 1) ⟨⟨zo, sn, zc⟩, ⟨fo, en, fc⟩⟩ ∧ Below w.heap.size w (W.drewN nd)) := ⟨HT.out.1.below (drewN_below _ _), HT.out.2.1.below (drewN_below _ _), q_trans HT.out.2.2 (drewN_below _ _)⟩
      go_wp2_with fail
      clear HT c0 c1 g0 g1 HTk
      generalize W.drewN nd = V at HT2 ⊢
      go_loopw [6] (fun i wr => ∃ q : Nat, q ≤ en ∧ i = .int .i64 q ∧ Hid (h.e.take q = k.e.take q) ∧ Hid (Below V.heap.size V wr)) (fun i _ => en - (intOf i).toNat)
      case atStart => exact ⟨0, Nat.zero_le _, rfl, by simp [Hid], Below.refl _ _⟩
      case round =>
        obtain ⟨q, hq, rfl, HTk, HL⟩ := hrel
        have c1 : wr.cell? ⟨w.heap.size, 1, none⟩ = some (.slice eo en ec) := (HT2.out.1.below HL.out).c1
        have c0 : wr.cell? ⟨w.heap.size, 0, none⟩ = some (.slice so sn sc) := (HT2.out.1.below HL.out).c0
        have HB := hid (q_trans HT2.out.2.2 HL.out)
        by_cases hlt : q < en
        · have i1 : (0 : Int) ≤ (q : Int) := by omega
          have i2 : (q : Int) < (en : Int) := by omega
          obtain ⟨xs, exs, hxs⟩ := (HX.out.below HB.out).e
          obtain ⟨ys, eys, hys⟩ := (HZ.out.below HB.out).e
          have hqx : q < xs.length := by have h9 := HN3.out; rw [← exs, List.length_map] at h9; omega
          have hqy : q < ys.length := by have h9 := HN4.out; rw [← eys, List.length_map] at h9; omega
          obtain ⟨a, ea, ca⟩ := atE_of hxs.has.row q hqx
          obtain rfl : eo = some a := ea
          obtain ⟨b, eb, cb⟩ := atE_of hys.has.row q hqy
          obtain rfl : fo = some b := eb
          have HX1 := hid (hxs.one hqx)
          have HY1 := hid (hys.one hqy)
          have hd1 : (xs.getD q (e0, nilH)).2.n ≤ 5000 := shortX hxs exs HD.out _ (by rw [show xs.getD q (e0, nilH) = xs[q] from by simp [List.getD, hqx]]; exact List.getElem_mem hqx)
          have HEA : Hid (E h.e q = (xs.getD q (e0, nilH)).1) := by unfold Hid; rw [← exs, E_map hqx]
          have HEB : Hid (E k.e q = (ys.getD q (e0, nilH)).1) := by unfold Hid; rw [← eys, E_map hqy]
          clear hxs hys exs eys hqx hqy
          generalize xs.getD q (e0, nilH) = x at ca HX1 HEA hd1
          generalize ys.getD q (e0, nilH) = z at cb HY1 HEB
          clear xs ys
          obtain ⟨e, u⟩ := x
          obtain ⟨f, v⟩ := z
          replace HEA : Hid (E h.e q = e) := HEA
          replace HEB : Hid (E k.e q = f) := HEB
          have hS : SEv w.heap.size (w.heap.size + 1) ⟨some a, en, ec⟩ ⟨some b, en, fc⟩ (a.add (q * 12)) (b.add (q * 12)) (e, u) (f, v) wr := sev_of (HT2.out.1.below HL.out) (HT2.out.2.1.below HL.out) ca cb
          go_upto_region 11 with fail
          clear c0 c1 ca cb
          go_cut [7, 8] from 43 to 93 (fun s t wx => ∃ b1 b2 : Nat, s = .pointer (some ⟨b1, 0, none⟩) ∧ t = .pointer (some ⟨b2, 0, none⟩) ∧ Hid (Eb wx b1 (e, u) ∧ Eb wx b2 (f, v) ∧ Below wr.heap.size wr wx))
          case first =>
            go_region_held3 (SEv w.heap.size (w.heap.size + 1) ⟨some a, en, ec⟩ ⟨some b, en, fc⟩ (a.add (q * 12)) (b.add (q * 12)) (e, u) (f, v)) ((refine sev_keep hS ?_; repeat' (first | with_reducible exact (Below.refl _ wr).drew | with_reducible exact Below.refl _ _ | with_reducible refine Below.drew ?_ | with_reducible refine q_alloc ?_ _ | with_reducible refine q_set ?_ (by dsimp only; omega) _))) (fail)
            all_goals (try go_wp2_with fail)
            all_goals go_meet
            all_goals
              first
                | with_reducible exact ⟨_, _, rfl, rfl, hid (eb_two (e, u) (f, v))⟩
                | with_reducible exact ⟨_, _, rfl, rfl, hid (eb_drew (eb_two (e, u) (f, v)))⟩
                | with_reducible exact ⟨_, _, rfl, rfl, hid (eb_swap (eb_two (f, v) (e, u)))⟩
                | with_reducible exact ⟨_, _, rfl, rfl, hid (eb_drew (eb_swap (eb_two (f, v) (e, u))))⟩
                | fail
          case rest =>
            obtain ⟨b1, b2, rfl, rfl, HE2⟩ := hcut
            have HB2 := hid (q_trans HB.out HE2.out.2.2)
            have HL2 := hid (q_trans HL.out HE2.out.2.2)
            have HK := hid (dones_any u v e.l f.l wc hd1 (HX1.out.below HE2.out.2.2) (HY1.out.below HE2.out.2.2))
            have he9 : ∀ W, (Op.equalIn 10000 28 (.agg #[.int .i64 e.c.k, .int .u64 e.c.a, .int .u64 e.c.b, .int .i64 e.c.r, .int .i64 e.c.g, .int .i64 e.c.t, .int .i64 e.c.s, .int .i64 e.c.v]) (.agg #[.int .i64 f.c.k, .int .u64 f.c.a, .int .u64 f.c.b, .int .i64 f.c.r, .int .i64 f.c.g, .int .i64 f.c.t, .int .i64 f.c.s, .int .i64 f.c.v])).run Try.prog W = .ok (eqC e.c f.c) W := fun W => eqc_run 9998 e.c f.c W
            obtain ⟨c0, c1, c2, c3, c4, c5, c6, c7, c8, c9, c10, c11⟩ := HE2.out.1.at
            obtain ⟨g0, g1, g2, g3, g4, g5, g6, g7, g8, g9, g10, g11⟩ := HE2.out.2.1.at
            dsimp only at c0 c1 c2 c3 c4 c5 c6 c7 c8 c9 c10 c11 g0 g1 g2 g3 g4 g5 g6 g7 g8 g9 g10 g11
            clear hS HE2
            cases h1 : (e.k == f.k) with
            | false =>
              have h1b : (e.k != f.k) = true := by simp [bne, h1]
              have HN5 : Hid (¬ e = f) := eqE_not.1 (by simp only [eqE, h1, Bool.false_and])
              go_wp2_with fail
              go_ret
              exact ⟨ret_bool (eqH_not.2 (fun g => HN5.out (by rw [← HEA.out, ← HEB.out, g]))).symm, HB2.out⟩
            | true =>
              have h1b : (e.k != f.k) = false := by simp [bne, h1]
              cases h2 : (e.co == f.co) with
              | false =>
                have h2b : (e.co != f.co) = true := by simp [bne, h2]
                have HN5 : Hid (¬ e = f) := eqE_not.1 (by simp only [eqE, h2, Bool.false_and, Bool.and_false])
                go_wp2_with fail
                go_ret
                exact ⟨ret_bool (eqH_not.2 (fun g => HN5.out (by rw [← HEA.out, ← HEB.out, g]))).symm, HB2.out⟩
              | true =>
                have h2b : (e.co != f.co) = false := by simp [bne, h2]
                cases h3 : eqC e.c f.c with
                | false =>
                  rw [h3] at he9
                  have HN5 : Hid (¬ e = f) := eqE_not.1 (by simp only [eqE, h3, Bool.false_and, Bool.and_false])
                  go_wp2_with fail
                  go_ret
                  exact ⟨ret_bool (eqH_not.2 (fun g => HN5.out (by rw [← HEA.out, ← HEB.out, g]))).symm, HB2.out⟩
                | true =>
                  rw [h3] at he9
                  cases h4 : (e.sp == f.sp) with
                  | false =>
                    have h4b : (e.sp != f.sp) = true := by simp [bne, h4]
                    have HN5 : Hid (¬ e = f) := eqE_not.1 (by simp only [eqE, h4, Bool.false_and, Bool.and_false])
                    go_wp2_with fail
                    go_ret
                    exact ⟨ret_bool (eqH_not.2 (fun g => HN5.out (by rw [← HEA.out, ← HEB.out, g]))).symm, HB2.out⟩
                  | true =>
                    have h4b : (e.sp != f.sp) = false := by simp [bne, h4]
                    cases h5 : eqDs e.l f.l with
                    | false =>
                      rw [h5] at HK
                      have HN5 : Hid (¬ e = f) := eqE_not.1 (by simp only [eqE, h5, Bool.and_false])
                      clear h1 h2 h3 h4 h5
                      go_wp2_with (go_at_call 29; refine HK.out.mono ?_; rintro e9 w9 ⟨rfl, b9⟩)
                      go_ret
                      exact ⟨ret_bool (eqH_not.2 (fun g => HN5.out (by rw [← HEA.out, ← HEB.out, g]))).symm, q_trans HB2.out b9⟩
                    | true =>
                      rw [h5] at HK
                      have HE5 : Hid (e = f) := eqE_iff.1 (by simp only [eqE, h1, h2, h3, h4, h5, Bool.and_true])
                      clear h1 h2 h3 h4 h5
                      go_wp2_with (go_at_call 29; refine HK.out.mono ?_; rintro e9 w9 ⟨rfl, b9⟩)
                      go_roundw
                      case rel => exact ⟨q + 1, by omega, by go_num, (by have h1 : h.e.getD q e0 = e := HEA.out; have h2 : k.e.getD q e0 = f := HEB.out; rw [take_snoc h.e e0 q (by have := HN3.out; omega), take_snoc k.e e0 q (by have := HN4.out; omega), HTk.out, h1, h2, HE5.out]; exact rfl), hid (q_trans HL2.out b9)⟩
                      case measure => simp [intOf]; omega
        · obtain rfl : en = q := by omega
          have HEE : Hid (h.e = k.e) := take_full (HN3.out.symm.trans HN4.out) (by rw [← HN3.out]; exact HTk.out)
          have HR : Hid (eqH h k = true) := eqH_iff.2 (by cases h; cases k; have h1 := HSS.out; have h2 := HEE.out; simp only at h1 h2; rw [h1, h2])
          go_wp2_with fail
          go_ret
          exact ⟨ret_bool HR.out.symm, HB.out⟩
/-- Same, the document's: WHETHER TWO HISTORIES ARE THE SAME. -/
theorem rsame_any (x z : Hh) (h k : Hs) (w : World) (hs : x.s.n ≤ 5000) (he : x.e.n ≤ 5000) (hd : ShortE h.e) (HX : Hid (HasH w x h)) (HZ : Hid (HasH w z k)) :
    Calls Try.prog 14 #[(.agg #[.slice x.s.o x.s.n x.s.c, .slice x.e.o x.e.n x.e.c]), (.agg #[.slice z.s.o z.s.n z.s.c, .slice z.e.o z.e.n z.e.c])] w fun e w' => e = .returned (.bool (eqH h k)) ∧ Below w.heap.size w w' := by
  by_cases h1 : x.s.n = z.s.n
  · by_cases h2 : x.e.n = z.e.n
    · exact rsame_in x.s.o z.s.o x.s.n z.s.n x.s.c z.s.c x.e.o z.e.o x.e.n z.e.n x.e.c z.e.c h k w hs he h1 h2 hd HX HZ
    · have HR : Hid (eqH h k = false) := eqH_not.2 (fun e => h2 (by rw [HX.out.e.len, HZ.out.e.len, e]))
      have q1 : ((x.s.n : Int) != (z.s.n : Int)) = false := by simp; omega
      have q2 : ((x.e.n : Int) != (z.e.n : Int)) = true := by simp; omega
      clear h1 h2
      go_enter Try.func14, Try.ntmps14
      go_upto_region 1 with fail
      have HT := hid (two_hi w x z)
      generalize (w.alloc (.cells #[.slice x.s.o x.s.n x.s.c, .slice x.e.o x.e.n x.e.c] 25)).alloc (.cells #[.slice z.s.o z.s.n z.s.c, .slice z.e.o z.e.n z.e.c] 25) = W at HT ⊢
      have c0 := HT.out.1.c0
      have c1 := HT.out.1.c1
      have g0 := HT.out.2.1.c0
      have g1 := HT.out.2.1.c1
      go_wp2_with fail
      go_ret
      exact ⟨ret_bool HR.out.symm, HT.out.2.2⟩
  · have HR : Hid (eqH h k = false) := eqH_not.2 (fun e => h1 (by rw [HX.out.s.len, HZ.out.s.len, e]))
    have q1 : ((x.s.n : Int) != (z.s.n : Int)) = true := by simp; omega
    clear h1
    go_enter Try.func14, Try.ntmps14
    go_upto_region 1 with fail
    have HT := hid (two_hi w x z)
    generalize (w.alloc (.cells #[.slice x.s.o x.s.n x.s.c, .slice x.e.o x.e.n x.e.c] 25)).alloc (.cells #[.slice z.s.o z.s.n z.s.c, .slice z.e.o z.e.n z.e.c] 25) = W at HT ⊢
    have c0 := HT.out.1.c0
    have c1 := HT.out.1.c1
    have g0 := HT.out.2.1.c0
    have g1 := HT.out.2.1.c1
    go_wp2_with fail
    go_ret
    exact ⟨ret_bool HR.out.symm, HT.out.2.2⟩
end Go.Proofs.Ytmnkbkhfonngeaa.Hi
