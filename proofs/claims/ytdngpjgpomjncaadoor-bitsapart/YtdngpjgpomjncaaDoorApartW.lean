/- The walk of BitsApart: it answers true. -/
import Derived.Test.YtdngpjgpomjncaaDoorBackM
namespace Go.Proofs.YtdngpjgpomjncaaDoor
open Go.RowKit

theorem apart_bits {a n b k : Nat} (h : maskN a n &&& maskN b k = 0) (i : Nat) : ¬ ((a ≤ i ∧ i < a + n) ∧ (b ≤ i ∧ i < b + k)) := by
  intro hc
  have := congrArg (fun x => x.testBit i) h
  simp [Nat.testBit_and, mask_bit, hc.1.1, hc.1.2, hc.2.1, hc.2.2] at this
theorem put_swap (w a n v b k u : Nat) (hw : w < 18446744073709551616) (hv : v ≤ 2 ^ n - 1) (hu : u ≤ 2 ^ k - 1) (h1 : a + n ≤ 64) (h2 : b + k ≤ 64) (h : maskN a n &&& maskN b k = 0) :
    putN (putN w a n v) b k u = putN (putN w b k u) a n v := by
  apply Nat.eq_of_testBit_eq
  intro i
  have hd := apart_bits h i
  rw [put_bit _ b k u i (putN_lt w a n v hw hv h1) hu h2, put_bit _ a n v i (putN_lt w b k u hw hu h2) hv h1, put_bit w a n v i hw hv h1, put_bit w b k u i hw hu h2]
  by_cases ha : a ≤ i ∧ i < a + n
  · have hb : ¬ (b ≤ i ∧ i < b + k) := fun hb => hd ⟨ha, hb⟩
    rw [if_neg hb, if_pos ha, if_pos ha]
  · rw [if_neg ha, if_neg ha]
set_option maxRecDepth 100000 in
set_option maxHeartbeats 2000000 in
theorem apart_share (x a n v b k u m1 m2 : Int) (w : World) (HD : Hid (Dig w))
    (H1 : Hid (∀ W : World, Calls Tryd.prog 13 #[.int .i64 a, .int .i64 n] W fun e w' => e = .returned (.int .u64 m1) ∧ w' = W))
    (H2 : Hid (∀ W : World, Calls Tryd.prog 13 #[.int .i64 b, .int .i64 k] W fun e w' => e = .returned (.int .u64 m2) ∧ w' = W))
    (hm : (bits .and .u64 m1 m2 != 0) = true) :
    Calls Tryd.prog 7 #[.int .u64 x, .int .i64 a, .int .i64 n, .int .u64 v, .int .i64 b, .int .i64 k, .int .u64 u] w fun e w' => e = .returned (.bool true) ∧ Below w.heap.size w w' := by
  go_enter Tryd.func7, Tryd.ntmps7
  go_wp2_with fail
  refine (H1.out _).mono ?_
  rintro e w1 ⟨rfl, rfl⟩
  go_wp2_with fail
  refine (H2.out _).mono ?_
  rintro e w2 ⟨rfl, rfl⟩
  go_wp2_with (go_at_call 16; refine (live_any _ HD.out).mono ?_; rintro e w6 ⟨rfl, b6⟩)
  go_ret
  exact ⟨rfl, b6⟩

set_option maxRecDepth 100000 in
set_option maxHeartbeats 2000000 in
theorem apart_err (x a n v b k u m1 m2 p1 p2 p3 p4 e1 e2 : Int) (w : World) (HD : Hid (Dig w))
    (H1 : Hid (∀ W : World, Calls Tryd.prog 13 #[.int .i64 a, .int .i64 n] W fun e w' => e = .returned (.int .u64 m1) ∧ w' = W))
    (H2 : Hid (∀ W : World, Calls Tryd.prog 13 #[.int .i64 b, .int .i64 k] W fun e w' => e = .returned (.int .u64 m2) ∧ w' = W))
    (hm : (bits .and .u64 m1 m2 != 0) = false)
    (H3 : Hid (∀ W : World, Calls Tryd.prog 9 #[.int .u64 x, .int .i64 a, .int .i64 n, .int .u64 v] W fun e w' => e = .returned (.tuple #[.int .u64 p1, .int .i64 e1]) ∧ Below W.heap.size W w'))
    (H4 : Hid (∀ W : World, Calls Tryd.prog 9 #[.int .u64 p1, .int .i64 b, .int .i64 k, .int .u64 u] W fun e w' => e = .returned (.tuple #[.int .u64 p2, .int .i64 e2]) ∧ Below W.heap.size W w'))
    (H5 : Hid (∀ W : World, Calls Tryd.prog 9 #[.int .u64 x, .int .i64 b, .int .i64 k, .int .u64 u] W fun e w' => e = .returned (.tuple #[.int .u64 p3, .int .i64 e2]) ∧ Below W.heap.size W w'))
    (H6 : Hid (∀ W : World, Calls Tryd.prog 9 #[.int .u64 p3, .int .i64 a, .int .i64 n, .int .u64 v] W fun e w' => e = .returned (.tuple #[.int .u64 p4, .int .i64 e1]) ∧ Below W.heap.size W w'))
    (b1 : 0 ≤ e1) (b2 : e1 ≤ 10) (b3 : 0 ≤ e2) (b4 : e2 ≤ 10) (he : (e1 + e2 + e2 + e1 != 0) = true) :
    Calls Tryd.prog 7 #[.int .u64 x, .int .i64 a, .int .i64 n, .int .u64 v, .int .i64 b, .int .i64 k, .int .u64 u] w fun e w' => e = .returned (.bool true) ∧ Below w.heap.size w w' := by
  go_enter Tryd.func7, Tryd.ntmps7
  go_wp2_with fail
  refine (H1.out _).mono ?_
  rintro e w1 ⟨rfl, rfl⟩
  go_wp2_with fail
  refine (H2.out _).mono ?_
  rintro e w2 ⟨rfl, rfl⟩
  go_wp2_with fail
  refine (H3.out _).mono ?_
  rintro e w1 ⟨rfl, c1⟩
  go_wp2_with fail
  refine (H4.out _).mono ?_
  rintro e w2 ⟨rfl, c2⟩
  replace c2 := q_trans c1 c2
  go_wp2_with fail
  refine (H5.out _).mono ?_
  rintro e w3 ⟨rfl, c3⟩
  replace c3 := q_trans c2 c3
  go_wp2_with fail
  refine (H6.out _).mono ?_
  rintro e w4 ⟨rfl, c4⟩
  replace c4 := q_trans c3 c4
  clear c1 c2 c3
  go_wp2_with (first | (go_at_call 15; refine (num_any _ _).mono ?_; rintro e w5 ⟨rfl, rfl⟩) | (go_at_call 16; refine (live_any _ (HD.out.below c4)).mono ?_; rintro e w6 ⟨rfl, b6⟩; replace b6 := q_trans c4 b6))
  go_ret
  exact ⟨rfl, b6⟩

set_option maxRecDepth 100000 in
set_option maxHeartbeats 2000000 in
theorem apart_yes (x a n v b k u m1 m2 p1 p2 p3 : Int) (w : World) (HD : Hid (Dig w))
    (H1 : Hid (∀ W : World, Calls Tryd.prog 13 #[.int .i64 a, .int .i64 n] W fun e w' => e = .returned (.int .u64 m1) ∧ w' = W))
    (H2 : Hid (∀ W : World, Calls Tryd.prog 13 #[.int .i64 b, .int .i64 k] W fun e w' => e = .returned (.int .u64 m2) ∧ w' = W))
    (hm : (bits .and .u64 m1 m2 != 0) = false)
    (H3 : Hid (∀ W : World, Calls Tryd.prog 9 #[.int .u64 x, .int .i64 a, .int .i64 n, .int .u64 v] W fun e w' => e = .returned (.tuple #[.int .u64 p1, .int .i64 0]) ∧ Below W.heap.size W w'))
    (H4 : Hid (∀ W : World, Calls Tryd.prog 9 #[.int .u64 p1, .int .i64 b, .int .i64 k, .int .u64 u] W fun e w' => e = .returned (.tuple #[.int .u64 p2, .int .i64 0]) ∧ Below W.heap.size W w'))
    (H5 : Hid (∀ W : World, Calls Tryd.prog 9 #[.int .u64 x, .int .i64 b, .int .i64 k, .int .u64 u] W fun e w' => e = .returned (.tuple #[.int .u64 p3, .int .i64 0]) ∧ Below W.heap.size W w'))
    (H6 : Hid (∀ W : World, Calls Tryd.prog 9 #[.int .u64 p3, .int .i64 a, .int .i64 n, .int .u64 v] W fun e w' => e = .returned (.tuple #[.int .u64 p2, .int .i64 0]) ∧ Below W.heap.size W w'))
    (H7 : Hid (∀ W : World, Calls Tryd.prog 11 #[.int .u64 p2, .int .i64 a, .int .i64 n] W fun e w' => e = .returned (.int .u64 v) ∧ w' = W))
    (H8 : Hid (∀ W : World, Calls Tryd.prog 11 #[.int .u64 p2, .int .i64 b, .int .i64 k] W fun e w' => e = .returned (.int .u64 u) ∧ w' = W)) :
    Calls Tryd.prog 7 #[.int .u64 x, .int .i64 a, .int .i64 n, .int .u64 v, .int .i64 b, .int .i64 k, .int .u64 u] w fun e w' => e = .returned (.bool true) ∧ Below w.heap.size w w' := by
  go_enter Tryd.func7, Tryd.ntmps7
  go_wp2_with fail
  refine (H1.out _).mono ?_
  rintro e w1 ⟨rfl, rfl⟩
  go_wp2_with fail
  refine (H2.out _).mono ?_
  rintro e w2 ⟨rfl, rfl⟩
  go_wp2_with fail
  refine (H3.out _).mono ?_
  rintro e w1 ⟨rfl, c1⟩
  go_wp2_with fail
  refine (H4.out _).mono ?_
  rintro e w2 ⟨rfl, c2⟩
  replace c2 := q_trans c1 c2
  go_wp2_with fail
  refine (H5.out _).mono ?_
  rintro e w3 ⟨rfl, c3⟩
  replace c3 := q_trans c2 c3
  go_wp2_with fail
  refine (H6.out _).mono ?_
  rintro e w4 ⟨rfl, c4⟩
  replace c4 := q_trans c3 c4
  clear c1 c2 c3
  go_wp2_with (go_at_call 15; refine (num_any _ _).mono ?_; rintro e w5 ⟨rfl, rfl⟩)
  refine (H7.out _).mono ?_
  rintro e w5 ⟨rfl, rfl⟩
  go_wp2_with fail
  refine (H8.out _).mono ?_
  rintro e w5 ⟨rfl, rfl⟩
  go_wp2_with (go_at_call 16; refine (live_any _ (HD.out.below c4)).mono ?_; rintro e w6 ⟨rfl, b6⟩; replace b6 := q_trans c4 b6)
  go_ret
  exact ⟨rfl, b6⟩

theorem putE_range (a n v : Int) : 0 ≤ putE a n v ∧ putE a n v ≤ 10 := by
  unfold putE
  split
  · split <;> omega
  · omega

theorem apart_any (x a n v b k u : Int) (w : World) (hx : U64 x) (hv : U64 v) (hu : U64 u) (hD : Dig w) :
    Calls Tryd.prog 7 #[.int .u64 x, .int .i64 a, .int .i64 n, .int .u64 v, .int .i64 b, .int .i64 k, .int .u64 u] w fun e w' => e = .returned (.bool true) ∧ Below w.heap.size w w' := by
  by_cases hm : bits .and .u64 (maskT a n) (maskT b k) = 0
  · have hm' : (bits .and .u64 (maskT a n) (maskT b k) != 0) = false := by rw [bne_eq_false_iff_eq]; exact hm
    by_cases he : putE a n v = 0 ∧ putE b k u = 0
    · obtain ⟨he1, he2⟩ := he
      obtain ⟨f1, g1⟩ := putE_zero he1
      obtain ⟨f2, g2⟩ := putE_zero he2
      have hd : maskN a.toNat n.toNat &&& maskN b.toNat k.toNat = 0 := by
        rw [maskT_yes f1, maskT_yes f2, u64_and_nat _ _ (maskN_lt _ _ (fld_le f1)) (maskN_lt _ _ (fld_le f2))] at hm
        exact Int.ofNat.inj hm
      have hs : putT (putT x b k u) a n v = putT (putT x a n v) b k u := by
        rw [putT_ok f1 g1, putT_ok f2 g2, putT_ok f2 g2, putT_ok f1 g1, Int.toNat_natCast, Int.toNat_natCast,
          put_swap _ _ _ _ _ _ _ (u64_nat hx) (fits_le hv.1 g1) (fits_le hu.1 g2) (fld_le f1) (fld_le f2) hd]
      have hg : getT (putT (putT x a n v) b k u) a n = v := by
        rw [← hs]; exact getT_put (putT_u64 hx hu) hv he1
      refine apart_yes x a n v b k u (maskT a n) (maskT b k) (putT x a n v) (putT (putT x a n v) b k u) (putT x b k u) w hD (fun W => mask_any a n W) (fun W => mask_any b k W) hm' (fun W => ?_) (fun W => ?_) (fun W => ?_) (fun W => ?_) (fun W => ?_) (fun W => ?_)
      · have h := put_any x a n v W hx hv
        rw [he1] at h; exact h
      · have h := put_any (putT x a n v) b k u W (putT_u64 hx hv) hu
        rw [he2] at h; exact h
      · have h := put_any x b k u W hx hu
        rw [he2] at h; exact h
      · have h := put_any (putT x b k u) a n v W (putT_u64 hx hu) hv
        rw [he1, hs] at h; exact h
      · have h := get_any (putT (putT x a n v) b k u) a n W (putT_u64 (putT_u64 hx hv) hu)
        rw [hg] at h; exact h
      · have h := get_any (putT (putT x a n v) b k u) b k W (putT_u64 (putT_u64 hx hv) hu)
        rw [getT_put (putT_u64 hx hv) hu he2] at h; exact h
    · have r1 := putE_range a n v
      have r2 := putE_range b k u
      exact apart_err x a n v b k u (maskT a n) (maskT b k) (putT x a n v) (putT (putT x a n v) b k u) (putT x b k u) (putT (putT x b k u) a n v) (putE a n v) (putE b k u) w hD (fun W => mask_any a n W) (fun W => mask_any b k W) hm'
        (fun W => put_any x a n v W hx hv) (fun W => put_any _ b k u W (putT_u64 hx hv) hu) (fun W => put_any x b k u W hx hu) (fun W => put_any _ a n v W (putT_u64 hx hu) hv) r1.1 r1.2 r2.1 r2.2 (by rw [bne_iff_ne]; omega)
  · exact apart_share x a n v b k u (maskT a n) (maskT b k) w hD (fun W => mask_any a n W) (fun W => mask_any b k W) (by rw [bne_iff_ne]; exact hm)
end Go.Proofs.YtdngpjgpomjncaaDoor
