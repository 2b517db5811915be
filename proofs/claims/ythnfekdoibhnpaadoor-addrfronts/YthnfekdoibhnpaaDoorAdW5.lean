/- What the program's Get does. -/
import Derived.Test.YthnfekdoibhnpaaDoorAdW4
namespace Go.Proofs.YthnfekdoibhnpaaDoor.Ad
open Go.RowKit
open Cp (K)

set_option maxRecDepth 100000 in
set_option maxHeartbeats 2000000 in
theorem pGet_yes (a : Addr) (x : Option Addr) (n cap c o s : Nat) (t : List (List K)) (w : World) (HH : Hid (HasN w (some a) n cap t)) (h2 : o < n) (h5 : s < 8) (i2 : (o : Int) < (n : Int)) (i5 : (s : Int) < 8)
    (HS : Hid (slB t ((o : Int), (s : Int)) = true)) (hc : ((w.alloc (.cells #[.int .i64 o, .int .i64 s] 43)).alloc (.cells #[.int .i64 0, .int .i64 0, .int .i64 0, .int .i64 0, .int .i64 0] 41)).cell? (a.add o) = some (.slice x 8 c))
    (hk : HasK ((w.alloc (.cells #[.int .i64 o, .int .i64 s] 43)).alloc (.cells #[.int .i64 0, .int .i64 0, .int .i64 0, .int .i64 0, .int .i64 0] 41)) x 8 c (t.getD o [])) :
    Calls Tryd.prog 21 #[.slice (some a) n cap, .agg #[.int .i64 o, .int .i64 s]] w fun e w' => e = .returned (.tuple #[(.agg #[.int .i64 (getC t ((o : Int), (s : Int))).t, .int .i64 (getC t ((o : Int), (s : Int))).r, .int .i64 (getC t ((o : Int), (s : Int))).b, .int .i64 (getC t ((o : Int), (s : Int))).o, .int .i64 (getC t ((o : Int), (s : Int))).g]), .bool (slB t ((o : Int), (s : Int)))]) ∧ Below w.heap.size w w' := by
  obtain ⟨b, rfl, ck⟩ := hk.at s h5
  generalize hd : (t.getD o []).getD s K.zero = d at ck
  have HD : Hid (getC t ((o : Int), (s : Int)) = d) := by unfold Hid; rw [getC_yes HS.out, ← hd]; rfl
  obtain ⟨c0, c1, c2, c3, c4⟩ := ck
  have HLa : Hid (a.block < w.heap.size) := by
    obtain ⟨a2, x2, m2, c2, e2, hc2, _⟩ := HH.out.cell o h2
    cases e2
    have := World.block_lt_of_cell? w _ hc2
    rwa [add_block] at this
  have HLb : Hid (b.block < w.heap.size) := by
    obtain ⟨a2, x2, m2, c2, e2, hc2, hk2⟩ := HH.out.cell o h2
    cases e2
    have hw2 := ((q_alloc (alloc_below w (.cells #[.int .i64 o, .int .i64 s] 43)) (.cells #[.int .i64 0, .int .i64 0, .int .i64 0, .int .i64 0, .int .i64 0] 41)).cell (World.block_lt_of_cell? w _ hc2)).trans hc2
    rw [hc] at hw2
    cases hw2
    obtain ⟨b2, e2, ck2⟩ := hk2.at s h5
    cases e2
    have := ck2.lt
    rwa [add_block] at this
  have A0 := hid (at_two w o s 41 43 K.zero)
  have A1 : Hid (Bk ((w.alloc (.cells #[.int .i64 o, .int .i64 s] 43)).alloc (.cells #[.int .i64 0, .int .i64 0, .int .i64 0, .int .i64 0, .int .i64 0] 41)) (w.heap.size + 1) K.zero) := bk_two w o s 41 43 K.zero
  have B0 := hid (q_alloc (alloc_below w (.cells #[.int .i64 o, .int .i64 s] 43)) (.cells #[.int .i64 0, .int .i64 0, .int .i64 0, .int .i64 0, .int .i64 0] 41))
  have HN := hid (HH.out.below B0.out)
  have HQ : Hid (ndB t (o : Int) = true) := (sl_nd.1 HS.out).1
  clear hd hk
  go_enter Tryd.func21, Tryd.ntmps21
  go_wp2_with fail
  refine (isNode_any _ n cap t (o : Int) _ HN).mono ?_
  rintro e w1 ⟨rfl, hw⟩
  rw [hw, HQ.out]; clear hw w1 HN
  go_wp2_with fail
  have hS : SG w.heap.size o s (a.add o) (.slice (some b) 8 c) (b.add (s * 5)) d ((w.alloc (.cells #[.int .i64 o, .int .i64 s] 43)).alloc (.cells #[.int .i64 0, .int .i64 0, .int .i64 0, .int .i64 0, .int .i64 0] 41)) := ⟨A0.out.c0, A0.out.c1, hc, c0, c1, c2, c3, c4⟩
  obtain ⟨r0, r1, r2, r3, r4, f0, f1, f2, f3, f4⟩ := A1.out
  have n1 : w.heap.size ≠ w.heap.size + 1 := by omega
  have n2 : (a.add o).block ≠ w.heap.size + 1 := by rw [add_block]; have := HLa.out; omega
  have n3 : (b.add (s * 5)).block ≠ w.heap.size + 1 := by rw [add_block]; have := HLb.out; omega
  replace n1 := hid n1
  replace n2 := hid n2
  replace n3 := hid n3
  clear hc c0 c1 c2 c3 c4 A0 A1
  generalize (w.alloc (.cells #[.int .i64 o, .int .i64 s] 43)).alloc (.cells #[.int .i64 0, .int .i64 0, .int .i64 0, .int .i64 0, .int .i64 0] 41) = W at *
  go_region_held3 (SG w.heap.size o s (a.add o) (.slice (some b) 8 c) (b.add (s * 5)) d) (first | with_reducible assumption | with_reducible exact sg_drew hS | with_reducible exact sg_drew (sg_five hS n1.out n2.out n3.out) | with_reducible exact sg_five (sg_drew hS) n1.out n2.out n3.out) (fail)
  all_goals go_wp2_with fail
  all_goals refine bodyPost_ret (v := .tuple #[(.agg #[.int .i64 d.t, .int .i64 d.r, .int .i64 d.b, .int .i64 d.o, .int .i64 d.g]), .bool true]) (by simp [results, Tryd.results21, go_sem, *]) rfl ⟨by rw [HS.out, HD.out], ?_⟩
  all_goals first | exact low5 B0.out.drew (Nat.le_succ _) | exact (low5 B0.out (Nat.le_succ _)).drew
/-- GET, OF WHATEVER SLOT. -/
theorem pGet_any (to : Option Addr) (n cap : Nat) (t : List (List K)) (k : P) (w : World) (HH : HasN w to n cap t) :
    Calls Tryd.prog 21 #[.slice to n cap, (.agg #[.int .i64 k.1, .int .i64 k.2])] w fun e w' => e = .returned (.tuple #[(.agg #[.int .i64 (getC t k).t, .int .i64 (getC t k).r, .int .i64 (getC t k).b, .int .i64 (getC t k).o, .int .i64 (getC t k).g]), .bool (slB t k)]) ∧ Below w.heap.size w w' := by
  cases h : slB t k with
  | false =>
    rw [← h]
    exact pGet_no to n cap t k w h HH
  | true =>
    rw [← h]
    obtain ⟨o, s⟩ := k
    obtain ⟨h1, h2, h3, h4, h5⟩ := slB_iff.1 h
    obtain ⟨o, rfl⟩ := Int.eq_ofNat_of_zero_le h1
    obtain ⟨s, rfl⟩ := Int.eq_ofNat_of_zero_le h4
    simp only at h2 h3 h5
    have hn : o < n := by rw [HH.len]; omega
    obtain ⟨a, x, m, c, rfl, hc, hk⟩ := (HH.below (q_alloc (alloc_below w (.cells #[.int .i64 o, .int .i64 s] 43)) (.cells #[.int .i64 0, .int .i64 0, .int .i64 0, .int .i64 0, .int .i64 0] 41))).cell o hn
    obtain rfl : m = 8 := by rw [hk.len]; simpa using h3
    exact pGet_yes a x n cap c o s t w HH hn (by omega) (by omega) (by omega) h hc hk
end Go.Proofs.YthnfekdoibhnpaaDoor.Ad
