/- What Free and Held do. -/
import Derived.Test.YtaihabkacjbfjaaGrW4
import Derived.Test.YtaihabkacjbfjaaGrCut
import Derived.Deep.Cut
namespace Go.Proofs.Ytaihabkacjbfjaa.Gr
open Go.RowKit Go.Proofs.Ytaihabkacjbfjaa.Ce

set_option maxRecDepth 100000 in
set_option maxHeartbeats 1000000 in
theorem held_at (who p t : Int) (bb : Bool) (a : Int) (k : Nat) (ao : Option Addr) (n cap : Nat) (l : List Int) (w : World) (H : Hid (Has w ao n cap l)) (hn : Hid (n ≤ 5000)) (hk : max 0 (min a (n : Int)) = (k : Int)) (HK : Hid (k ≤ n)) (h0 : (0 : Int) ≤ (k : Int)) (h1 : (k : Int) ≤ (cap : Int)) :
    Calls Try.prog 21 #[.agg #[.int .i64 who, .slice ao n cap, .int .i64 p, .int .i64 a, .int .i64 t, .bool bb]] w fun e w' => ∃ ao' cap', e = .returned (.slice ao' k cap') ∧ Mine w' w.heap.size ao' k cap' (l.take k) ∧ Below w.heap.size w w' := by
  go_enter Try.func21, Try.ntmps21
  go_wp2_with fail
  refine (clone_mine ao k cap (l.take k) _ ((H.out.take k HK.out).below (alloc_below w _)) (Nat.le_trans HK.out hn.out)).mono ?_
  rintro e w2 ⟨ao', cap', rfl, hm, b2⟩
  have HM := hid (hm.base (B' := w.heap.size) (by simp))
  have HB := hid (q_trans (alloc_below w _) b2)
  clear hm b2 hk h0 h1
  go_wp2_with fail
  go_ret
  exact ⟨ao', cap', rfl, HM.out, HB.out⟩
/-- HELD: WHAT IT HAS. -/
theorem held_any (g : G) (ao : Option Addr) (n cap : Nat) (w : World) (H : Has w ao n cap g.cs) (hn : n ≤ 5000) :
    Calls Try.prog 21 #[(.agg #[.int .i64 g.w, .slice ao n cap, .int .i64 g.p, .int .i64 g.a, .int .i64 g.t, .bool g.b])] w fun e w' => ∃ ao' m cap', e = .returned (.slice ao' m cap') ∧ Mine w' w.heap.size ao' m cap' (heldG g) ∧ Below w.heap.size w w' := by
  obtain ⟨who, l, p, a, t, bb⟩ := g
  obtain ⟨k, hk⟩ : ∃ k : Nat, max 0 (min a (n : Int)) = (k : Int) := ⟨(max 0 (min a (n : Int))).toNat, by omega⟩
  have hl : n = l.length := H.len
  have hkn : k ≤ n := by omega
  have hc := H.le
  refine (held_at who p t bb a k ao n cap l w H hn hk hkn (by omega) (by omega)).mono ?_
  rintro e w' ⟨ao', cap', rfl, hm, b⟩
  have e : heldG ⟨who, l, p, a, t, bb⟩ = l.take k := by
    unfold heldG
    simp only
    by_cases h : a.toNat ≤ n
    · rw [show a.toNat = k by omega]
    · rw [show k = n by omega, List.take_of_length_le (by omega), List.take_of_length_le (by omega)]
  rw [e]
  exact ⟨ao', k, cap', rfl, hm, b⟩
theorem aft_both {w W W' : World} {who p a t : Int} {bb : Bool} {ao : Option Addr} {n cap : Nat} {l : List Int} (h : Aft w W who p a t bb ao n cap l) (k : Kept (fun k => k = w.heap.size ∨ k = w.heap.size + 1) W W') :
    Mine W' w.heap.size ao n cap l ∧ Below w.heap.size w W' :=
  ⟨h.mine.kept k (fun i h e => by omega) (by omega), h.low.trans (k.below w.heap.size h.low.size (fun i e => by omega))⟩
set_option maxRecDepth 100000 in
set_option maxHeartbeats 1000000 in
theorem free_no (who p a t : Int) (bb : Bool) (ao : Option Addr) (n cap : Nat) (l : List Int) (w : World) (H : Hid (Has w ao n cap l)) (hn : Hid (n ≤ 5000)) (h : (p != 2) = true) :
    Calls Try.prog 18 #[.agg #[.int .i64 who, .slice ao n cap, .int .i64 p, .int .i64 a, .int .i64 t, .bool bb]] w fun e w' => ∃ ao' cap', e = .returned (.agg #[.int .i64 who, .slice ao' n cap', .int .i64 p, .int .i64 a, .int .i64 t, .bool bb]) ∧ Mine w' w.heap.size ao' n cap' l ∧ Below w.heap.size w w' := by
  go_enter Try.func18, Try.ntmps18
  go_wp2_with fail
  refine (apart_any who p a t bb ao n cap l _ ((H.out.below (alloc_below w _)).below (alloc_below _ _)) hn).mono ?_
  rintro e w2 ⟨ao', cap', rfl, hm, b2⟩
  have HA := hid (aft_of hm b2)
  obtain ⟨c0, c1, c2, c3, c4, c5, cf⟩ := ((two_new w who (.slice ao n cap) p a t bb).1).below b2
  clear hm b2 H
  go_upto_region 2 with fail
  clear c0 c1 c2 c3 c4 c5 cf
  generalize (((((w2.setCell _ _).setCell _ _).setCell _ _).setCell _ _).setCell _ _).setCell _ _ = W at HA
  have n1 : w.heap.size + 1 < W.heap.size := HA.out.res.lt
  have m1 : w.heap.size < W.heap.size := HA.out.box.lt
  obtain ⟨c0, c1, c2, c3, c4, c5, cf⟩ := HA.out.box
  obtain ⟨r0, r1, r2, r3, r4, r5, rf⟩ := HA.out.res
  go_wp2_with fail
  refine bodyPost_ret (v := .agg #[.int .i64 who, .slice ao' n cap', .int .i64 p, .int .i64 a, .int .i64 t, .bool bb]) (by simp [results, Try.results18, go_sem, r0, r1, r2, r3, r4, r5]) rfl ⟨ao', cap', rfl, ?_⟩
  exact aft_res HA.out (kept_store _ _ _ _ _ _ _ _)
set_option maxRecDepth 100000 in
set_option maxHeartbeats 1000000 in
theorem free_none (who a t : Int) (bb : Bool) (ao : Option Addr) (cap : Nat) (l : List Int) (w : World) (H : Hid (Has w ao 0 cap l)) :
    Calls Try.prog 18 #[.agg #[.int .i64 who, .slice ao 0 cap, .int .i64 2, .int .i64 a, .int .i64 t, .bool bb]] w fun e w' => ∃ ao' cap', e = .returned (.agg #[.int .i64 who, .slice ao' 0 cap', .int .i64 5, .int .i64 a, .int .i64 t, .bool bb]) ∧ Mine w' w.heap.size ao' 0 cap' l ∧ Below w.heap.size w w' := by
  go_enter Try.func18, Try.ntmps18
  go_wp2_with fail
  refine (apart_any who 2 a t bb ao 0 cap l _ ((H.out.below (alloc_below w _)).below (alloc_below _ _)) (hid (by decide))).mono ?_
  rintro e w2 ⟨ao', cap', rfl, hm, b2⟩
  have HA := hid (aft_of hm b2)
  obtain ⟨c0, c1, c2, c3, c4, c5, cf⟩ := ((two_new w who (.slice ao 0 cap) 2 a t bb).1).below b2
  clear hm b2 H
  go_upto_region 2 with fail
  clear c0 c1 c2 c3 c4 c5 cf
  generalize (((((w2.setCell _ _).setCell _ _).setCell _ _).setCell _ _).setCell _ _).setCell _ _ = W at HA
  have n1 : w.heap.size + 1 < W.heap.size := HA.out.res.lt
  have m1 : w.heap.size < W.heap.size := HA.out.box.lt
  obtain ⟨c0, c1, c2, c3, c4, c5, cf⟩ := HA.out.box
  obtain ⟨r0, r1, r2, r3, r4, r5, rf⟩ := HA.out.res
  go_wp2_with fail
  refine bodyPost_ret (v := .agg #[.int .i64 who, .slice ao' 0 cap', .int .i64 5, .int .i64 a, .int .i64 t, .bool bb]) (by simp [results, Try.results18, go_sem, r0, r1, r2, r3, r4, r5]) rfl ⟨ao', cap', rfl, ?_⟩
  refine aft_both HA.out ?_
  iterate 8 refine Kept.setCell ?_ _ _ (fun _ => by simp)
  exact Kept.refl _ _
set_option maxRecDepth 100000 in
set_option maxHeartbeats 1000000 in
theorem free_some (who a t : Int) (bb : Bool) (ao : Option Addr) (n cap : Nat) (l : List Int) (w : World) (H : Hid (Has w ao n cap l)) (hn : Hid (n ≤ 5000)) (h : ((n : Int) == 0) = false) :
    Calls Try.prog 18 #[.agg #[.int .i64 who, .slice ao n cap, .int .i64 2, .int .i64 a, .int .i64 t, .bool bb]] w fun e w' => ∃ ao' cap', e = .returned (.agg #[.int .i64 who, .slice ao' n cap', .int .i64 4, .int .i64 a, .int .i64 t, .bool bb]) ∧ Mine w' w.heap.size ao' n cap' l ∧ Below w.heap.size w w' := by
  go_enter Try.func18, Try.ntmps18
  go_wp2_with fail
  refine (apart_any who 2 a t bb ao n cap l _ ((H.out.below (alloc_below w _)).below (alloc_below _ _)) hn).mono ?_
  rintro e w2 ⟨ao', cap', rfl, hm, b2⟩
  have HA := hid (aft_of hm b2)
  obtain ⟨c0, c1, c2, c3, c4, c5, cf⟩ := ((two_new w who (.slice ao n cap) 2 a t bb).1).below b2
  clear hm b2 H
  go_upto_region 2 with fail
  clear c0 c1 c2 c3 c4 c5 cf
  generalize (((((w2.setCell _ _).setCell _ _).setCell _ _).setCell _ _).setCell _ _).setCell _ _ = W at HA
  have n1 : w.heap.size + 1 < W.heap.size := HA.out.res.lt
  have m1 : w.heap.size < W.heap.size := HA.out.box.lt
  obtain ⟨c0, c1, c2, c3, c4, c5, cf⟩ := HA.out.box
  obtain ⟨r0, r1, r2, r3, r4, r5, rf⟩ := HA.out.res
  go_wp2_with fail
  refine bodyPost_ret (v := .agg #[.int .i64 who, .slice ao' n cap', .int .i64 4, .int .i64 a, .int .i64 t, .bool bb]) (by simp [results, Try.results18, go_sem, r0, r1, r2, r3, r4, r5]) rfl ⟨ao', cap', rfl, ?_⟩
  refine aft_both HA.out ?_
  iterate 7 refine Kept.setCell ?_ _ _ (fun _ => by simp)
  exact Kept.refl _ _
/-- FREE: IT LETS GO WHAT IT HAS. -/
theorem free_any (g : G) (ao : Option Addr) (n cap : Nat) (w : World) (H : Has w ao n cap g.cs) (hn : n ≤ 5000) :
    Calls Try.prog 18 #[(.agg #[.int .i64 g.w, .slice ao n cap, .int .i64 g.p, .int .i64 g.a, .int .i64 g.t, .bool g.b])] w fun e w' => ∃ ao' cap', e = .returned (.agg #[.int .i64 (freeG g).w, .slice ao' n cap', .int .i64 (freeG g).p, .int .i64 (freeG g).a, .int .i64 (freeG g).t, .bool (freeG g).b]) ∧ Mine w' w.heap.size ao' n cap' g.cs ∧ Below w.heap.size w w' := by
  obtain ⟨who, l, p, a, t, bb⟩ := g
  have hl : n = l.length := H.len
  simp only at H ⊢
  unfold freeG
  simp only
  by_cases hp : p = 2
  · subst hp
    rw [if_pos rfl, ← hl]
    by_cases h0 : n = 0
    · subst h0
      exact free_none who a t bb ao cap l w H
    · rw [if_neg h0]
      exact free_some who a t bb ao n cap l w H hn (by simp; omega)
  · rw [if_neg hp]
    exact free_no who p a t bb ao n cap l w H hn (by simpa using hp)
end Go.Proofs.Ytaihabkacjbfjaa.Gr
