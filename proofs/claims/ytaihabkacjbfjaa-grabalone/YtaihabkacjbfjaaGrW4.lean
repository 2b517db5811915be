/- What Take does. -/
import Derived.Test.YtaihabkacjbfjaaGrW2
import Derived.Test.YtaihabkacjbfjaaGrW3
namespace Go.Proofs.Ytaihabkacjbfjaa.Gr
open Go.RowKit Go.Proofs.Ytaihabkacjbfjaa.Ce

/-- Two grabs that lie in memory, one behind the other: the box and the result. -/
theorem two_new (w : World) (who : Int) (sv : Value) (p a t : Int) (bb : Bool) :
    InG ((w.alloc (.cells #[.int .i64 who, sv, .int .i64 p, .int .i64 a, .int .i64 t, .bool bb] 25)).alloc (.cells #[.int .i64 0, .slice none 0 0, .int .i64 0, .int .i64 0, .int .i64 0, .bool false] 25)) w.heap.size who sv p a t bb ∧
    InG ((w.alloc (.cells #[.int .i64 who, sv, .int .i64 p, .int .i64 a, .int .i64 t, .bool bb] 25)).alloc (.cells #[.int .i64 0, .slice none 0 0, .int .i64 0, .int .i64 0, .int .i64 0, .bool false] 25)) (w.heap.size + 1) 0 (.slice none 0 0) 0 0 0 false := by
  refine ⟨(inG_new w who sv p a t bb 25).below (alloc_below _ _), ?_⟩
  have h := inG_new (w.alloc (.cells #[.int .i64 who, sv, .int .i64 p, .int .i64 a, .int .i64 t, .bool bb] 25)) 0 (.slice none 0 0) 0 0 0 false 25
  rwa [show (w.alloc (.cells #[.int .i64 who, sv, .int .i64 p, .int .i64 a, .int .i64 t, .bool bb] 25)).heap.size = w.heap.size + 1 by simp] at h
theorem InG.store {w : World} {b : Nat} {who : Int} {sv : Value} {p a t : Int} {bb : Bool} {who' : Int} {sv' : Value} {p' a' t' : Int} {bb' : Bool} (h : InG w b who sv p a t bb) :
    InG ((((((w.setCell ⟨b, 0, none⟩ (.int .i64 who')).setCell ⟨b, 1, none⟩ sv').setCell ⟨b, 2, none⟩ (.int .i64 p')).setCell ⟨b, 3, none⟩ (.int .i64 a')).setCell ⟨b, 4, none⟩ (.int .i64 t')).setCell ⟨b, 5, none⟩ (.bool bb')) b who' sv' p' a' t' bb' := by
  obtain ⟨h0, h1, h2, h3, h4, h5, hf⟩ := h
  have g := fun {j : Nat} {u : Value} (h : w.cell? ⟨b, j, none⟩ = some u) => cell_set (i := 5) (v := .bool bb') (cell_set (i := 4) (v := .int .i64 t') (cell_set (i := 3) (v := .int .i64 a') (cell_set (i := 2) (v := .int .i64 p') (cell_set (i := 1) (v := sv') (cell_set (i := 0) (v := .int .i64 who') h)))))
  refine ⟨(g h0).trans (by simp), (g h1).trans (by simp), (g h2).trans (by simp), (g h3).trans (by simp), (g h4).trans (by simp), (g h5).trans (by simp), fun i => by simpa using hf i⟩
theorem kept_store (w : World) (b : Nat) (who' : Int) (sv' : Value) (p' a' t' : Int) (bb' : Bool) :
    Kept (fun k => k = b) w ((((((w.setCell ⟨b, 0, none⟩ (.int .i64 who')).setCell ⟨b, 1, none⟩ sv').setCell ⟨b, 2, none⟩ (.int .i64 p')).setCell ⟨b, 3, none⟩ (.int .i64 a')).setCell ⟨b, 4, none⟩ (.int .i64 t')).setCell ⟨b, 5, none⟩ (.bool bb')) := by
  iterate 6 refine Kept.setCell ?_ _ _ (fun _ => rfl)
  exact Kept.refl _ _
/-- Behind apart: the box has the new cells. -/
structure Aft (w W : World) (who p a t : Int) (bb : Bool) (ao : Option Addr) (n cap : Nat) (l : List Int) : Prop where
  box : InG W w.heap.size who (.slice ao n cap) p a t bb
  res : InG W (w.heap.size + 1) 0 (.slice none 0 0) 0 0 0 false
  mine : Mine W (w.heap.size + 2) ao n cap l
  low : Below w.heap.size w W
theorem Aft.below {w W W' : World} {who p a t : Int} {bb : Bool} {ao : Option Addr} {n cap : Nat} {l : List Int} (h : Aft w W who p a t bb ao n cap l) (b : Below W.heap.size W W') : Aft w W' who p a t bb ao n cap l :=
  ⟨h.box.below b, h.res.below b, h.mine.below b, q_trans h.low b⟩
theorem aft_of {w w2 : World} {who p a t : Int} {bb : Bool} {ao ao' : Option Addr} {n cap cap' : Nat} {l : List Int}
    (hm : Mine w2 ((w.alloc (.cells #[.int .i64 who, .slice ao n cap, .int .i64 p, .int .i64 a, .int .i64 t, .bool bb] 25)).alloc (.cells #[.int .i64 0, .slice none 0 0, .int .i64 0, .int .i64 0, .int .i64 0, .bool false] 25)).heap.size ao' n cap' l)
    (b2 : Below ((w.alloc (.cells #[.int .i64 who, .slice ao n cap, .int .i64 p, .int .i64 a, .int .i64 t, .bool bb] 25)).alloc (.cells #[.int .i64 0, .slice none 0 0, .int .i64 0, .int .i64 0, .int .i64 0, .bool false] 25)).heap.size ((w.alloc (.cells #[.int .i64 who, .slice ao n cap, .int .i64 p, .int .i64 a, .int .i64 t, .bool bb] 25)).alloc (.cells #[.int .i64 0, .slice none 0 0, .int .i64 0, .int .i64 0, .int .i64 0, .bool false] 25)) w2) :
    Aft w ((((((w2.setCell ⟨w.heap.size, 0, none⟩ (.int .i64 who)).setCell ⟨w.heap.size, 1, none⟩ (.slice ao' n cap')).setCell ⟨w.heap.size, 2, none⟩ (.int .i64 p)).setCell ⟨w.heap.size, 3, none⟩ (.int .i64 a)).setCell ⟨w.heap.size, 4, none⟩ (.int .i64 t)).setCell ⟨w.heap.size, 5, none⟩ (.bool bb)) who p a t bb ao' n cap' l := by
  obtain ⟨h1, h2⟩ := two_new w who (.slice ao n cap) p a t bb
  have k := kept_store w2 w.heap.size who (.slice ao' n cap') p a t bb
  have hm' : Mine w2 (w.heap.size + 2) ao' n cap' l := by
    simp at hm
    exact hm
  have hb := q_trans (q_alloc (alloc_below w _) _) b2
  exact ⟨(h1.below b2).store, (h2.below b2).kept k (by omega), hm'.kept k (fun i h e => by omega) (Nat.le_refl _), hb.trans (k.below w.heap.size hb.size (fun i e => by omega))⟩
theorem aft_res {w W W' : World} {who p a t : Int} {bb : Bool} {ao : Option Addr} {n cap : Nat} {l : List Int} (h : Aft w W who p a t bb ao n cap l) (k : Kept (fun k => k = w.heap.size + 1) W W') :
    Mine W' w.heap.size ao n cap l ∧ Below w.heap.size w W' :=
  ⟨h.mine.kept k (fun i h e => by omega) (by omega), h.low.trans (k.below w.heap.size h.low.size (fun i e => by omega))⟩

set_option maxRecDepth 100000 in
set_option maxHeartbeats 1000000 in
theorem take_none (who p a t : Int) (bb : Bool) (ok : Bool) (ao : Option Addr) (n cap : Nat) (l : List Int) (w : World) (H : Hid (Has w ao n cap l)) (hn : Hid (n ≤ 5000)) (hN : Hid (hasN ⟨who, l, p, a, t, bb⟩ = false)) (ha : Hid (-5 ≤ a ∧ a ≤ 1000000)) :
    Calls Try.prog 16 #[.agg #[.int .i64 who, .slice ao n cap, .int .i64 p, .int .i64 a, .int .i64 t, .bool bb], .bool ok] w fun e w' => ∃ ao' cap', e = .returned (.agg #[.int .i64 who, .slice ao' n cap', .int .i64 p, .int .i64 a, .int .i64 t, .bool bb]) ∧ Mine w' w.heap.size ao' n cap' l ∧ Below w.heap.size w w' := by
  go_enter Try.func16, Try.ntmps16
  go_wp2_with fail
  refine (apart_any who p a t bb ao n cap l _ ((H.out.below (alloc_below w _)).below (alloc_below _ _)) hn).mono ?_
  rintro e w2 ⟨ao', cap', rfl, hm, b2⟩
  have HA := hid (aft_of hm b2)
  have n1 : w.heap.size + 1 < w2.heap.size := (((two_new w who (.slice ao n cap) p a t bb).2).below b2).lt
  obtain ⟨c0, c1, c2, c3, c4, c5, cf⟩ := ((two_new w who (.slice ao n cap) p a t bb).1).below b2
  clear hm b2 H
  go_wp2_with fail
  clear c0 c1 c2 c3 c4 c5 cf
  generalize (((((w2.setCell _ _).setCell _ _).setCell _ _).setCell _ _).setCell _ _).setCell _ _ = W at HA
  refine (next_any ⟨who, l, p, a, t, bb⟩ ao' n cap' _ HA.out.mine.has hn.out ha.out).mono ?_
  rintro e w3 ⟨rfl, b3⟩
  have HA := hid (HA.out.below b3)
  rw [hN.out]
  have n2 : w.heap.size + 1 < w3.heap.size := HA.out.res.lt
  have m2 : w.heap.size < w3.heap.size := HA.out.box.lt
  obtain ⟨c0, c1, c2, c3, c4, c5, cf⟩ := HA.out.box
  obtain ⟨r0, r1, r2, r3, r4, r5, rf⟩ := HA.out.res
  clear b3 n1
  go_wp2_with fail
  refine bodyPost_ret (v := .agg #[.int .i64 who, .slice ao' n cap', .int .i64 p, .int .i64 a, .int .i64 t, .bool bb]) (by simp [results, Try.results16, go_sem, r0, r1, r2, r3, r4, r5, n2]) rfl ⟨ao', cap', rfl, ?_⟩
  exact aft_res HA.out ((kept_store _ _ _ _ _ _ _ _).alloc _)
set_option maxRecDepth 100000 in
set_option maxHeartbeats 1000000 in
theorem take_more_yes (who a t : Int) (bb : Bool) (ao : Option Addr) (n cap : Nat) (l : List Int) (w : World) (H : Hid (Has w ao n cap l)) (hn : Hid (n ≤ 5000)) (hN : Hid (hasN ⟨who, l, 1, a, t, bb⟩ = true)) (ha : Hid (-5 ≤ a ∧ a ≤ 1000000)) (h : Hid ((a + 1 == (n : Int)) = true)) :
    Calls Try.prog 16 #[.agg #[.int .i64 who, .slice ao n cap, .int .i64 1, .int .i64 a, .int .i64 t, .bool bb], .bool true] w fun e w' => ∃ ao' cap', e = .returned (.agg #[.int .i64 who, .slice ao' n cap', .int .i64 2, .int .i64 (a + 1), .int .i64 t, .bool bb]) ∧ Mine w' w.heap.size ao' n cap' l ∧ Below w.heap.size w w' := by
  go_enter Try.func16, Try.ntmps16
  go_wp2_with fail
  refine (apart_any who 1 a t bb ao n cap l _ ((H.out.below (alloc_below w _)).below (alloc_below _ _)) hn).mono ?_
  rintro e w2 ⟨ao', cap', rfl, hm, b2⟩
  have HA := hid (aft_of hm b2)
  have n1 : w.heap.size + 1 < w2.heap.size := (((two_new w who (.slice ao n cap) 1 a t bb).2).below b2).lt
  obtain ⟨c0, c1, c2, c3, c4, c5, cf⟩ := ((two_new w who (.slice ao n cap) 1 a t bb).1).below b2
  clear hm b2 H
  go_wp2_with fail
  clear c0 c1 c2 c3 c4 c5 cf
  generalize (((((w2.setCell _ _).setCell _ _).setCell _ _).setCell _ _).setCell _ _).setCell _ _ = W at HA
  refine (next_any ⟨who, l, 1, a, t, bb⟩ ao' n cap' _ HA.out.mine.has hn.out ha.out).mono ?_
  rintro e w3 ⟨rfl, b3⟩
  have HA := hid (HA.out.below b3)
  rw [hN.out]
  have n2 : w.heap.size + 1 < w3.heap.size := HA.out.res.lt
  have m2 : w.heap.size < w3.heap.size := HA.out.box.lt
  obtain ⟨c0, c1, c2, c3, c4, c5, cf⟩ := HA.out.box
  obtain ⟨r0, r1, r2, r3, r4, r5, rf⟩ := HA.out.res
  clear b3 n1
  go_wp2_with fail
  refine (more_yes who 1 a t bb ao' n cap' _ ha.out.1 ha.out.2 h.out).mono ?_
  rintro e w4 ⟨rfl, b4⟩
  have HA := hid ((HA.out.below (alloc_below _ _)).below b4)
  have n3 : w.heap.size + 1 < w4.heap.size := HA.out.res.lt
  have m3 : w.heap.size < w4.heap.size := HA.out.box.lt
  clear c0 c1 c2 c3 c4 c5 cf r0 r1 r2 r3 r4 r5 rf n2 m2
  obtain ⟨r0, r1, r2, r3, r4, r5, rf⟩ := HA.out.res
  go_wp2_with fail
  refine bodyPost_ret (v := .agg #[.int .i64 who, .slice ao' n cap', .int .i64 2, .int .i64 (a + 1), .int .i64 t, .bool bb]) (by simp [results, Try.results16, go_sem, r0, r1, r2, r3, r4, r5]) rfl ⟨ao', cap', rfl, ?_⟩
  exact aft_res HA.out (kept_store _ _ _ _ _ _ _ _)
set_option maxRecDepth 100000 in
set_option maxHeartbeats 1000000 in
theorem take_more_no (who a t : Int) (bb : Bool) (ao : Option Addr) (n cap : Nat) (l : List Int) (w : World) (H : Hid (Has w ao n cap l)) (hn : Hid (n ≤ 5000)) (hN : Hid (hasN ⟨who, l, 1, a, t, bb⟩ = true)) (ha : Hid (-5 ≤ a ∧ a ≤ 1000000)) (h : Hid ((a + 1 == (n : Int)) = false)) :
    Calls Try.prog 16 #[.agg #[.int .i64 who, .slice ao n cap, .int .i64 1, .int .i64 a, .int .i64 t, .bool bb], .bool true] w fun e w' => ∃ ao' cap', e = .returned (.agg #[.int .i64 who, .slice ao' n cap', .int .i64 1, .int .i64 (a + 1), .int .i64 t, .bool bb]) ∧ Mine w' w.heap.size ao' n cap' l ∧ Below w.heap.size w w' := by
  go_enter Try.func16, Try.ntmps16
  go_wp2_with fail
  refine (apart_any who 1 a t bb ao n cap l _ ((H.out.below (alloc_below w _)).below (alloc_below _ _)) hn).mono ?_
  rintro e w2 ⟨ao', cap', rfl, hm, b2⟩
  have HA := hid (aft_of hm b2)
  have n1 : w.heap.size + 1 < w2.heap.size := (((two_new w who (.slice ao n cap) 1 a t bb).2).below b2).lt
  obtain ⟨c0, c1, c2, c3, c4, c5, cf⟩ := ((two_new w who (.slice ao n cap) 1 a t bb).1).below b2
  clear hm b2 H
  go_wp2_with fail
  clear c0 c1 c2 c3 c4 c5 cf
  generalize (((((w2.setCell _ _).setCell _ _).setCell _ _).setCell _ _).setCell _ _).setCell _ _ = W at HA
  refine (next_any ⟨who, l, 1, a, t, bb⟩ ao' n cap' _ HA.out.mine.has hn.out ha.out).mono ?_
  rintro e w3 ⟨rfl, b3⟩
  have HA := hid (HA.out.below b3)
  rw [hN.out]
  have n2 : w.heap.size + 1 < w3.heap.size := HA.out.res.lt
  have m2 : w.heap.size < w3.heap.size := HA.out.box.lt
  obtain ⟨c0, c1, c2, c3, c4, c5, cf⟩ := HA.out.box
  obtain ⟨r0, r1, r2, r3, r4, r5, rf⟩ := HA.out.res
  clear b3 n1
  go_wp2_with fail
  refine (more_no who 1 a t bb ao' n cap' _ ha.out.1 ha.out.2 h.out).mono ?_
  rintro e w4 ⟨rfl, b4⟩
  have HA := hid ((HA.out.below (alloc_below _ _)).below b4)
  have n3 : w.heap.size + 1 < w4.heap.size := HA.out.res.lt
  have m3 : w.heap.size < w4.heap.size := HA.out.box.lt
  clear c0 c1 c2 c3 c4 c5 cf r0 r1 r2 r3 r4 r5 rf n2 m2
  obtain ⟨r0, r1, r2, r3, r4, r5, rf⟩ := HA.out.res
  go_wp2_with fail
  refine bodyPost_ret (v := .agg #[.int .i64 who, .slice ao' n cap', .int .i64 1, .int .i64 (a + 1), .int .i64 t, .bool bb]) (by simp [results, Try.results16, go_sem, r0, r1, r2, r3, r4, r5]) rfl ⟨ao', cap', rfl, ?_⟩
  exact aft_res HA.out (kept_store _ _ _ _ _ _ _ _)
set_option maxRecDepth 100000 in
set_option maxHeartbeats 1000000 in
theorem take_wait (who a t : Int) (ao : Option Addr) (n cap : Nat) (l : List Int) (w : World) (H : Hid (Has w ao n cap l)) (hn : Hid (n ≤ 5000)) (hN : Hid (hasN ⟨who, l, 1, a, t, true⟩ = true)) (ha : Hid (-5 ≤ a ∧ a ≤ 1000000)) :
    Calls Try.prog 16 #[.agg #[.int .i64 who, .slice ao n cap, .int .i64 1, .int .i64 a, .int .i64 t, .bool true], .bool false] w fun e w' => ∃ ao' cap', e = .returned (.agg #[.int .i64 who, .slice ao' n cap', .int .i64 1, .int .i64 a, .int .i64 t, .bool true]) ∧ Mine w' w.heap.size ao' n cap' l ∧ Below w.heap.size w w' := by
  go_enter Try.func16, Try.ntmps16
  go_wp2_with fail
  refine (apart_any who 1 a t true ao n cap l _ ((H.out.below (alloc_below w _)).below (alloc_below _ _)) hn).mono ?_
  rintro e w2 ⟨ao', cap', rfl, hm, b2⟩
  have HA := hid (aft_of hm b2)
  have n1 : w.heap.size + 1 < w2.heap.size := (((two_new w who (.slice ao n cap) 1 a t true).2).below b2).lt
  obtain ⟨c0, c1, c2, c3, c4, c5, cf⟩ := ((two_new w who (.slice ao n cap) 1 a t true).1).below b2
  clear hm b2 H
  go_wp2_with fail
  clear c0 c1 c2 c3 c4 c5 cf
  generalize (((((w2.setCell _ _).setCell _ _).setCell _ _).setCell _ _).setCell _ _).setCell _ _ = W at HA
  refine (next_any ⟨who, l, 1, a, t, true⟩ ao' n cap' _ HA.out.mine.has hn.out ha.out).mono ?_
  rintro e w3 ⟨rfl, b3⟩
  have HA := hid (HA.out.below b3)
  rw [hN.out]
  have n2 : w.heap.size + 1 < w3.heap.size := HA.out.res.lt
  have m2 : w.heap.size < w3.heap.size := HA.out.box.lt
  obtain ⟨c0, c1, c2, c3, c4, c5, cf⟩ := HA.out.box
  obtain ⟨r0, r1, r2, r3, r4, r5, rf⟩ := HA.out.res
  clear b3 n1
  go_wp2_with fail
  refine bodyPost_ret (v := .agg #[.int .i64 who, .slice ao' n cap', .int .i64 1, .int .i64 a, .int .i64 t, .bool true]) (by simp [results, Try.results16, go_sem, r0, r1, r2, r3, r4, r5, n2]) rfl ⟨ao', cap', rfl, ?_⟩
  exact aft_res HA.out ((kept_store _ _ _ _ _ _ _ _).alloc _)
set_option maxRecDepth 100000 in
set_option maxHeartbeats 1000000 in
theorem take_ref_yes (who a t : Int) (ao : Option Addr) (n cap : Nat) (l : List Int) (w : World) (H : Hid (Has w ao n cap l)) (hn : Hid (n ≤ 5000)) (hN : Hid (hasN ⟨who, l, 1, a, t, false⟩ = true)) (ha : Hid (-5 ≤ a ∧ a ≤ 1000000)) (ht : Hid (0 ≤ t ∧ t ≤ 1000000)) (h : Hid ((a != 0) = true)) :
    Calls Try.prog 16 #[.agg #[.int .i64 who, .slice ao n cap, .int .i64 1, .int .i64 a, .int .i64 t, .bool false], .bool false] w fun e w' => ∃ ao' cap', e = .returned (.agg #[.int .i64 who, .slice ao' n cap', .int .i64 3, .int .i64 a, .int .i64 (t + 1), .bool false]) ∧ Mine w' w.heap.size ao' n cap' l ∧ Below w.heap.size w w' := by
  go_enter Try.func16, Try.ntmps16
  go_wp2_with fail
  refine (apart_any who 1 a t false ao n cap l _ ((H.out.below (alloc_below w _)).below (alloc_below _ _)) hn).mono ?_
  rintro e w2 ⟨ao', cap', rfl, hm, b2⟩
  have HA := hid (aft_of hm b2)
  have n1 : w.heap.size + 1 < w2.heap.size := (((two_new w who (.slice ao n cap) 1 a t false).2).below b2).lt
  obtain ⟨c0, c1, c2, c3, c4, c5, cf⟩ := ((two_new w who (.slice ao n cap) 1 a t false).1).below b2
  clear hm b2 H
  go_wp2_with fail
  clear c0 c1 c2 c3 c4 c5 cf
  generalize (((((w2.setCell _ _).setCell _ _).setCell _ _).setCell _ _).setCell _ _).setCell _ _ = W at HA
  refine (next_any ⟨who, l, 1, a, t, false⟩ ao' n cap' _ HA.out.mine.has hn.out ha.out).mono ?_
  rintro e w3 ⟨rfl, b3⟩
  have HA := hid (HA.out.below b3)
  rw [hN.out]
  have n2 : w.heap.size + 1 < w3.heap.size := HA.out.res.lt
  have m2 : w.heap.size < w3.heap.size := HA.out.box.lt
  obtain ⟨c0, c1, c2, c3, c4, c5, cf⟩ := HA.out.box
  obtain ⟨r0, r1, r2, r3, r4, r5, rf⟩ := HA.out.res
  clear b3 n1
  go_wp2_with fail
  refine (ref_yes who 1 a t false ao' n cap' _ ht.out.1 ht.out.2 h.out).mono ?_
  rintro e w4 ⟨rfl, b4⟩
  have HA := hid ((HA.out.below (alloc_below _ _)).below b4)
  have n3 : w.heap.size + 1 < w4.heap.size := HA.out.res.lt
  have m3 : w.heap.size < w4.heap.size := HA.out.box.lt
  clear c0 c1 c2 c3 c4 c5 cf r0 r1 r2 r3 r4 r5 rf n2 m2
  obtain ⟨r0, r1, r2, r3, r4, r5, rf⟩ := HA.out.res
  go_wp2_with fail
  refine bodyPost_ret (v := .agg #[.int .i64 who, .slice ao' n cap', .int .i64 3, .int .i64 a, .int .i64 (t + 1), .bool false]) (by simp [results, Try.results16, go_sem, r0, r1, r2, r3, r4, r5]) rfl ⟨ao', cap', rfl, ?_⟩
  exact aft_res HA.out (kept_store _ _ _ _ _ _ _ _)
set_option maxRecDepth 100000 in
set_option maxHeartbeats 1000000 in
theorem take_ref_no (who a t : Int) (ao : Option Addr) (n cap : Nat) (l : List Int) (w : World) (H : Hid (Has w ao n cap l)) (hn : Hid (n ≤ 5000)) (hN : Hid (hasN ⟨who, l, 1, a, t, false⟩ = true)) (ha : Hid (-5 ≤ a ∧ a ≤ 1000000)) (ht : Hid (0 ≤ t ∧ t ≤ 1000000)) (h : Hid ((a != 0) = false)) :
    Calls Try.prog 16 #[.agg #[.int .i64 who, .slice ao n cap, .int .i64 1, .int .i64 a, .int .i64 t, .bool false], .bool false] w fun e w' => ∃ ao' cap', e = .returned (.agg #[.int .i64 who, .slice ao' n cap', .int .i64 1, .int .i64 a, .int .i64 (t + 1), .bool false]) ∧ Mine w' w.heap.size ao' n cap' l ∧ Below w.heap.size w w' := by
  go_enter Try.func16, Try.ntmps16
  go_wp2_with fail
  refine (apart_any who 1 a t false ao n cap l _ ((H.out.below (alloc_below w _)).below (alloc_below _ _)) hn).mono ?_
  rintro e w2 ⟨ao', cap', rfl, hm, b2⟩
  have HA := hid (aft_of hm b2)
  have n1 : w.heap.size + 1 < w2.heap.size := (((two_new w who (.slice ao n cap) 1 a t false).2).below b2).lt
  obtain ⟨c0, c1, c2, c3, c4, c5, cf⟩ := ((two_new w who (.slice ao n cap) 1 a t false).1).below b2
  clear hm b2 H
  go_wp2_with fail
  clear c0 c1 c2 c3 c4 c5 cf
  generalize (((((w2.setCell _ _).setCell _ _).setCell _ _).setCell _ _).setCell _ _).setCell _ _ = W at HA
  refine (next_any ⟨who, l, 1, a, t, false⟩ ao' n cap' _ HA.out.mine.has hn.out ha.out).mono ?_
  rintro e w3 ⟨rfl, b3⟩
  have HA := hid (HA.out.below b3)
  rw [hN.out]
  have n2 : w.heap.size + 1 < w3.heap.size := HA.out.res.lt
  have m2 : w.heap.size < w3.heap.size := HA.out.box.lt
  obtain ⟨c0, c1, c2, c3, c4, c5, cf⟩ := HA.out.box
  obtain ⟨r0, r1, r2, r3, r4, r5, rf⟩ := HA.out.res
  clear b3 n1
  go_wp2_with fail
  refine (ref_no who 1 a t false ao' n cap' _ ht.out.1 ht.out.2 h.out).mono ?_
  rintro e w4 ⟨rfl, b4⟩
  have HA := hid ((HA.out.below (alloc_below _ _)).below b4)
  have n3 : w.heap.size + 1 < w4.heap.size := HA.out.res.lt
  have m3 : w.heap.size < w4.heap.size := HA.out.box.lt
  clear c0 c1 c2 c3 c4 c5 cf r0 r1 r2 r3 r4 r5 rf n2 m2
  obtain ⟨r0, r1, r2, r3, r4, r5, rf⟩ := HA.out.res
  go_wp2_with fail
  refine bodyPost_ret (v := .agg #[.int .i64 who, .slice ao' n cap', .int .i64 1, .int .i64 a, .int .i64 (t + 1), .bool false]) (by simp [results, Try.results16, go_sem, r0, r1, r2, r3, r4, r5]) rfl ⟨ao', cap', rfl, ?_⟩
  exact aft_res HA.out (kept_store _ _ _ _ _ _ _ _)
set_option maxRecDepth 100000 in
set_option maxHeartbeats 1000000 in
theorem take_less3_more (who a t : Int) (bb : Bool) (ok : Bool) (ao : Option Addr) (n cap : Nat) (l : List Int) (w : World) (H : Hid (Has w ao n cap l)) (hn : Hid (n ≤ 5000)) (hN : Hid (hasN ⟨who, l, 3, a, t, bb⟩ = true)) (ha : Hid (-5 ≤ a ∧ a ≤ 1000000)) (h : Hid ((a - 1 != 0) = true)) :
    Calls Try.prog 16 #[.agg #[.int .i64 who, .slice ao n cap, .int .i64 3, .int .i64 a, .int .i64 t, .bool bb], .bool ok] w fun e w' => ∃ ao' cap', e = .returned (.agg #[.int .i64 who, .slice ao' n cap', .int .i64 3, .int .i64 (a - 1), .int .i64 t, .bool bb]) ∧ Mine w' w.heap.size ao' n cap' l ∧ Below w.heap.size w w' := by
  go_enter Try.func16, Try.ntmps16
  go_wp2_with fail
  refine (apart_any who 3 a t bb ao n cap l _ ((H.out.below (alloc_below w _)).below (alloc_below _ _)) hn).mono ?_
  rintro e w2 ⟨ao', cap', rfl, hm, b2⟩
  have HA := hid (aft_of hm b2)
  have n1 : w.heap.size + 1 < w2.heap.size := (((two_new w who (.slice ao n cap) 3 a t bb).2).below b2).lt
  obtain ⟨c0, c1, c2, c3, c4, c5, cf⟩ := ((two_new w who (.slice ao n cap) 3 a t bb).1).below b2
  clear hm b2 H
  go_wp2_with fail
  clear c0 c1 c2 c3 c4 c5 cf
  generalize (((((w2.setCell _ _).setCell _ _).setCell _ _).setCell _ _).setCell _ _).setCell _ _ = W at HA
  refine (next_any ⟨who, l, 3, a, t, bb⟩ ao' n cap' _ HA.out.mine.has hn.out ha.out).mono ?_
  rintro e w3 ⟨rfl, b3⟩
  have HA := hid (HA.out.below b3)
  rw [hN.out]
  have n2 : w.heap.size + 1 < w3.heap.size := HA.out.res.lt
  have m2 : w.heap.size < w3.heap.size := HA.out.box.lt
  obtain ⟨c0, c1, c2, c3, c4, c5, cf⟩ := HA.out.box
  obtain ⟨r0, r1, r2, r3, r4, r5, rf⟩ := HA.out.res
  clear b3 n1
  go_wp2_with fail
  refine (less_more who 3 a t bb ao' n cap' _ ha.out.1 ha.out.2 h.out).mono ?_
  rintro e w4 ⟨rfl, b4⟩
  have HA := hid ((HA.out.below (alloc_below _ _)).below b4)
  have n3 : w.heap.size + 1 < w4.heap.size := HA.out.res.lt
  have m3 : w.heap.size < w4.heap.size := HA.out.box.lt
  clear c0 c1 c2 c3 c4 c5 cf r0 r1 r2 r3 r4 r5 rf n2 m2
  obtain ⟨r0, r1, r2, r3, r4, r5, rf⟩ := HA.out.res
  go_wp2_with fail
  refine bodyPost_ret (v := .agg #[.int .i64 who, .slice ao' n cap', .int .i64 3, .int .i64 (a - 1), .int .i64 t, .bool bb]) (by simp [results, Try.results16, go_sem, r0, r1, r2, r3, r4, r5]) rfl ⟨ao', cap', rfl, ?_⟩
  exact aft_res HA.out (kept_store _ _ _ _ _ _ _ _)
set_option maxRecDepth 100000 in
set_option maxHeartbeats 1000000 in
theorem take_less3_end (who a t : Int) (bb : Bool) (ok : Bool) (ao : Option Addr) (n cap : Nat) (l : List Int) (w : World) (H : Hid (Has w ao n cap l)) (hn : Hid (n ≤ 5000)) (hN : Hid (hasN ⟨who, l, 3, a, t, bb⟩ = true)) (ha : Hid (-5 ≤ a ∧ a ≤ 1000000)) (h : Hid ((a - 1 != 0) = false)) :
    Calls Try.prog 16 #[.agg #[.int .i64 who, .slice ao n cap, .int .i64 3, .int .i64 a, .int .i64 t, .bool bb], .bool ok] w fun e w' => ∃ ao' cap', e = .returned (.agg #[.int .i64 who, .slice ao' n cap', .int .i64 1, .int .i64 (a - 1), .int .i64 t, .bool bb]) ∧ Mine w' w.heap.size ao' n cap' l ∧ Below w.heap.size w w' := by
  go_enter Try.func16, Try.ntmps16
  go_wp2_with fail
  refine (apart_any who 3 a t bb ao n cap l _ ((H.out.below (alloc_below w _)).below (alloc_below _ _)) hn).mono ?_
  rintro e w2 ⟨ao', cap', rfl, hm, b2⟩
  have HA := hid (aft_of hm b2)
  have n1 : w.heap.size + 1 < w2.heap.size := (((two_new w who (.slice ao n cap) 3 a t bb).2).below b2).lt
  obtain ⟨c0, c1, c2, c3, c4, c5, cf⟩ := ((two_new w who (.slice ao n cap) 3 a t bb).1).below b2
  clear hm b2 H
  go_wp2_with fail
  clear c0 c1 c2 c3 c4 c5 cf
  generalize (((((w2.setCell _ _).setCell _ _).setCell _ _).setCell _ _).setCell _ _).setCell _ _ = W at HA
  refine (next_any ⟨who, l, 3, a, t, bb⟩ ao' n cap' _ HA.out.mine.has hn.out ha.out).mono ?_
  rintro e w3 ⟨rfl, b3⟩
  have HA := hid (HA.out.below b3)
  rw [hN.out]
  have n2 : w.heap.size + 1 < w3.heap.size := HA.out.res.lt
  have m2 : w.heap.size < w3.heap.size := HA.out.box.lt
  obtain ⟨c0, c1, c2, c3, c4, c5, cf⟩ := HA.out.box
  obtain ⟨r0, r1, r2, r3, r4, r5, rf⟩ := HA.out.res
  clear b3 n1
  go_wp2_with fail
  refine (less_back who a t bb ao' n cap' _ ha.out.1 ha.out.2 h.out).mono ?_
  rintro e w4 ⟨rfl, b4⟩
  have HA := hid ((HA.out.below (alloc_below _ _)).below b4)
  have n3 : w.heap.size + 1 < w4.heap.size := HA.out.res.lt
  have m3 : w.heap.size < w4.heap.size := HA.out.box.lt
  clear c0 c1 c2 c3 c4 c5 cf r0 r1 r2 r3 r4 r5 rf n2 m2
  obtain ⟨r0, r1, r2, r3, r4, r5, rf⟩ := HA.out.res
  go_wp2_with fail
  refine bodyPost_ret (v := .agg #[.int .i64 who, .slice ao' n cap', .int .i64 1, .int .i64 (a - 1), .int .i64 t, .bool bb]) (by simp [results, Try.results16, go_sem, r0, r1, r2, r3, r4, r5]) rfl ⟨ao', cap', rfl, ?_⟩
  exact aft_res HA.out (kept_store _ _ _ _ _ _ _ _)
set_option maxRecDepth 100000 in
set_option maxHeartbeats 1000000 in
theorem take_less4_more (who a t : Int) (bb : Bool) (ok : Bool) (ao : Option Addr) (n cap : Nat) (l : List Int) (w : World) (H : Hid (Has w ao n cap l)) (hn : Hid (n ≤ 5000)) (hN : Hid (hasN ⟨who, l, 4, a, t, bb⟩ = true)) (ha : Hid (-5 ≤ a ∧ a ≤ 1000000)) (h : Hid ((a - 1 != 0) = true)) :
    Calls Try.prog 16 #[.agg #[.int .i64 who, .slice ao n cap, .int .i64 4, .int .i64 a, .int .i64 t, .bool bb], .bool ok] w fun e w' => ∃ ao' cap', e = .returned (.agg #[.int .i64 who, .slice ao' n cap', .int .i64 4, .int .i64 (a - 1), .int .i64 t, .bool bb]) ∧ Mine w' w.heap.size ao' n cap' l ∧ Below w.heap.size w w' := by
  go_enter Try.func16, Try.ntmps16
  go_wp2_with fail
  refine (apart_any who 4 a t bb ao n cap l _ ((H.out.below (alloc_below w _)).below (alloc_below _ _)) hn).mono ?_
  rintro e w2 ⟨ao', cap', rfl, hm, b2⟩
  have HA := hid (aft_of hm b2)
  have n1 : w.heap.size + 1 < w2.heap.size := (((two_new w who (.slice ao n cap) 4 a t bb).2).below b2).lt
  obtain ⟨c0, c1, c2, c3, c4, c5, cf⟩ := ((two_new w who (.slice ao n cap) 4 a t bb).1).below b2
  clear hm b2 H
  go_wp2_with fail
  clear c0 c1 c2 c3 c4 c5 cf
  generalize (((((w2.setCell _ _).setCell _ _).setCell _ _).setCell _ _).setCell _ _).setCell _ _ = W at HA
  refine (next_any ⟨who, l, 4, a, t, bb⟩ ao' n cap' _ HA.out.mine.has hn.out ha.out).mono ?_
  rintro e w3 ⟨rfl, b3⟩
  have HA := hid (HA.out.below b3)
  rw [hN.out]
  have n2 : w.heap.size + 1 < w3.heap.size := HA.out.res.lt
  have m2 : w.heap.size < w3.heap.size := HA.out.box.lt
  obtain ⟨c0, c1, c2, c3, c4, c5, cf⟩ := HA.out.box
  obtain ⟨r0, r1, r2, r3, r4, r5, rf⟩ := HA.out.res
  clear b3 n1
  go_wp2_with fail
  refine (less_more who 4 a t bb ao' n cap' _ ha.out.1 ha.out.2 h.out).mono ?_
  rintro e w4 ⟨rfl, b4⟩
  have HA := hid ((HA.out.below (alloc_below _ _)).below b4)
  have n3 : w.heap.size + 1 < w4.heap.size := HA.out.res.lt
  have m3 : w.heap.size < w4.heap.size := HA.out.box.lt
  clear c0 c1 c2 c3 c4 c5 cf r0 r1 r2 r3 r4 r5 rf n2 m2
  obtain ⟨r0, r1, r2, r3, r4, r5, rf⟩ := HA.out.res
  go_wp2_with fail
  refine bodyPost_ret (v := .agg #[.int .i64 who, .slice ao' n cap', .int .i64 4, .int .i64 (a - 1), .int .i64 t, .bool bb]) (by simp [results, Try.results16, go_sem, r0, r1, r2, r3, r4, r5]) rfl ⟨ao', cap', rfl, ?_⟩
  exact aft_res HA.out (kept_store _ _ _ _ _ _ _ _)
set_option maxRecDepth 100000 in
set_option maxHeartbeats 1000000 in
theorem take_less4_end (who a t : Int) (bb : Bool) (ok : Bool) (ao : Option Addr) (n cap : Nat) (l : List Int) (w : World) (H : Hid (Has w ao n cap l)) (hn : Hid (n ≤ 5000)) (hN : Hid (hasN ⟨who, l, 4, a, t, bb⟩ = true)) (ha : Hid (-5 ≤ a ∧ a ≤ 1000000)) (h : Hid ((a - 1 != 0) = false)) :
    Calls Try.prog 16 #[.agg #[.int .i64 who, .slice ao n cap, .int .i64 4, .int .i64 a, .int .i64 t, .bool bb], .bool ok] w fun e w' => ∃ ao' cap', e = .returned (.agg #[.int .i64 who, .slice ao' n cap', .int .i64 5, .int .i64 (a - 1), .int .i64 t, .bool bb]) ∧ Mine w' w.heap.size ao' n cap' l ∧ Below w.heap.size w w' := by
  go_enter Try.func16, Try.ntmps16
  go_wp2_with fail
  refine (apart_any who 4 a t bb ao n cap l _ ((H.out.below (alloc_below w _)).below (alloc_below _ _)) hn).mono ?_
  rintro e w2 ⟨ao', cap', rfl, hm, b2⟩
  have HA := hid (aft_of hm b2)
  have n1 : w.heap.size + 1 < w2.heap.size := (((two_new w who (.slice ao n cap) 4 a t bb).2).below b2).lt
  obtain ⟨c0, c1, c2, c3, c4, c5, cf⟩ := ((two_new w who (.slice ao n cap) 4 a t bb).1).below b2
  clear hm b2 H
  go_wp2_with fail
  clear c0 c1 c2 c3 c4 c5 cf
  generalize (((((w2.setCell _ _).setCell _ _).setCell _ _).setCell _ _).setCell _ _).setCell _ _ = W at HA
  refine (next_any ⟨who, l, 4, a, t, bb⟩ ao' n cap' _ HA.out.mine.has hn.out ha.out).mono ?_
  rintro e w3 ⟨rfl, b3⟩
  have HA := hid (HA.out.below b3)
  rw [hN.out]
  have n2 : w.heap.size + 1 < w3.heap.size := HA.out.res.lt
  have m2 : w.heap.size < w3.heap.size := HA.out.box.lt
  obtain ⟨c0, c1, c2, c3, c4, c5, cf⟩ := HA.out.box
  obtain ⟨r0, r1, r2, r3, r4, r5, rf⟩ := HA.out.res
  clear b3 n1
  go_wp2_with fail
  refine (less_done who a t bb ao' n cap' _ ha.out.1 ha.out.2 h.out).mono ?_
  rintro e w4 ⟨rfl, b4⟩
  have HA := hid ((HA.out.below (alloc_below _ _)).below b4)
  have n3 : w.heap.size + 1 < w4.heap.size := HA.out.res.lt
  have m3 : w.heap.size < w4.heap.size := HA.out.box.lt
  clear c0 c1 c2 c3 c4 c5 cf r0 r1 r2 r3 r4 r5 rf n2 m2
  obtain ⟨r0, r1, r2, r3, r4, r5, rf⟩ := HA.out.res
  go_wp2_with fail
  refine bodyPost_ret (v := .agg #[.int .i64 who, .slice ao' n cap', .int .i64 5, .int .i64 (a - 1), .int .i64 t, .bool bb]) (by simp [results, Try.results16, go_sem, r0, r1, r2, r3, r4, r5]) rfl ⟨ao', cap', rfl, ?_⟩
  exact aft_res HA.out (kept_store _ _ _ _ _ _ _ _)
/-- TAKE: BEHIND THE STEP. -/
theorem take_any (g : G) (ok : Bool) (ao : Option Addr) (n cap : Nat) (w : World) (H : Has w ao n cap g.cs) (hn : n ≤ 5000) (ha : -5 ≤ g.a ∧ g.a ≤ 1000000) (ht : 0 ≤ g.t ∧ g.t ≤ 1000000) :
    Calls Try.prog 16 #[(.agg #[.int .i64 g.w, .slice ao n cap, .int .i64 g.p, .int .i64 g.a, .int .i64 g.t, .bool g.b]), .bool ok] w fun e w' => ∃ ao' cap', e = .returned (.agg #[.int .i64 (takeG g ok).w, .slice ao' n cap', .int .i64 (takeG g ok).p, .int .i64 (takeG g ok).a, .int .i64 (takeG g ok).t, .bool (takeG g ok).b]) ∧ Mine w' w.heap.size ao' n cap' g.cs ∧ Below w.heap.size w w' := by
  obtain ⟨who, l, p, a, t, bb⟩ := g
  have hl : n = l.length := H.len
  simp only at ha ht H ⊢
  cases hN : hasN ⟨who, l, p, a, t, bb⟩ with
  | false =>
    have e : takeG ⟨who, l, p, a, t, bb⟩ ok = ⟨who, l, p, a, t, bb⟩ := by simp [takeG, hN]
    rw [e]
    exact take_none who p a t bb ok ao n cap l w H hn hN ha
  | true =>
    have hb := has_iff.1 hN
    simp only at hb
    have e0 : takeG ⟨who, l, p, a, t, bb⟩ ok = _ := if_pos hN
    rw [e0]
    simp only
    by_cases h1 : p = 1
    · subst h1
      rw [if_pos rfl]
      cases ok with
      | true =>
        rw [if_pos rfl, ← hl]
        by_cases he : a + 1 = (n : Int)
        · rw [if_pos he]
          exact take_more_yes who a t bb ao n cap l w H hn hN ha (by simpa [Hid] using he)
        · rw [if_neg he]
          exact take_more_no who a t bb ao n cap l w H hn hN ha (by simpa [Hid] using he)
      | false =>
        rw [if_neg (by decide)]
        cases bb with
        | true => exact take_wait who a t ao n cap l w H hn hN ha
        | false =>
          rw [if_neg (by decide)]
          by_cases he : a = 0
          · rw [if_pos he]
            exact take_ref_no who a t ao n cap l w H hn hN ha ht (by simpa [Hid] using he)
          · rw [if_neg he]
            exact take_ref_yes who a t ao n cap l w H hn hN ha ht (by simpa [Hid] using he)
    · rw [if_neg h1]
      have h34 : p = 3 ∨ p = 4 := by omega
      by_cases he : a - 1 = 0
      · rw [if_pos he]
        rcases h34 with rfl | rfl
        · exact take_less3_end who a t bb ok ao n cap l w H hn hN ha (by simpa [Hid] using he)
        · exact take_less4_end who a t bb ok ao n cap l w H hn hN ha (by simpa [Hid] using he)
      · rw [if_neg he]
        rcases h34 with rfl | rfl
        · exact take_less3_more who a t bb ok ao n cap l w H hn hN ha (by simpa [Hid] using he)
        · exact take_less4_more who a t bb ok ao n cap l w H hn hN ha (by simpa [Hid] using he)
end Go.Proofs.Ytaihabkacjbfjaa.Gr
