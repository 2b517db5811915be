/- What the document's Ints, Same, Take, Free and Held do. -/
import Derived.Test.YtaihabkacjbfjaaGrRef1
import Derived.Test.YtaihabkacjbfjaaGrW4
import Derived.Test.YtaihabkacjbfjaaGrCut
import Derived.Deep.Cut
namespace Go.Proofs.Ytaihabkacjbfjaa.Gr
open Go.RowKit Go.Proofs.Ytaihabkacjbfjaa.Ce

set_option maxRecDepth 100000 in
set_option maxHeartbeats 1000000 in
/-- Ints: THE SAME LIST TWICE. -/
theorem ints_yes (ao bo : Option Addr) (n cap cap' : Nat) (l : List Int) (w : World) (hs : n ≤ 5000) (HA : Hid (Has w ao n cap l)) (HB : Hid (Has w bo n cap' l)) :
    Calls Try.prog 20 #[.slice ao n cap, .slice bo n cap'] w fun e w' => e = .returned (.bool true) ∧ Below w.heap.size w w' := by
  go_enter Try.func20, Try.ntmps20
  go_wp2
  go_loopw [5] (fun i wr => ∃ k : Nat, k ≤ n ∧ i = .int .i64 k ∧ ∃ nd, wr = w.drewN nd) (fun i _ => n - (intOf i).toNat)
  case atStart => exact ⟨0, Nat.zero_le _, rfl, 0, rfl⟩
  case round =>
    obtain ⟨k, hk, rfl, nd, rfl⟩ := hrel
    by_cases hlt : k < n
    · have i1 : (0 : Int) ≤ (k : Int) := by omega
      have i2 : (k : Int) < (n : Int) := by omega
      obtain ⟨a, rfl, ca⟩ := HA.out.cell k hlt
      obtain ⟨b, rfl, cb⟩ := HB.out.cell k hlt
      obtain ⟨x, hx⟩ : ∃ x, l.getD k 0 = x := ⟨_, rfl⟩
      rw [hx] at ca cb
      clear hx
      go_wp2
      go_quiet (fail)
      go_wp2
      go_roundw
      case rel => exact ⟨k + 1, by omega, by go_num, _, rfl⟩
      case measure => simp [intOf]; omega
    · obtain rfl : k = n := by omega
      go_wp2
      go_ret
      exact ⟨rfl, q_drewN (Below.refl _ _) _⟩
set_option maxRecDepth 100000 in
set_option maxHeartbeats 1000000 in
/-- Same: THE SAME GRAB TWICE. -/
theorem same_yes (who p a t : Int) (bb : Bool) (ao bo : Option Addr) (n cap cap' : Nat) (l : List Int) (w : World) (hs : Hid (n ≤ 5000)) (HA : Hid (Has w ao n cap l)) (HB : Hid (Has w bo n cap' l)) :
    Calls Try.prog 12 #[.agg #[.int .i64 who, .slice ao n cap, .int .i64 p, .int .i64 a, .int .i64 t, .bool bb], .agg #[.int .i64 who, .slice bo n cap', .int .i64 p, .int .i64 a, .int .i64 t, .bool bb]] w fun e w' => e = .returned (.bool true) ∧ Below w.heap.size w w' := by
  go_enter Try.func12, Try.ntmps12
  go_wp2_with fail
  refine (ints_yes ao bo n cap cap' l _ hs.out ((HA.out.below (alloc_below w _)).below (alloc_below _ _)) ((HB.out.below (alloc_below w _)).below (alloc_below _ _))).mono ?_
  rintro e w2 ⟨rfl, b2⟩
  have h1 := ((inG_new w who (.slice ao n cap) p a t bb 25).below (alloc_below _ _)).below b2
  have h2 := (inG_new (w.alloc (.cells #[.int .i64 who, .slice ao n cap, .int .i64 p, .int .i64 a, .int .i64 t, .bool bb] 25)) who (.slice bo n cap') p a t bb 25).below b2
  rw [show (w.alloc (.cells #[.int .i64 who, .slice ao n cap, .int .i64 p, .int .i64 a, .int .i64 t, .bool bb] 25)).heap.size = w.heap.size + 1 by simp] at h2
  obtain ⟨c0, c1, c2, c3, c4, c5, cf⟩ := h1
  obtain ⟨r0, r1, r2, r3, r4, r5, rf⟩ := h2
  have HB2 := hid (q_trans (q_alloc (alloc_below w _) _) b2)
  clear b2 HA HB
  go_wp2_with fail
  go_ret
  exact ⟨rfl, HB2.out⟩
set_option maxRecDepth 100000 in
set_option maxHeartbeats 1000000 in
theorem rheld_at (who p t : Int) (bb : Bool) (a : Int) (k : Nat) (ao : Option Addr) (n cap : Nat) (w : World) (hk : max 0 (min a (n : Int)) = (k : Int)) (h0 : (0 : Int) ≤ (k : Int)) (h1 : (k : Int) ≤ (cap : Int)) :
    Calls Try.prog 22 #[.agg #[.int .i64 who, .slice ao n cap, .int .i64 p, .int .i64 a, .int .i64 t, .bool bb]] w fun e w' => e = .returned (.slice ao k cap) ∧ Below w.heap.size w w' := by
  go_enter Try.func22, Try.ntmps22
  go_wp2_with fail
  go_ret
  exact ⟨rfl, alloc_below w _⟩
theorem held_take {n k : Nat} {who p a t : Int} {bb : Bool} {l : List Int} (hl : n = l.length) (hk : max 0 (min a (n : Int)) = (k : Int)) : heldG ⟨who, l, p, a, t, bb⟩ = l.take k ∧ k = (heldG ⟨who, l, p, a, t, bb⟩).length ∧ k ≤ n := by
  have e : heldG ⟨who, l, p, a, t, bb⟩ = l.take k := by
    unfold heldG
    simp only
    by_cases h : a.toNat ≤ n
    · rw [show a.toNat = k by omega]
    · rw [show k = n by omega, List.take_of_length_le (by omega), List.take_of_length_le (by omega)]
  refine ⟨e, ?_, by omega⟩
  rw [e, List.length_take]
  omega
theorem rheld_any (g : G) (ao : Option Addr) (n cap : Nat) (w : World) (H : Has w ao n cap g.cs) :
    Calls Try.prog 22 #[(.agg #[.int .i64 g.w, .slice ao n cap, .int .i64 g.p, .int .i64 g.a, .int .i64 g.t, .bool g.b])] w fun e w' => e = .returned (.slice ao (heldG g).length cap) ∧ Has w ao (heldG g).length cap (heldG g) ∧ Below w.heap.size w w' := by
  obtain ⟨who, l, p, a, t, bb⟩ := g
  obtain ⟨k, hk⟩ : ∃ k : Nat, max 0 (min a (n : Int)) = (k : Int) := ⟨(max 0 (min a (n : Int))).toNat, by omega⟩
  have hl : n = l.length := H.len
  have hc := H.le
  obtain ⟨e, e2, hkn⟩ := held_take (who := who) (p := p) (t := t) (bb := bb) hl hk
  rw [← e2, e]
  refine (rheld_at who p t bb a k ao n cap w hk (by omega) (by omega)).mono ?_
  rintro e w' ⟨rfl, b⟩
  exact ⟨rfl, H.take k hkn, b⟩
set_option maxRecDepth 100000 in
set_option maxHeartbeats 1000000 in
theorem rfree_no (who p a t : Int) (bb : Bool) (ao : Option Addr) (n cap : Nat) (w : World) (h : (p != 2) = true) :
    Calls Try.prog 19 #[.agg #[.int .i64 who, .slice ao n cap, .int .i64 p, .int .i64 a, .int .i64 t, .bool bb]] w fun e w' => e = .returned (.agg #[.int .i64 who, .slice ao n cap, .int .i64 p, .int .i64 a, .int .i64 t, .bool bb]) ∧ Below w.heap.size w w' := by
  go_enter Try.func19, Try.ntmps19
  go_wp2_with fail
  refine bodyPost_ret (v := .agg #[.int .i64 who, .slice ao n cap, .int .i64 p, .int .i64 a, .int .i64 t, .bool bb]) (by simp [results, Try.results19, go_sem]) rfl ⟨rfl, ?_⟩
  exact q_alloc (alloc_below w _) _
set_option maxRecDepth 100000 in
set_option maxHeartbeats 1000000 in
theorem rfree_none (who a t : Int) (bb : Bool) (ao : Option Addr) (cap : Nat) (w : World) :
    Calls Try.prog 19 #[.agg #[.int .i64 who, .slice ao 0 cap, .int .i64 2, .int .i64 a, .int .i64 t, .bool bb]] w fun e w' => e = .returned (.agg #[.int .i64 who, .slice ao 0 cap, .int .i64 5, .int .i64 a, .int .i64 t, .bool bb]) ∧ Below w.heap.size w w' := by
  go_enter Try.func19, Try.ntmps19
  go_wp2_with fail
  refine bodyPost_ret (v := .agg #[.int .i64 who, .slice ao 0 cap, .int .i64 5, .int .i64 a, .int .i64 t, .bool bb]) (by simp [results, Try.results19, go_sem]) rfl ⟨rfl, ?_⟩
  exact q_alloc (alloc_below w _) _
set_option maxRecDepth 100000 in
set_option maxHeartbeats 1000000 in
theorem rfree_some (who a t : Int) (bb : Bool) (ao : Option Addr) (n cap : Nat) (w : World) (h : ((n : Int) == 0) = false) :
    Calls Try.prog 19 #[.agg #[.int .i64 who, .slice ao n cap, .int .i64 2, .int .i64 a, .int .i64 t, .bool bb]] w fun e w' => e = .returned (.agg #[.int .i64 who, .slice ao n cap, .int .i64 4, .int .i64 a, .int .i64 t, .bool bb]) ∧ Below w.heap.size w w' := by
  go_enter Try.func19, Try.ntmps19
  go_wp2_with fail
  refine bodyPost_ret (v := .agg #[.int .i64 who, .slice ao n cap, .int .i64 4, .int .i64 a, .int .i64 t, .bool bb]) (by simp [results, Try.results19, go_sem]) rfl ⟨rfl, ?_⟩
  exact q_alloc (alloc_below w _) _
theorem rfree_any (g : G) (ao : Option Addr) (n cap : Nat) (w : World) (hl : n = g.cs.length) :
    Calls Try.prog 19 #[(.agg #[.int .i64 g.w, .slice ao n cap, .int .i64 g.p, .int .i64 g.a, .int .i64 g.t, .bool g.b])] w fun e w' => e = .returned (.agg #[.int .i64 (freeG g).w, .slice ao n cap, .int .i64 (freeG g).p, .int .i64 (freeG g).a, .int .i64 (freeG g).t, .bool (freeG g).b]) ∧ Below w.heap.size w w' := by
  obtain ⟨who, l, p, a, t, bb⟩ := g
  simp only at hl ⊢
  unfold freeG
  simp only
  by_cases hp : p = 2
  · subst hp
    rw [if_pos rfl, ← hl]
    by_cases h0 : n = 0
    · subst h0
      exact rfree_none who a t bb ao cap w
    · rw [if_neg h0]
      exact rfree_some who a t bb ao n cap w (by simp; omega)
  · rw [if_neg hp]
    exact rfree_no who p a t bb ao n cap w (by simpa using hp)
set_option maxRecDepth 100000 in
set_option maxHeartbeats 1000000 in
theorem rtake_none (who p a t : Int) (bb : Bool) (ok : Bool) (ao : Option Addr) (n cap : Nat) (l : List Int) (w : World) (H : Hid (Has w ao n cap l)) (hn : Hid (n ≤ 5000)) (hN : Hid (hasN ⟨who, l, p, a, t, bb⟩ = false)) :
    Calls Try.prog 17 #[.agg #[.int .i64 who, .slice ao n cap, .int .i64 p, .int .i64 a, .int .i64 t, .bool bb], .bool ok] w fun e w' => e = .returned (.agg #[.int .i64 who, .slice ao n cap, .int .i64 p, .int .i64 a, .int .i64 t, .bool bb]) ∧ Below w.heap.size w w' := by
  go_enter Try.func17, Try.ntmps17
  go_wp2_with fail
  refine (rnext_any ⟨who, l, p, a, t, bb⟩ ao n cap _ ((H.out.below (alloc_below w _)).below (alloc_below _ _)) hn.out).mono ?_
  rintro e w2 ⟨rfl, b2⟩
  rw [hN.out]
  obtain ⟨h1, h2⟩ := two_new w who (.slice ao n cap) p a t bb
  have n1 : w.heap.size + 1 < w2.heap.size := (h2.below b2).lt
  have m1 : w.heap.size < w2.heap.size := (h1.below b2).lt
  obtain ⟨c0, c1, c2, c3, c4, c5, cf⟩ := h1.below b2
  obtain ⟨r0, r1, r2, r3, r4, r5, rf⟩ := h2.below b2
  have HB := hid (q_trans (q_alloc (alloc_below w _) _) b2)
  clear b2 H h1 h2
  go_wp2_with fail
  refine bodyPost_ret (v := .agg #[.int .i64 who, .slice ao n cap, .int .i64 p, .int .i64 a, .int .i64 t, .bool bb]) (by simp [results, Try.results17, go_sem, r0, r1, r2, r3, r4, r5, n1]) rfl ⟨rfl, ?_⟩
  refine HB.out.trans (Kept.below (S := fun k => k = w.heap.size ∨ k = w.heap.size + 1) ?_ w.heap.size HB.out.size (fun i e => by omega))
  refine Kept.alloc ?_ _
  repeat refine Kept.setCell ?_ _ _ (fun _ => by simp)
  exact Kept.refl _ _
set_option maxRecDepth 100000 in
set_option maxHeartbeats 1000000 in
theorem rtake_more_yes (who a t : Int) (bb : Bool) (ao : Option Addr) (n cap : Nat) (l : List Int) (w : World) (H : Hid (Has w ao n cap l)) (hn : Hid (n ≤ 5000)) (hN : Hid (hasN ⟨who, l, 1, a, t, bb⟩ = true)) (ha : -5 ≤ a) (hb : a ≤ 1000000) (h : (a + 1 == (n : Int)) = true) :
    Calls Try.prog 17 #[.agg #[.int .i64 who, .slice ao n cap, .int .i64 1, .int .i64 a, .int .i64 t, .bool bb], .bool true] w fun e w' => e = .returned (.agg #[.int .i64 who, .slice ao n cap, .int .i64 2, .int .i64 (a + 1), .int .i64 t, .bool bb]) ∧ Below w.heap.size w w' := by
  go_enter Try.func17, Try.ntmps17
  go_wp2_with fail
  refine (rnext_any ⟨who, l, 1, a, t, bb⟩ ao n cap _ ((H.out.below (alloc_below w _)).below (alloc_below _ _)) hn.out).mono ?_
  rintro e w2 ⟨rfl, b2⟩
  rw [hN.out]
  obtain ⟨h1, h2⟩ := two_new w who (.slice ao n cap) 1 a t bb
  have n1 : w.heap.size + 1 < w2.heap.size := (h2.below b2).lt
  have m1 : w.heap.size < w2.heap.size := (h1.below b2).lt
  obtain ⟨c0, c1, c2, c3, c4, c5, cf⟩ := h1.below b2
  obtain ⟨r0, r1, r2, r3, r4, r5, rf⟩ := h2.below b2
  have HB := hid (q_trans (q_alloc (alloc_below w _) _) b2)
  clear b2 H h1 h2
  go_wp2_with fail
  refine bodyPost_ret (v := .agg #[.int .i64 who, .slice ao n cap, .int .i64 2, .int .i64 (a + 1), .int .i64 t, .bool bb]) (by simp [results, Try.results17, go_sem, r0, r1, r2, r3, r4, r5, n1]) rfl ⟨rfl, ?_⟩
  refine HB.out.trans (Kept.below (S := fun k => k = w.heap.size ∨ k = w.heap.size + 1) ?_ w.heap.size HB.out.size (fun i e => by omega))
  refine Kept.alloc ?_ _
  repeat refine Kept.setCell ?_ _ _ (fun _ => by simp)
  exact Kept.refl _ _
set_option maxRecDepth 100000 in
set_option maxHeartbeats 1000000 in
theorem rtake_more_no (who a t : Int) (bb : Bool) (ao : Option Addr) (n cap : Nat) (l : List Int) (w : World) (H : Hid (Has w ao n cap l)) (hn : Hid (n ≤ 5000)) (hN : Hid (hasN ⟨who, l, 1, a, t, bb⟩ = true)) (ha : -5 ≤ a) (hb : a ≤ 1000000) (h : (a + 1 == (n : Int)) = false) :
    Calls Try.prog 17 #[.agg #[.int .i64 who, .slice ao n cap, .int .i64 1, .int .i64 a, .int .i64 t, .bool bb], .bool true] w fun e w' => e = .returned (.agg #[.int .i64 who, .slice ao n cap, .int .i64 1, .int .i64 (a + 1), .int .i64 t, .bool bb]) ∧ Below w.heap.size w w' := by
  go_enter Try.func17, Try.ntmps17
  go_wp2_with fail
  refine (rnext_any ⟨who, l, 1, a, t, bb⟩ ao n cap _ ((H.out.below (alloc_below w _)).below (alloc_below _ _)) hn.out).mono ?_
  rintro e w2 ⟨rfl, b2⟩
  rw [hN.out]
  obtain ⟨h1, h2⟩ := two_new w who (.slice ao n cap) 1 a t bb
  have n1 : w.heap.size + 1 < w2.heap.size := (h2.below b2).lt
  have m1 : w.heap.size < w2.heap.size := (h1.below b2).lt
  obtain ⟨c0, c1, c2, c3, c4, c5, cf⟩ := h1.below b2
  obtain ⟨r0, r1, r2, r3, r4, r5, rf⟩ := h2.below b2
  have HB := hid (q_trans (q_alloc (alloc_below w _) _) b2)
  clear b2 H h1 h2
  go_wp2_with fail
  refine bodyPost_ret (v := .agg #[.int .i64 who, .slice ao n cap, .int .i64 1, .int .i64 (a + 1), .int .i64 t, .bool bb]) (by simp [results, Try.results17, go_sem, r0, r1, r2, r3, r4, r5, n1]) rfl ⟨rfl, ?_⟩
  refine HB.out.trans (Kept.below (S := fun k => k = w.heap.size ∨ k = w.heap.size + 1) ?_ w.heap.size HB.out.size (fun i e => by omega))
  refine Kept.alloc ?_ _
  repeat refine Kept.setCell ?_ _ _ (fun _ => by simp)
  exact Kept.refl _ _
set_option maxRecDepth 100000 in
set_option maxHeartbeats 1000000 in
theorem rtake_wait (who a t : Int) (ao : Option Addr) (n cap : Nat) (l : List Int) (w : World) (H : Hid (Has w ao n cap l)) (hn : Hid (n ≤ 5000)) (hN : Hid (hasN ⟨who, l, 1, a, t, true⟩ = true)) :
    Calls Try.prog 17 #[.agg #[.int .i64 who, .slice ao n cap, .int .i64 1, .int .i64 a, .int .i64 t, .bool true], .bool false] w fun e w' => e = .returned (.agg #[.int .i64 who, .slice ao n cap, .int .i64 1, .int .i64 a, .int .i64 t, .bool true]) ∧ Below w.heap.size w w' := by
  go_enter Try.func17, Try.ntmps17
  go_wp2_with fail
  refine (rnext_any ⟨who, l, 1, a, t, true⟩ ao n cap _ ((H.out.below (alloc_below w _)).below (alloc_below _ _)) hn.out).mono ?_
  rintro e w2 ⟨rfl, b2⟩
  rw [hN.out]
  obtain ⟨h1, h2⟩ := two_new w who (.slice ao n cap) 1 a t true
  have n1 : w.heap.size + 1 < w2.heap.size := (h2.below b2).lt
  have m1 : w.heap.size < w2.heap.size := (h1.below b2).lt
  obtain ⟨c0, c1, c2, c3, c4, c5, cf⟩ := h1.below b2
  obtain ⟨r0, r1, r2, r3, r4, r5, rf⟩ := h2.below b2
  have HB := hid (q_trans (q_alloc (alloc_below w _) _) b2)
  clear b2 H h1 h2
  go_wp2_with fail
  refine bodyPost_ret (v := .agg #[.int .i64 who, .slice ao n cap, .int .i64 1, .int .i64 a, .int .i64 t, .bool true]) (by simp [results, Try.results17, go_sem, r0, r1, r2, r3, r4, r5, n1]) rfl ⟨rfl, ?_⟩
  refine HB.out.trans (Kept.below (S := fun k => k = w.heap.size ∨ k = w.heap.size + 1) ?_ w.heap.size HB.out.size (fun i e => by omega))
  refine Kept.alloc ?_ _
  repeat refine Kept.setCell ?_ _ _ (fun _ => by simp)
  exact Kept.refl _ _
set_option maxRecDepth 100000 in
set_option maxHeartbeats 1000000 in
theorem rtake_ref_yes (who a t : Int) (ao : Option Addr) (n cap : Nat) (l : List Int) (w : World) (H : Hid (Has w ao n cap l)) (hn : Hid (n ≤ 5000)) (hN : Hid (hasN ⟨who, l, 1, a, t, false⟩ = true)) (ht : 0 ≤ t) (hu : t ≤ 1000000) (h : (a != 0) = true) :
    Calls Try.prog 17 #[.agg #[.int .i64 who, .slice ao n cap, .int .i64 1, .int .i64 a, .int .i64 t, .bool false], .bool false] w fun e w' => e = .returned (.agg #[.int .i64 who, .slice ao n cap, .int .i64 3, .int .i64 a, .int .i64 (t + 1), .bool false]) ∧ Below w.heap.size w w' := by
  go_enter Try.func17, Try.ntmps17
  go_wp2_with fail
  refine (rnext_any ⟨who, l, 1, a, t, false⟩ ao n cap _ ((H.out.below (alloc_below w _)).below (alloc_below _ _)) hn.out).mono ?_
  rintro e w2 ⟨rfl, b2⟩
  rw [hN.out]
  obtain ⟨h1, h2⟩ := two_new w who (.slice ao n cap) 1 a t false
  have n1 : w.heap.size + 1 < w2.heap.size := (h2.below b2).lt
  have m1 : w.heap.size < w2.heap.size := (h1.below b2).lt
  obtain ⟨c0, c1, c2, c3, c4, c5, cf⟩ := h1.below b2
  obtain ⟨r0, r1, r2, r3, r4, r5, rf⟩ := h2.below b2
  have HB := hid (q_trans (q_alloc (alloc_below w _) _) b2)
  clear b2 H h1 h2
  go_wp2_with fail
  refine bodyPost_ret (v := .agg #[.int .i64 who, .slice ao n cap, .int .i64 3, .int .i64 a, .int .i64 (t + 1), .bool false]) (by simp [results, Try.results17, go_sem, r0, r1, r2, r3, r4, r5, n1]) rfl ⟨rfl, ?_⟩
  refine HB.out.trans (Kept.below (S := fun k => k = w.heap.size ∨ k = w.heap.size + 1) ?_ w.heap.size HB.out.size (fun i e => by omega))
  refine Kept.alloc ?_ _
  repeat refine Kept.setCell ?_ _ _ (fun _ => by simp)
  exact Kept.refl _ _
set_option maxRecDepth 100000 in
set_option maxHeartbeats 1000000 in
theorem rtake_ref_no (who a t : Int) (ao : Option Addr) (n cap : Nat) (l : List Int) (w : World) (H : Hid (Has w ao n cap l)) (hn : Hid (n ≤ 5000)) (hN : Hid (hasN ⟨who, l, 1, a, t, false⟩ = true)) (ht : 0 ≤ t) (hu : t ≤ 1000000) (h : (a != 0) = false) :
    Calls Try.prog 17 #[.agg #[.int .i64 who, .slice ao n cap, .int .i64 1, .int .i64 a, .int .i64 t, .bool false], .bool false] w fun e w' => e = .returned (.agg #[.int .i64 who, .slice ao n cap, .int .i64 1, .int .i64 a, .int .i64 (t + 1), .bool false]) ∧ Below w.heap.size w w' := by
  go_enter Try.func17, Try.ntmps17
  go_wp2_with fail
  refine (rnext_any ⟨who, l, 1, a, t, false⟩ ao n cap _ ((H.out.below (alloc_below w _)).below (alloc_below _ _)) hn.out).mono ?_
  rintro e w2 ⟨rfl, b2⟩
  rw [hN.out]
  obtain ⟨h1, h2⟩ := two_new w who (.slice ao n cap) 1 a t false
  have n1 : w.heap.size + 1 < w2.heap.size := (h2.below b2).lt
  have m1 : w.heap.size < w2.heap.size := (h1.below b2).lt
  obtain ⟨c0, c1, c2, c3, c4, c5, cf⟩ := h1.below b2
  obtain ⟨r0, r1, r2, r3, r4, r5, rf⟩ := h2.below b2
  have HB := hid (q_trans (q_alloc (alloc_below w _) _) b2)
  clear b2 H h1 h2
  go_wp2_with fail
  refine bodyPost_ret (v := .agg #[.int .i64 who, .slice ao n cap, .int .i64 1, .int .i64 a, .int .i64 (t + 1), .bool false]) (by simp [results, Try.results17, go_sem, r0, r1, r2, r3, r4, r5, n1]) rfl ⟨rfl, ?_⟩
  refine HB.out.trans (Kept.below (S := fun k => k = w.heap.size ∨ k = w.heap.size + 1) ?_ w.heap.size HB.out.size (fun i e => by omega))
  refine Kept.alloc ?_ _
  repeat refine Kept.setCell ?_ _ _ (fun _ => by simp)
  exact Kept.refl _ _
set_option maxRecDepth 100000 in
set_option maxHeartbeats 1000000 in
theorem rtake_less3_more (who a t : Int) (bb : Bool) (ok : Bool) (ao : Option Addr) (n cap : Nat) (l : List Int) (w : World) (H : Hid (Has w ao n cap l)) (hn : Hid (n ≤ 5000)) (hN : Hid (hasN ⟨who, l, 3, a, t, bb⟩ = true)) (ha : -5 ≤ a) (hb : a ≤ 1000000) (h : (a - 1 == 0) = false) :
    Calls Try.prog 17 #[.agg #[.int .i64 who, .slice ao n cap, .int .i64 3, .int .i64 a, .int .i64 t, .bool bb], .bool ok] w fun e w' => e = .returned (.agg #[.int .i64 who, .slice ao n cap, .int .i64 3, .int .i64 (a - 1), .int .i64 t, .bool bb]) ∧ Below w.heap.size w w' := by
  go_enter Try.func17, Try.ntmps17
  go_wp2_with fail
  refine (rnext_any ⟨who, l, 3, a, t, bb⟩ ao n cap _ ((H.out.below (alloc_below w _)).below (alloc_below _ _)) hn.out).mono ?_
  rintro e w2 ⟨rfl, b2⟩
  rw [hN.out]
  obtain ⟨h1, h2⟩ := two_new w who (.slice ao n cap) 3 a t bb
  have n1 : w.heap.size + 1 < w2.heap.size := (h2.below b2).lt
  have m1 : w.heap.size < w2.heap.size := (h1.below b2).lt
  obtain ⟨c0, c1, c2, c3, c4, c5, cf⟩ := h1.below b2
  obtain ⟨r0, r1, r2, r3, r4, r5, rf⟩ := h2.below b2
  have HB := hid (q_trans (q_alloc (alloc_below w _) _) b2)
  clear b2 H h1 h2
  go_wp2_with fail
  refine bodyPost_ret (v := .agg #[.int .i64 who, .slice ao n cap, .int .i64 3, .int .i64 (a - 1), .int .i64 t, .bool bb]) (by simp [results, Try.results17, go_sem, r0, r1, r2, r3, r4, r5, n1]) rfl ⟨rfl, ?_⟩
  refine HB.out.trans (Kept.below (S := fun k => k = w.heap.size ∨ k = w.heap.size + 1) ?_ w.heap.size HB.out.size (fun i e => by omega))
  refine Kept.alloc ?_ _
  repeat refine Kept.setCell ?_ _ _ (fun _ => by simp)
  exact Kept.refl _ _
set_option maxRecDepth 100000 in
set_option maxHeartbeats 1000000 in
theorem rtake_less3_end (who a t : Int) (bb : Bool) (ok : Bool) (ao : Option Addr) (n cap : Nat) (l : List Int) (w : World) (H : Hid (Has w ao n cap l)) (hn : Hid (n ≤ 5000)) (hN : Hid (hasN ⟨who, l, 3, a, t, bb⟩ = true)) (ha : -5 ≤ a) (hb : a ≤ 1000000) (h : (a - 1 == 0) = true) :
    Calls Try.prog 17 #[.agg #[.int .i64 who, .slice ao n cap, .int .i64 3, .int .i64 a, .int .i64 t, .bool bb], .bool ok] w fun e w' => e = .returned (.agg #[.int .i64 who, .slice ao n cap, .int .i64 1, .int .i64 (a - 1), .int .i64 t, .bool bb]) ∧ Below w.heap.size w w' := by
  go_enter Try.func17, Try.ntmps17
  go_wp2_with fail
  refine (rnext_any ⟨who, l, 3, a, t, bb⟩ ao n cap _ ((H.out.below (alloc_below w _)).below (alloc_below _ _)) hn.out).mono ?_
  rintro e w2 ⟨rfl, b2⟩
  rw [hN.out]
  obtain ⟨h1, h2⟩ := two_new w who (.slice ao n cap) 3 a t bb
  have n1 : w.heap.size + 1 < w2.heap.size := (h2.below b2).lt
  have m1 : w.heap.size < w2.heap.size := (h1.below b2).lt
  obtain ⟨c0, c1, c2, c3, c4, c5, cf⟩ := h1.below b2
  obtain ⟨r0, r1, r2, r3, r4, r5, rf⟩ := h2.below b2
  have HB := hid (q_trans (q_alloc (alloc_below w _) _) b2)
  clear b2 H h1 h2
  go_wp2_with fail
  refine bodyPost_ret (v := .agg #[.int .i64 who, .slice ao n cap, .int .i64 1, .int .i64 (a - 1), .int .i64 t, .bool bb]) (by simp [results, Try.results17, go_sem, r0, r1, r2, r3, r4, r5, n1]) rfl ⟨rfl, ?_⟩
  refine HB.out.trans (Kept.below (S := fun k => k = w.heap.size ∨ k = w.heap.size + 1) ?_ w.heap.size HB.out.size (fun i e => by omega))
  refine Kept.alloc ?_ _
  repeat refine Kept.setCell ?_ _ _ (fun _ => by simp)
  exact Kept.refl _ _
set_option maxRecDepth 100000 in
set_option maxHeartbeats 1000000 in
theorem rtake_less4_more (who a t : Int) (bb : Bool) (ok : Bool) (ao : Option Addr) (n cap : Nat) (l : List Int) (w : World) (H : Hid (Has w ao n cap l)) (hn : Hid (n ≤ 5000)) (hN : Hid (hasN ⟨who, l, 4, a, t, bb⟩ = true)) (ha : -5 ≤ a) (hb : a ≤ 1000000) (h : (a - 1 == 0) = false) :
    Calls Try.prog 17 #[.agg #[.int .i64 who, .slice ao n cap, .int .i64 4, .int .i64 a, .int .i64 t, .bool bb], .bool ok] w fun e w' => e = .returned (.agg #[.int .i64 who, .slice ao n cap, .int .i64 4, .int .i64 (a - 1), .int .i64 t, .bool bb]) ∧ Below w.heap.size w w' := by
  go_enter Try.func17, Try.ntmps17
  go_wp2_with fail
  refine (rnext_any ⟨who, l, 4, a, t, bb⟩ ao n cap _ ((H.out.below (alloc_below w _)).below (alloc_below _ _)) hn.out).mono ?_
  rintro e w2 ⟨rfl, b2⟩
  rw [hN.out]
  obtain ⟨h1, h2⟩ := two_new w who (.slice ao n cap) 4 a t bb
  have n1 : w.heap.size + 1 < w2.heap.size := (h2.below b2).lt
  have m1 : w.heap.size < w2.heap.size := (h1.below b2).lt
  obtain ⟨c0, c1, c2, c3, c4, c5, cf⟩ := h1.below b2
  obtain ⟨r0, r1, r2, r3, r4, r5, rf⟩ := h2.below b2
  have HB := hid (q_trans (q_alloc (alloc_below w _) _) b2)
  clear b2 H h1 h2
  go_wp2_with fail
  refine bodyPost_ret (v := .agg #[.int .i64 who, .slice ao n cap, .int .i64 4, .int .i64 (a - 1), .int .i64 t, .bool bb]) (by simp [results, Try.results17, go_sem, r0, r1, r2, r3, r4, r5, n1]) rfl ⟨rfl, ?_⟩
  refine HB.out.trans (Kept.below (S := fun k => k = w.heap.size ∨ k = w.heap.size + 1) ?_ w.heap.size HB.out.size (fun i e => by omega))
  refine Kept.alloc ?_ _
  repeat refine Kept.setCell ?_ _ _ (fun _ => by simp)
  exact Kept.refl _ _
set_option maxRecDepth 100000 in
set_option maxHeartbeats 1000000 in
theorem rtake_less4_end (who a t : Int) (bb : Bool) (ok : Bool) (ao : Option Addr) (n cap : Nat) (l : List Int) (w : World) (H : Hid (Has w ao n cap l)) (hn : Hid (n ≤ 5000)) (hN : Hid (hasN ⟨who, l, 4, a, t, bb⟩ = true)) (ha : -5 ≤ a) (hb : a ≤ 1000000) (h : (a - 1 == 0) = true) :
    Calls Try.prog 17 #[.agg #[.int .i64 who, .slice ao n cap, .int .i64 4, .int .i64 a, .int .i64 t, .bool bb], .bool ok] w fun e w' => e = .returned (.agg #[.int .i64 who, .slice ao n cap, .int .i64 5, .int .i64 (a - 1), .int .i64 t, .bool bb]) ∧ Below w.heap.size w w' := by
  go_enter Try.func17, Try.ntmps17
  go_wp2_with fail
  refine (rnext_any ⟨who, l, 4, a, t, bb⟩ ao n cap _ ((H.out.below (alloc_below w _)).below (alloc_below _ _)) hn.out).mono ?_
  rintro e w2 ⟨rfl, b2⟩
  rw [hN.out]
  obtain ⟨h1, h2⟩ := two_new w who (.slice ao n cap) 4 a t bb
  have n1 : w.heap.size + 1 < w2.heap.size := (h2.below b2).lt
  have m1 : w.heap.size < w2.heap.size := (h1.below b2).lt
  obtain ⟨c0, c1, c2, c3, c4, c5, cf⟩ := h1.below b2
  obtain ⟨r0, r1, r2, r3, r4, r5, rf⟩ := h2.below b2
  have HB := hid (q_trans (q_alloc (alloc_below w _) _) b2)
  clear b2 H h1 h2
  go_wp2_with fail
  refine bodyPost_ret (v := .agg #[.int .i64 who, .slice ao n cap, .int .i64 5, .int .i64 (a - 1), .int .i64 t, .bool bb]) (by simp [results, Try.results17, go_sem, r0, r1, r2, r3, r4, r5, n1]) rfl ⟨rfl, ?_⟩
  refine HB.out.trans (Kept.below (S := fun k => k = w.heap.size ∨ k = w.heap.size + 1) ?_ w.heap.size HB.out.size (fun i e => by omega))
  refine Kept.alloc ?_ _
  repeat refine Kept.setCell ?_ _ _ (fun _ => by simp)
  exact Kept.refl _ _
/-- THE SAME (the document's). -/
theorem rtake_any (g : G) (ok : Bool) (ao : Option Addr) (n cap : Nat) (w : World) (H : Has w ao n cap g.cs) (hn : n ≤ 5000) (ha : -5 ≤ g.a ∧ g.a ≤ 1000000) (ht : 0 ≤ g.t ∧ g.t ≤ 1000000) :
    Calls Try.prog 17 #[(.agg #[.int .i64 g.w, .slice ao n cap, .int .i64 g.p, .int .i64 g.a, .int .i64 g.t, .bool g.b]), .bool ok] w fun e w' => e = .returned (.agg #[.int .i64 (takeG g ok).w, .slice ao n cap, .int .i64 (takeG g ok).p, .int .i64 (takeG g ok).a, .int .i64 (takeG g ok).t, .bool (takeG g ok).b]) ∧ Below w.heap.size w w' := by
  obtain ⟨who, l, p, a, t, bb⟩ := g
  have hl : n = l.length := H.len
  simp only at ha ht H ⊢
  cases hN : hasN ⟨who, l, p, a, t, bb⟩ with
  | false =>
    have e : takeG ⟨who, l, p, a, t, bb⟩ ok = ⟨who, l, p, a, t, bb⟩ := by simp [takeG, hN]
    rw [e]
    exact rtake_none who p a t bb ok ao n cap l w H hn hN
  | true =>
    have hb := has_iff.1 hN
    simp only at hb
    have e0 : takeG ⟨who, l, p, a, t, bb⟩ ok = _ := if_pos hN
    rw [e0]
    simp only
    by_cases h1 : p = 1
    · subst h1
      rw [if_pos rfl]
      cases ok with
      | true =>
        rw [if_pos rfl, ← hl]
        by_cases he : a + 1 = (n : Int)
        · rw [if_pos he]
          exact rtake_more_yes who a t bb ao n cap l w H hn hN ha.1 ha.2 (by simpa using he)
        · rw [if_neg he]
          exact rtake_more_no who a t bb ao n cap l w H hn hN ha.1 ha.2 (by simpa using he)
      | false =>
        rw [if_neg (by decide)]
        cases bb with
        | true => exact rtake_wait who a t ao n cap l w H hn hN
        | false =>
          rw [if_neg (by decide)]
          by_cases he : a = 0
          · rw [if_pos he]
            exact rtake_ref_no who a t ao n cap l w H hn hN ht.1 ht.2 (by simpa using he)
          · rw [if_neg he]
            exact rtake_ref_yes who a t ao n cap l w H hn hN ht.1 ht.2 (by simpa using he)
    · rw [if_neg h1]
      have h34 : p = 3 ∨ p = 4 := by omega
      by_cases he : a - 1 = 0
      · rw [if_pos he]
        rcases h34 with rfl | rfl
        · exact rtake_less3_end who a t bb ok ao n cap l w H hn hN ha.1 ha.2 (by simpa using he)
        · exact rtake_less4_end who a t bb ok ao n cap l w H hn hN ha.1 ha.2 (by simpa using he)
      · rw [if_neg he]
        rcases h34 with rfl | rfl
        · exact rtake_less3_more who a t bb ok ao n cap l w H hn hN ha.1 ha.2 (by simpa using he)
        · exact rtake_less4_more who a t bb ok ao n cap l w H hn hN ha.1 ha.2 (by simpa using he)
end Go.Proofs.Ytaihabkacjbfjaa.Gr
