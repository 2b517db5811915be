/- What apart, oneMore, refused, oneLess do. -/
import Derived.Test.YtaihabkacjbfjaaGrMem
import Derived.Laws.NewBlocks
namespace Go.Proofs.Ytaihabkacjbfjaa.Gr
open Go.RowKit Go.Proofs.Ytaihabkacjbfjaa.Ce

set_option maxRecDepth 100000 in
set_option maxHeartbeats 1000000 in
theorem more_yes (who p a t : Int) (bb : Bool) (ao : Option Addr) (n cap : Nat) (w : World) (ha : -5 ≤ a) (hb : a ≤ 1000000) (h : (a + 1 == (n : Int)) = true) :
    Calls Try.prog 32 #[.agg #[.int .i64 who, .slice ao n cap, .int .i64 p, .int .i64 a, .int .i64 t, .bool bb]] w fun e w' => e = .returned (.agg #[.int .i64 who, .slice ao n cap, .int .i64 2, .int .i64 (a + 1), .int .i64 t, .bool bb]) ∧ Below w.heap.size w w' := by
  go_enter Try.func32, Try.ntmps32
  go_wp2_with fail
  refine bodyPost_ret (v := .agg #[.int .i64 who, .slice ao n cap, .int .i64 2, .int .i64 (a + 1), .int .i64 t, .bool bb]) (by simp [results, Try.results32, go_sem]) rfl ⟨rfl, ?_⟩
  exact q_alloc (alloc_below w _) _
set_option maxRecDepth 100000 in
set_option maxHeartbeats 1000000 in
theorem more_no (who p a t : Int) (bb : Bool) (ao : Option Addr) (n cap : Nat) (w : World) (ha : -5 ≤ a) (hb : a ≤ 1000000) (h : (a + 1 == (n : Int)) = false) :
    Calls Try.prog 32 #[.agg #[.int .i64 who, .slice ao n cap, .int .i64 p, .int .i64 a, .int .i64 t, .bool bb]] w fun e w' => e = .returned (.agg #[.int .i64 who, .slice ao n cap, .int .i64 p, .int .i64 (a + 1), .int .i64 t, .bool bb]) ∧ Below w.heap.size w w' := by
  go_enter Try.func32, Try.ntmps32
  go_wp2_with fail
  refine bodyPost_ret (v := .agg #[.int .i64 who, .slice ao n cap, .int .i64 p, .int .i64 (a + 1), .int .i64 t, .bool bb]) (by simp [results, Try.results32, go_sem]) rfl ⟨rfl, ?_⟩
  exact q_alloc (alloc_below w _) _
set_option maxRecDepth 100000 in
set_option maxHeartbeats 1000000 in
theorem ref_yes (who p a t : Int) (bb : Bool) (ao : Option Addr) (n cap : Nat) (w : World) (ht : 0 ≤ t) (hu : t ≤ 1000000) (h : (a != 0) = true) :
    Calls Try.prog 33 #[.agg #[.int .i64 who, .slice ao n cap, .int .i64 p, .int .i64 a, .int .i64 t, .bool bb]] w fun e w' => e = .returned (.agg #[.int .i64 who, .slice ao n cap, .int .i64 3, .int .i64 a, .int .i64 (t + 1), .bool bb]) ∧ Below w.heap.size w w' := by
  go_enter Try.func33, Try.ntmps33
  go_wp2_with fail
  refine bodyPost_ret (v := .agg #[.int .i64 who, .slice ao n cap, .int .i64 3, .int .i64 a, .int .i64 (t + 1), .bool bb]) (by simp [results, Try.results33, go_sem]) rfl ⟨rfl, ?_⟩
  exact q_alloc (alloc_below w _) _
set_option maxRecDepth 100000 in
set_option maxHeartbeats 1000000 in
theorem ref_no (who p a t : Int) (bb : Bool) (ao : Option Addr) (n cap : Nat) (w : World) (ht : 0 ≤ t) (hu : t ≤ 1000000) (h : (a != 0) = false) :
    Calls Try.prog 33 #[.agg #[.int .i64 who, .slice ao n cap, .int .i64 p, .int .i64 a, .int .i64 t, .bool bb]] w fun e w' => e = .returned (.agg #[.int .i64 who, .slice ao n cap, .int .i64 p, .int .i64 a, .int .i64 (t + 1), .bool bb]) ∧ Below w.heap.size w w' := by
  go_enter Try.func33, Try.ntmps33
  go_wp2_with fail
  refine bodyPost_ret (v := .agg #[.int .i64 who, .slice ao n cap, .int .i64 p, .int .i64 a, .int .i64 (t + 1), .bool bb]) (by simp [results, Try.results33, go_sem]) rfl ⟨rfl, ?_⟩
  exact q_alloc (alloc_below w _) _
set_option maxRecDepth 100000 in
set_option maxHeartbeats 1000000 in
theorem less_more (who p a t : Int) (bb : Bool) (ao : Option Addr) (n cap : Nat) (w : World) (ha : -5 ≤ a) (hb : a ≤ 1000000) (h : (a - 1 != 0) = true) :
    Calls Try.prog 31 #[.agg #[.int .i64 who, .slice ao n cap, .int .i64 p, .int .i64 a, .int .i64 t, .bool bb]] w fun e w' => e = .returned (.agg #[.int .i64 who, .slice ao n cap, .int .i64 p, .int .i64 (a - 1), .int .i64 t, .bool bb]) ∧ Below w.heap.size w w' := by
  go_enter Try.func31, Try.ntmps31
  go_wp2_with fail
  refine bodyPost_ret (v := .agg #[.int .i64 who, .slice ao n cap, .int .i64 p, .int .i64 (a - 1), .int .i64 t, .bool bb]) (by simp [results, Try.results31, go_sem]) rfl ⟨rfl, ?_⟩
  exact q_alloc (alloc_below w _) _
set_option maxRecDepth 100000 in
set_option maxHeartbeats 1000000 in
theorem less_back (who a t : Int) (bb : Bool) (ao : Option Addr) (n cap : Nat) (w : World) (ha : -5 ≤ a) (hb : a ≤ 1000000) (h : (a - 1 != 0) = false) :
    Calls Try.prog 31 #[.agg #[.int .i64 who, .slice ao n cap, .int .i64 3, .int .i64 a, .int .i64 t, .bool bb]] w fun e w' => e = .returned (.agg #[.int .i64 who, .slice ao n cap, .int .i64 1, .int .i64 (a - 1), .int .i64 t, .bool bb]) ∧ Below w.heap.size w w' := by
  go_enter Try.func31, Try.ntmps31
  go_wp2_with fail
  refine bodyPost_ret (v := .agg #[.int .i64 who, .slice ao n cap, .int .i64 1, .int .i64 (a - 1), .int .i64 t, .bool bb]) (by simp [results, Try.results31, go_sem]) rfl ⟨rfl, ?_⟩
  exact q_alloc (alloc_below w _) _
set_option maxRecDepth 100000 in
set_option maxHeartbeats 1000000 in
theorem less_done (who a t : Int) (bb : Bool) (ao : Option Addr) (n cap : Nat) (w : World) (ha : -5 ≤ a) (hb : a ≤ 1000000) (h : (a - 1 != 0) = false) :
    Calls Try.prog 31 #[.agg #[.int .i64 who, .slice ao n cap, .int .i64 4, .int .i64 a, .int .i64 t, .bool bb]] w fun e w' => e = .returned (.agg #[.int .i64 who, .slice ao n cap, .int .i64 5, .int .i64 (a - 1), .int .i64 t, .bool bb]) ∧ Below w.heap.size w w' := by
  go_enter Try.func31, Try.ntmps31
  go_wp2_with fail
  refine bodyPost_ret (v := .agg #[.int .i64 who, .slice ao n cap, .int .i64 5, .int .i64 (a - 1), .int .i64 t, .bool bb]) (by simp [results, Try.results31, go_sem]) rfl ⟨rfl, ?_⟩
  exact q_alloc (alloc_below w _) _
set_option maxRecDepth 100000 in
set_option maxHeartbeats 1000000 in
/-- APART: THE SAME, WITH CELLS OF ITS OWN. -/
theorem apart_any (who p a t : Int) (bb : Bool) (ao : Option Addr) (n cap : Nat) (l : List Int) (w : World) (H : Hid (Has w ao n cap l)) (hn : Hid (n ≤ 5000)) :
    Calls Try.prog 30 #[.agg #[.int .i64 who, .slice ao n cap, .int .i64 p, .int .i64 a, .int .i64 t, .bool bb]] w fun e w' => ∃ ao' cap', e = .returned (.agg #[.int .i64 who, .slice ao' n cap', .int .i64 p, .int .i64 a, .int .i64 t, .bool bb]) ∧ Mine w' w.heap.size ao' n cap' l ∧ Below w.heap.size w w' := by
  go_enter Try.func30, Try.ntmps30
  go_wp2_with fail
  refine (clone_mine ao n cap l _ ((H.out.below (alloc_below w _)).below (alloc_below _ _)) hn.out).mono ?_
  rintro e w2 ⟨ao', cap', rfl, hm, b2⟩
  have HI := ((inG_new w who (.slice ao n cap) p a t bb 25).below (alloc_below _ _)).below b2
  have HR := (inG_new (w.alloc (.cells #[.int .i64 who, .slice ao n cap, .int .i64 p, .int .i64 a, .int .i64 t, .bool bb] 25)) 0 (.slice none 0 0) 0 0 0 false 25).below b2
  rw [show (w.alloc (.cells #[.int .i64 who, .slice ao n cap, .int .i64 p, .int .i64 a, .int .i64 t, .bool bb] 25)).heap.size = w.heap.size + 1 by simp] at HR
  have n1 : w.heap.size + 1 < w2.heap.size := HR.lt
  obtain ⟨c0, c1, c2, c3, c4, c5, cf⟩ := HI
  obtain ⟨r0, r1, r2, r3, r4, r5, rf⟩ := HR
  have HM : Hid (Mine w2 (w.heap.size + 2) ao' n cap' l) := by
    simp at hm
    exact hm
  have HB := hid (q_trans (q_alloc (alloc_below w _) _) b2)
  clear hm b2 H hn
  go_wp2_with fail
  refine bodyPost_ret (v := .agg #[.int .i64 who, .slice ao' n cap', .int .i64 p, .int .i64 a, .int .i64 t, .bool bb]) (by simp [results, Try.results30, go_sem, r0, r1, r2, r3, r4, r5]) rfl ⟨ao', cap', rfl, ?_, ?_⟩
  · refine HM.out.kept (S := fun k => k = w.heap.size ∨ k = w.heap.size + 1) ?_ (fun i h e => by omega) (by omega)
    iterate 7 refine Kept.setCell ?_ _ _ (fun _ => by simp)
    exact Kept.refl _ _
  · refine HB.out.trans (Kept.below (S := fun k => k = w.heap.size ∨ k = w.heap.size + 1) ?_ w.heap.size HB.out.size (fun i e => by omega))
    iterate 7 refine Kept.setCell ?_ _ _ (fun _ => by simp)
    exact Kept.refl _ _
end Go.Proofs.Ytaihabkacjbfjaa.Gr
