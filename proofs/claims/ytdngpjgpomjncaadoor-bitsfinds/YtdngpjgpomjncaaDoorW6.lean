/- What High answers: the last one of those that are set. -/
import Derived.Test.YtdngpjgpomjncaaDoorW2
namespace Go.Proofs.YtdngpjgpomjncaaDoor
open Go.RowKit Go.Shelf
attribute [local go_sem] Oper.semAt_some

def lastI (l : List Nat) : Int := ((l.getLast?).getD 0 : Nat)
def lastB (l : List Nat) : Bool := (l.getLast?).isSome
theorem lastI_snoc (l : List Nat) (k : Nat) : lastI (l ++ [k]) = k := by simp [lastI]
theorem lastB_snoc (l : List Nat) (k : Nat) : lastB (l ++ [k]) = true := by simp [lastB]

set_option maxRecDepth 100000 in
set_option maxHeartbeats 2000000 in
theorem high_in (F : Fence) (n : Nat) (h3 : F.fn 19) (h5 : F.fn 31) (h6 : F.fn 33) (hro : F.round = none) (hn : 3 ≤ n) (x : Nat) (hx : Hid (x < 18446744073709551616)) (w : World) :
    CallsIn F n Tryd.prog 19 #[.int .u64 x] w fun e W' => e = .returned (.tuple #[.int .i64 (lastI (upto x 64)), .bool (lastB (upto x 64))]) ∧ Below w.heap.size w W' := by
  have h1 : 1 ≤ n := by omega
  refine callsIn_of_wp_marks Tryd.func19 rfl h3 ?_ hro
  simp only [Tryd.ntmps19, List.size_toArray, List.length_cons, List.length_nil, Nat.reduceAdd, Nat.reduceSub, Array.replicate_succ, Array.replicate_zero, List.push_toArray, List.append_toArray, List.nil_append, List.cons_append]
  gi_wp2_with (gi_at_call 31; refine (ones_in F (n - 1) h5 hro _ _).mono ?_; rintro e w' ⟨rfl, rfl⟩)
  have c1 := cell_new_l w (.int .i64 0) 3
  have c2 := cell_new_l (w.alloc (.cells #[.int .i64 0] 3)) (.bool false) 4
  have c3 := cell_new_l ((w.alloc (.cells #[.int .i64 0] 3)).alloc (.cells #[.bool false] 4)) (.int .u64 x) 22
  simp only [World.size_alloc] at c2 c3
  have hB0 : Below w.heap.size w (((w.alloc (.cells #[.int .i64 0] 3)).alloc (.cells #[.bool false] 4)).alloc (.cells #[.int .u64 x] 22)) := (((Below.refl _ w).alloc (Nat.le_refl _) _).alloc (by simp) _).alloc (by simp; omega) _
  refine wpIn_rangeFunc_ownF hro h1 (gf := 33) (lb := #[.pointer (some ⟨w.heap.size + 1 + 1, 0, none⟩)]) rfl h6 (enters_of Tryd.func33 (by kernel_rfl) rfl)
    (ones_stops F (n - 1) h6 hro (by omega) (w.heap.size + 1 + 1) x hx _ (by simp) c3.1) keepC_t (keepC_b (by simp)) (Below.refl _ _) (fun _ => rfl)
    (fun pre W => ((W.cell? ⟨w.heap.size, 0, none⟩ = some (.int .i64 (lastI pre)) ∧ W.frozen? ⟨w.heap.size, 0, none⟩ = false) ∧ W.cell? ⟨w.heap.size + 1, 0, none⟩ = some (.bool (lastB pre)) ∧ W.frozen? ⟨w.heap.size + 1, 0, none⟩ = false) ∧ Below w.heap.size w W)
    (fun _ _ _ => False)
    (OwnFrom.and (Own.from (fun s A B row hs hg hr => ⟨⟨cell_kept hs.1.1 hg hr, (frozen_kept hs.1.1 hg hr).trans hs.1.2⟩, cell_kept hs.2.1 hg hr, (frozen_kept hs.2.1 hg hr).trans hs.2.2⟩) _) (ownFrom_below (Nat.le_refl _) (by simp; omega)))
    (fun _ _ _ _ _ hs _ _ => hs)
    ⟨⟨⟨cell_alloc_l _ (cell_alloc_l _ c1.1), frozen_alloc_l _ (cell_alloc_l _ c1.1) (frozen_alloc_l _ c1.1 c1.2)⟩, cell_alloc_l _ c2.1, frozen_alloc_l _ c2.1 c2.2⟩, hB0⟩
    (fun k => { tmps := #[.int .u64 x, undef, .int .i64 0, .bool false, .pointer (some ⟨w.heap.size, 0, none⟩), .pointer (some ⟨w.heap.size + 1, 0, none⟩), .int .i64 k, .int .u64 x, .func (.func 33) #[] #[.pointer (some ⟨w.heap.size + 1 + 1, 0, none⟩)], .int .i64 k, undef, undef, undef], defers := [] }) ?assign ?body ?done ?stop
  case assign =>
    intro l k W K hK
    gi_wp2
    exact hK
  case body =>
    rintro l pre k W ⟨⟨⟨hc1, hf1⟩, hc2, hf2⟩, hB⟩ _
    gi_wp2
    refine ⟨(KeepsOthers.setCell W ⟨w.heap.size, 0, none⟩ (.int .i64 k)).trans (KeepsOthers.setCell _ ⟨w.heap.size + 1, 0, none⟩ (.bool true)), keepC_t (keepC_set W _ (by omega)) (keepC_set _ _ (by omega)), ⟨⟨?_, by rw [World.frozen?_setCell, World.frozen?_setCell]; exact hf1⟩, ?_, by rw [World.frozen?_setCell, World.frozen?_setCell]; exact hf2⟩, (hB.setCell (p := ⟨w.heap.size, 0, none⟩) (by simp) _).setCell (p := ⟨w.heap.size + 1, 0, none⟩) (by simp) _⟩
    · rw [lastI_snoc]; exact (World.cell?_setCell_other _ _ _ _ (by intro e; injection e; omega)).trans (World.cell?_setCell_same' _ _ _ (by rw [hc1]; rfl))
    · rw [lastB_snoc]; exact World.cell?_setCell_same' _ _ _ (by rw [World.cell?_setCell_other _ _ _ _ (by intro e; injection e; omega), hc2]; rfl)
  case done =>
    rintro D ys W hD rfl ⟨⟨⟨hc1, hf1⟩, hc2, hf2⟩, hB⟩ hK
    gi_wp2
    gi_region
    all_goals gi_wp2
    all_goals
      refine ⟨by simp, .inl ⟨_, _, rfl, run_takeDeferred (show W.drew.heap[D]? = _ from hK), ?_⟩⟩
      exact ⟨_, results_tmp2 rfl _ _ _, rfl, hB.drew.trans (belowK_b (w := w) (Nat.le_refl _) W.drew D _ _ (by simp at hD; omega) hK rfl rfl)⟩
  case stop =>
    rintro D c pre W _ _ h _
    exact h.elim

theorem high_any (x : Nat) (hx : x < 18446744073709551616) (w : World) :
    Calls Tryd.prog 19 #[.int .u64 x] w fun e W' => e = .returned (.tuple #[.int .i64 (lastI (upto x 64)), .bool (lastB (upto x 64))]) ∧ Below w.heap.size w W' :=
  (callsIn_wide (n := 3)).1 (high_in Fence.wide 3 trivial trivial trivial rfl (by omega) x hx w)
end Go.Proofs.YtdngpjgpomjncaaDoor
