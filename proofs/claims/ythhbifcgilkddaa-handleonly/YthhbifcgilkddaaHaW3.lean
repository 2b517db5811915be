/- What Bump does; the document's. -/
import Derived.Test.YthhbifcgilkddaaHaW2
import Derived.Laws.CopyOwn
namespace Go.Proofs.Ythhbifcgilkddaa.Ha
open Go.RowKit

theorem sizeN : (Try.prog.info? 3).map (·.size) = some 1 := by kernel_rfl
theorem makeN (n : Nat) (hn : n ≤ 5000) (w : World) : (Instr.makeSlice 35 (.int .i64 n) (.int .i64 n)).run Try.prog w = .ok (.slice (some ⟨w.heap.size, 0, none⟩) n n) (w.alloc (.cells (madeCells #[.int .i64 0] n) 3)) := by
  obtain ⟨i0, hi, hz0, hz1, hz2⟩ := info_of infoN
  have h := run_make (P := Try.prog) w 35 3 i0 (.int .i64 0) Try.underlying35 hi hz0 .i64 .i64 n n (by omega) (by omega) (by rw [hz2]; omega) (by omega)
  rw [hz1] at h
  simpa [Value.cells] using h
/-- The row behind the copy. -/
theorem own_copied {w w2 : World} {n : Nat} {l : List Int} (hl : n = l.length) (hs : n ≤ 5000) (h : w2.heap[w.heap.size]? = some (.cells (vals l).toArray 3 (0, 0))) :
    w2.ownsRow w.heap.size 3 1 (.slice (some ⟨w.heap.size, 0, none⟩) n n) n (vals l) := by
  refine ⟨by simp; omega, .inr ⟨w.heap.size, n, _, rfl, Nat.le_refl _, h, Nat.le_refl _, by unfold maxLen; omega, by simp; omega, ?_⟩⟩
  rw [List.take_of_length_le (by simp; omega)]
theorem add0 (g k : Nat) : (⟨g, 0, none⟩ : Addr).add k = ⟨g, k, none⟩ := by cases k <;> simp [Addr.add]
theorem has_made {w W : World} {n cap : Nat} {ao : Option Addr} {l : List Int} (H : Has w ao n cap l) (hb : Below w.heap.size w W) (hl : 0 < (vals l).length) : ∃ ad, ao = some ad ∧ ∀ j v, (vals l)[j]? = some v → W.cell? (ad.add j) = some v := by
  obtain ⟨a, e, _⟩ := H.row.lt hl
  refine ⟨a, e, fun j v hv => ?_⟩
  obtain ⟨a', e', hc⟩ := (H.row.below hb).cell j v hv
  rw [e] at e'
  cases e'
  exact hc

theorem copyN (ao : Option Addr) (n cap : Nat) (l : List Int) (w : World) (H : Has w ao n cap l) (hs : n ≤ 5000) :
    ∃ w2, (Builtin.copy_ #[35, 35] 3 #[.slice (some ⟨w.heap.size, 0, none⟩) n n, .slice ao n cap]).run Try.prog (w.alloc (.cells (madeCells #[.int .i64 0] n) 3)) = .ok (.int .i64 (n : Int)) w2 ∧
      w2.ownsRow w.heap.size 3 1 (.slice (some ⟨w.heap.size, 0, none⟩) n n) n (vals l) ∧ Below w.heap.size w w2 := by
  have hl := H.len
  by_cases h0 : n = 0
  · subst h0
    have hz : l = [] := List.eq_nil_of_length_eq_zero hl.symm
    refine ⟨_, run_copy_none (P := Try.prog) _ 35 35 3 3 _ ao 0 0 0 cap Try.underlying35 sizeN rfl, ?_, alloc_below w _⟩
    refine own_copied hl hs ?_
    rw [heap_alloc_new, hz]
    simp [madeCells]
  · obtain ⟨a, rfl, hc⟩ := has_made H (alloc_below w (.cells (madeCells #[.int .i64 0] n) 3)) (by simp; omega)
    have hr := run_copy_row (P := Try.prog) (w.alloc (.cells (madeCells #[.int .i64 0] n) 3)) 35 35 3 3 w.heap.size 0 n n a n cap (madeCells #[.int .i64 0] n) 3 (vals l) Try.underlying35 sizeN (heap_alloc_new w _)
      (by rw [len_vals, ← hl]; exact (Nat.min_self n).symm) hc (by rw [len_vals, ← hl]; simp [size_madeCells]) (vals_one l)
    rw [len_vals, ← hl, List.take_zero, List.nil_append, Nat.zero_add, List.drop_of_length_le (by simp [size_madeCells]), List.append_nil] at hr
    refine ⟨_, hr, own_copied hl hs (setRow_heap _ _ _ _ _ _ (heap_alloc_new w _)), below_setRow (alloc_below w _) (Nat.le_refl _) _⟩

set_option maxRecDepth 100000 in
set_option maxHeartbeats 1000000 in
theorem bump_no (ao : Option Addr) (n cap : Nat) (l : List Int) (o e0 v0 : Int) (w : World) (hs : n ≤ 5000) (H : Has w ao n cap l) (he : (e0 != 0) = true)
    (HO : Hid (∀ w' : World, Below w.heap.size w w' → Calls Try.prog 17 #[.slice ao n cap, .int .i64 o] w' fun e w2 => e = .returned (.tuple #[.int .i64 v0, .int .i64 e0]) ∧ w2 = w')) :
    Calls Try.prog 19 #[.slice ao n cap, .int .i64 o] w fun e w' => e = .returned (.tuple #[.slice (some ⟨w.heap.size, 0, none⟩) n n, .int .i64 e0]) ∧ w'.ownsRow w.heap.size 3 1 (.slice (some ⟨w.heap.size, 0, none⟩) n n) n (vals l) ∧ Below w.heap.size w w' := by
  have hmk := makeN n hs w
  obtain ⟨w2, hcp, ho, hb⟩ := copyN ao n cap l w H hs
  have HW := hid ho
  have HB := hid hb
  clear ho hb H hs
  go_enter Try.func19, Try.ntmps19
  go_wp2_with fail
  refine (HO.out _ HB.out).mono ?_
  rintro e w3 ⟨rfl, hw⟩; rw [hw]; clear hw w3
  go_wp2_with fail
  go_ret2
  exact ⟨rfl, HW.out, HB.out⟩
set_option maxRecDepth 100000 in
set_option maxHeartbeats 1000000 in
theorem bump_yes (ao : Option Addr) (n cap k : Nat) (l : List Int) (v0 x : Int) (w : World) (hs : n ≤ 5000) (H : Has w ao n cap l) (i1 : (0 : Int) ≤ (k : Int)) (i2 : (k : Int) < (n : Int)) (hx : l.getD k 0 = x)
    (HO : Hid (∀ w' : World, Below w.heap.size w w' → Calls Try.prog 17 #[.slice ao n cap, .int .i64 (k : Int)] w' fun e w2 => e = .returned (.tuple #[.int .i64 v0, .int .i64 0]) ∧ w2 = w')) :
    Calls Try.prog 19 #[.slice ao n cap, .int .i64 (k : Int)] w fun e w' => e = .returned (.tuple #[.slice (some ⟨w.heap.size, 0, none⟩) n n, .int .i64 0]) ∧ w'.ownsRow w.heap.size 3 1 (.slice (some ⟨w.heap.size, 0, none⟩) n n) n (vals (l.set k (nxG x))) ∧ Below w.heap.size w w' := by
  have hmk := makeN n hs w
  have hl := H.len
  obtain ⟨w2, hcp, ho, hb⟩ := copyN ao n cap l w H hs
  obtain ⟨_, e, hc⟩ := (own_row ho).1.cell k _ (vals_at l k (by omega))
  cases e
  rw [add0] at hc
  have hf : w2.frozen? ⟨w.heap.size, k, none⟩ = false := own_frozen ho
  rw [hx] at hc
  have HW := hid ho
  have HB := hid hb
  have HX := hid hx
  have NX := hid (next_any x)
  clear ho hb H hs hx hl
  go_enter Try.func19, Try.ntmps19
  go_wp2_with fail
  refine (HO.out _ HB.out).mono ?_
  rintro e w3 ⟨rfl, hw⟩; rw [hw]; clear hw w3
  go_wp2_with fail
  refine (NX.out _).mono ?_
  rintro e w3 ⟨rfl, hw⟩; rw [hw]; clear hw w3
  go_wp2_with fail
  go_ret2
  refine ⟨rfl, ?_, ?_⟩
  · have := own_set (j := k) (.int .i64 (nxG x)) HW.out
    rwa [vals, ← List.map_set] at this
  · exact q_set HB.out (Nat.le_refl _) _
/-- Bump. -/
theorem bump_any (ao : Option Addr) (n cap : Nat) (l : List Int) (o : Int) (w : World) (H : Has w ao n cap l) (hs : n ≤ 5000) :
    Calls Try.prog 19 #[.slice ao n cap, .int .i64 o] w fun e w' => ∃ ao' cap', e = .returned (.tuple #[.slice ao' n cap', .int .i64 (ofE l o)]) ∧ Mine w' w.heap.size ao' n cap' (bumpL l o) ∧ Below w.heap.size w w' := by
  have hO : ∀ w' : World, Below w.heap.size w w' → Calls Try.prog 17 #[.slice ao n cap, .int .i64 o] w' fun e w2 => e = .returned (.tuple #[.int .i64 (ofV l o), .int .i64 (ofE l o)]) ∧ w2 = w' :=
    fun w' hb => of_any ao n cap l o w' (H.below hb)
  by_cases he : ofE l o = 0
  · have h1 := ofE_zero.1 he
    have hl := H.len
    obtain ⟨k, rfl⟩ : ∃ k : Nat, o = (k : Int) := ⟨o.toNat, by omega⟩
    rw [he] at hO ⊢
    refine (bump_yes ao n cap k l _ _ w hs H (by omega) (by omega) rfl hO).mono ?_
    rintro e w' ⟨rfl, h2, h3⟩
    refine ⟨_, _, rfl, ?_, h3⟩
    rw [show bumpL l (k : Int) = l.set k (nxG (l.getD k 0)) from if_pos he]
    exact own_mine h2
  · refine (bump_no ao n cap l o _ _ w hs H (by simp [he]) hO).mono ?_
    rintro e w' ⟨rfl, h2, h3⟩
    refine ⟨_, _, rfl, ?_, h3⟩
    rw [show bumpL l o = l from if_neg he]
    exact own_mine h2
set_option maxRecDepth 100000 in
set_option maxHeartbeats 1000000 in
theorem rbump_no (ao : Option Addr) (n cap : Nat) (o e0 v0 : Int) (w : World) (he : (e0 != 0) = true)
    (HO : Hid (Calls Try.prog 18 #[.slice ao n cap, .int .i64 o] w fun e w2 => e = .returned (.tuple #[.int .i64 v0, .int .i64 e0]) ∧ w2 = w)) :
    Calls Try.prog 20 #[.slice ao n cap, .int .i64 o] w fun e w' => e = .returned (.tuple #[.slice ao n cap, .int .i64 e0]) ∧ w' = w := by
  go_enter Try.func20, Try.ntmps20
  go_wp2_with fail
  refine HO.out.mono ?_
  rintro e w3 ⟨rfl, hw⟩; rw [hw]; clear hw w3
  go_wp2_with fail
  go_ret2
  exact ⟨rfl, rfl⟩
set_option maxRecDepth 100000 in
set_option maxHeartbeats 1000000 in
theorem rbump_yes (a : Addr) (n cap k : Nat) (l : List Int) (v0 x : Int) (w : World) (hs : n ≤ 5000) (H : Has w (some a) n cap l) (i1 : (0 : Int) ≤ (k : Int)) (i2 : (k : Int) < (n : Int)) (hx : l.getD k 0 = x)
    (HO : Hid (Calls Try.prog 18 #[.slice (some a) n cap, .int .i64 (k : Int)] w fun e w2 => e = .returned (.tuple #[.int .i64 v0, .int .i64 0]) ∧ w2 = w)) :
    Calls Try.prog 20 #[.slice (some a) n cap, .int .i64 (k : Int)] w fun e w' => ∃ ao' cap', e = .returned (.tuple #[.slice ao' n cap', .int .i64 0]) ∧ w'.ownsRow w.heap.size 3 1 (.slice ao' n cap') n (vals (l.set k (nxG x))) ∧ Below w.heap.size w w' := by
  have HN := hid H.len
  have HR := hid H.row
  have HS := hid hs
  have HX := hid hx
  have NX := hid (rnext_any x)
  obtain ⟨_, e, hc⟩ := H.cell k (by omega)
  cases e
  rw [hx] at hc
  have HC := hid hc
  clear hs H hx hc
  go_enter Try.func20, Try.ntmps20
  go_wp2_with fail
  refine HO.out.mono ?_
  rintro e w3 ⟨rfl, hw⟩; rw [hw]; clear hw w3
  go_wp2_with (at_builtin; go_loud (refine wpList_append_row _ rfl (.tmp 19) (.tmp 20) 35 3 _ 1 8 rfl Try.underlying35 infoN rfl (by decide) (by decide) w.heap.size _ 0 [] rfl (own0 w 3 1) (some a) n cap (vals l) rfl (by rw [len_vals, ← HN.out]; simp) (fun h => by cases h) (HR.out.below (alloc_below w _)) (vals_one l) (by have := HS.out; omega) (alloc_below w _).size ?_; intro ao1 cap1 w1 hown1 hgrow1; apply Hid.out))
  have b1 := app_below hgrow1
  rw [Nat.zero_add, List.nil_append] at hown1
  have hv : ∃ g, ao1 = some ⟨g, 0, none⟩ ∧ w.heap.size ≤ g := by
    rcases hown1.2 with ⟨e, e2⟩ | ⟨g, c, cur, e, hb, _⟩
    · omega
    · injection e with e1 e2 e3
      exact ⟨g, e1, hb⟩
  obtain ⟨g, rfl, hg⟩ := hv
  have hf : w1.frozen? ⟨g, k, none⟩ = false := own_frozen hown1
  obtain ⟨_, e, hc2⟩ := (own_row hown1).1.cell k _ (vals_at l k (by have := HN.out; omega))
  cases e
  rw [add0] at hc2
  have hc : w1.cell? (a.add k) = some (.int .i64 x) := (World.cell?_of_block (b1.block _ (World.block_lt_of_cell? w _ HC.out))).trans HC.out
  have HW := hid hown1
  have HB := hid b1
  have HG := hid hg
  clear hown1 hgrow1 b1 hg
  unfold Hid
  go_wp2_with fail
  refine (NX.out _).mono ?_
  rintro e w3 ⟨rfl, hw⟩; rw [hw]; clear hw w3
  go_wp2_with fail
  go_ret2
  refine ⟨_, _, rfl, ?_, ?_⟩
  · have := own_set (j := k) (.int .i64 (nxG x)) HW.out
    rwa [vals, ← List.map_set] at this
  · exact q_set HB.out HG.out _
/-- The document's Bump. -/
theorem rbump_any (ao : Option Addr) (n cap : Nat) (l : List Int) (o : Int) (w : World) (H : Has w ao n cap l) (hs : n ≤ 5000) :
    Calls Try.prog 20 #[.slice ao n cap, .int .i64 o] w fun e w' => ∃ ao' cap', e = .returned (.tuple #[.slice ao' n cap', .int .i64 (ofE l o)]) ∧ Has w' ao' n cap' (bumpL l o) ∧ Below w.heap.size w w' := by
  have hO := rof_any ao n cap l o w H
  by_cases he : ofE l o = 0
  · have h1 := ofE_zero.1 he
    have hl := H.len
    obtain ⟨k, rfl⟩ : ∃ k : Nat, o = (k : Int) := ⟨o.toNat, by omega⟩
    obtain ⟨a, rfl, _⟩ := H.cell k (by omega)
    rw [he] at hO ⊢
    refine (rbump_yes a n cap k l _ _ w hs H (by omega) (by omega) rfl hO).mono ?_
    rintro e w' ⟨ao', cap', rfl, h2, h3⟩
    refine ⟨_, _, rfl, ?_, h3⟩
    rw [show bumpL l (k : Int) = l.set k (nxG (l.getD k 0)) from if_pos he]
    exact (own_mine h2).has
  · refine (rbump_no ao n cap o _ _ w (by simp [he]) hO).mono ?_
    rintro e w' ⟨rfl, rfl⟩
    refine ⟨_, _, rfl, ?_, Below.refl _ _⟩
    rw [show bumpL l o = l from if_neg he]
    exact H
end Go.Proofs.Ythhbifcgilkddaa.Ha
