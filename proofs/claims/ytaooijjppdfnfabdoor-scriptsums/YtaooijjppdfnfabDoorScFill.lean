/- What slices.Grow (of nil), slices.Concat (of two) and Fill do: the program's, the document's. -/
import Derived.Test.YtaooijjppdfnfabDoorScRounds
import Derived.Lib.AppendZerosOnto
namespace Go.Proofs.YtaooijjppdfnfabDoor.Sc
open Go.RowKit

set_option maxRecDepth 100000 in
set_option maxHeartbeats 1000000 in
theorem grow_pos (n : Nat) (w : World) (h0 : 0 < n) (hn : n ≤ 2000000) :
    Calls Tryd.prog 23 #[.slice none 0 0, .int .i64 n] w fun e w' => ∃ ao cap, e = .returned (.slice ao 0 cap) ∧ Mine w' w.heap.size ao cap [] ∧ Below w.heap.size w w' := by
  obtain ⟨i0, hi, hz0, hz1, hz2⟩ := info_parts infoI
  have hrz : ∀ ty, (Builtin.append_ #[22, 3] ty #[.slice none 0 0, .int .i64 n]).run Tryd.prog w = .ok (.slice (some ⟨w.heap.size, 0, none⟩) (0 + n) (grownCap w (0 + n) 0 3)) (w.drew.alloc (.cells (([] : List Value).toArray ++ Builtin.zeroCells (Value.int .i64 0).cells n ++ Builtin.zeroCells (Value.int .i64 0).cells (grownCap w (0 + n) 0 3 - (0 + n))) 3)) := fun ty =>
    Lib.run_append_grow_zeros w 22 3 ty 3 i0 (.int .i64 0) .i64 .i64 Tryd.underlying22 Tryd.underlying3 hi hz0 none 0 0 [] (run_firstCells_none _ _ _ _ _) n h0 (by omega) (by omega) (by omega) (by rw [hz2]; omega) (growslice_fits (by omega) (by rw [hz2]; omega))
  have hG := grownCap_ge w (0 + n) 0 3
  have hG2 := grownCap_le_maxLen w (0 + n) 0 3 (by unfold maxLen; omega)
  obtain ⟨G, hGe⟩ : ∃ G, grownCap w (0 + n) 0 3 = G := ⟨_, rfl⟩
  rw [hGe] at hrz hG hG2
  obtain ⟨cs, hcs⟩ : ∃ cs, ([] : List Value).toArray ++ Builtin.zeroCells (Value.int .i64 0).cells n ++ Builtin.zeroCells (Value.int .i64 0).cells (G - (0 + n)) = cs := ⟨_, rfl⟩
  rw [hcs] at hrz
  have hsz : cs.size = G * 1 := by
    rw [← hcs]
    simp [Builtin.zeroCells, Value.cells]
    omega
  have HO : Hid ((w.drew.alloc (.cells cs 3)).ownsRow w.heap.size 3 1 (.slice (some ⟨w.heap.size, 0, none⟩) 0 G) 0 []) := World.ownsRow_made w.drew cs G (Nat.le_refl _) hG2 hsz
  have HB : Hid (Below w.heap.size w (w.drew.alloc (.cells cs 3))) := (Below.refl _ w).drew.alloc (Nat.le_refl _) _
  have hG3 : G ≤ 9223372036854775807 := by unfold maxLen at hG2; omega
  clear hcs hsz hGe hG2
  go_enter Tryd.func23, Tryd.ntmps23
  go_wp2_with (at_builtin; refine Lib.wpList_append_run _ rfl _ _ _ _ rfl _ _ rfl rfl _ _ (hrz _) ?_)
  go_ret
  exact ⟨_, _, rfl, HO.out, HB.out⟩
set_option maxRecDepth 100000 in
set_option maxHeartbeats 400000 in
theorem grow_zero (w : World) :
    Calls Tryd.prog 23 #[.slice none 0 0, .int .i64 0] w fun e w' => e = .returned (.slice none 0 0) ∧ w' = w := by
  go_enter Tryd.func23, Tryd.ntmps23
  go_wp2
  go_ret
  exact ⟨rfl, rfl⟩
theorem grow_any (n : Nat) (w : World) (hn : n ≤ 2000000) :
    Calls Tryd.prog 23 #[.slice none 0 0, .int .i64 n] w fun e w' => ∃ ao cap, e = .returned (.slice ao 0 cap) ∧ Mine w' w.heap.size ao cap [] ∧ Below w.heap.size w w' := by
  by_cases h : 0 < n
  · exact grow_pos n w h hn
  · obtain rfl : n = 0 := by omega
    refine (grow_zero w).mono ?_
    rintro e w' ⟨rfl, rfl⟩
    exact ⟨none, 0, rfl, mine_nil _ _, Below.refl _ _⟩

set_option maxRecDepth 100000 in
set_option maxHeartbeats 1000000 in
theorem concat_any (b : Nat) (a0 a1 : Option Addr) (n0 n1 c0 c1 : Nat) (l m : List Int) (w : World) (HB : Hid (w.heap[b]? = some (.cells #[.slice a0 n0 c0, .slice a1 n1 c1] 22 (0, 0)))) (H0 : Hid (n0 = l.length)) (H1 : Hid (n1 = m.length))
    (hn0 : n0 ≤ 1000000) (hn1 : n1 ≤ 1000000) (R0 : Hid (Row w a0 (vals l))) (R1 : Hid (Row w a1 (vals m))) (N0 : Hid (a0 = none → c0 = 0)) (N1 : Hid (a1 = none → c1 = 0)) :
    Calls Tryd.prog 15 #[.slice (some ⟨b, 0, none⟩) 2 2] w fun e w' => ∃ ao cap, e = .returned (.slice ao (l ++ m).length cap) ∧ Mine w' w.heap.size ao cap (l ++ m) ∧ Below w.heap.size w w' := by
  have d0 : w.cell? ⟨b, 0, none⟩ = some (.slice a0 n0 c0) := by simp [World.cell?, HB.out]
  have d1 : w.cell? ⟨b, 1, none⟩ = some (.slice a1 n1 c1) := by simp [World.cell?, HB.out]
  go_enter Tryd.func15, Tryd.ntmps15
  go_wp2_with fail
  go_loop [3, 11] (fun s i => (i = .int .i64 0 ∧ s = .int .i64 0) ∨ (i = .int .i64 1 ∧ s = .int .i64 n0) ∨ (i = .int .i64 2 ∧ s = .int .i64 ((n0 + n1 : Nat) : Int))) (fun _ i => 2 - (intOf i).toNat)
  case atStart => exact .inl ⟨rfl, rfl⟩
  case round =>
    rcases hrel with ⟨rfl, rfl⟩ | ⟨rfl, rfl⟩ | ⟨rfl, rfl⟩
    · go_wp2_with fail
      go_round
      case rel => exact .inr (.inl ⟨rfl, by go_num⟩)
      case measure => simp [intOf]
    · go_wp2_with fail
      go_round
      case rel => exact .inr (.inr ⟨rfl, by go_num⟩)
      case measure => simp [intOf]
    · have hg := grow_any (n0 + n1) w (by omega)
      rw [Int.natCast_add] at hg
      go_wp2_with fail
      refine hg.mono ?_
      clear hg
      rintro e w1 ⟨ao, cap, rfl, hm, hb⟩
      have HM := hid hm
      have HL := hid hb
      clear hm hb
      go_wp2_with fail
      go_loopw [6, 27] (fun s i wr => ∃ (ao : Option Addr) (cap : Nat), Hid (Below w.heap.size w wr) ∧ ((i = .int .i64 0 ∧ s = .slice ao 0 cap ∧ Hid (Mine wr w.heap.size ao cap [])) ∨ (i = .int .i64 1 ∧ s = .slice ao n0 cap ∧ Hid (Mine wr w.heap.size ao cap l)) ∨ (i = .int .i64 2 ∧ s = .slice ao (n0 + n1) cap ∧ Hid (Mine wr w.heap.size ao cap (l ++ m))))) (fun _ i _ => 2 - (intOf i).toNat)
      case atStart => exact ⟨ao, cap, HL, .inl ⟨rfl, rfl, HM⟩⟩
      case round =>
        obtain ⟨ao, cap, HL, hrel⟩ := hrel
        have e0 : wr.cell? ⟨b, 0, none⟩ = some (.slice a0 n0 c0) := (HL.out.cell (World.block_lt_of_cell? w _ d0)).trans d0
        have e1 : wr.cell? ⟨b, 1, none⟩ = some (.slice a1 n1 c1) := (HL.out.cell (World.block_lt_of_cell? w _ d1)).trans d1
        have S0 := hid (R0.out.below HL.out)
        have S1 := hid (R1.out.below HL.out)
        have L0 : Hid ((vals l).length = n0 * 1) := by rw [len_vals, H0.out]; simp [Hid]
        have L1 : Hid ((vals m).length = n1 * 1) := by rw [len_vals, H1.out]; simp [Hid]
        rcases hrel with ⟨rfl, rfl, HM⟩ | ⟨rfl, rfl, HM⟩ | ⟨rfl, rfl, HM⟩
        · go_wp2_with (at_builtin; refine wpList_append_row _ rfl _ _ 22 3 _ 1 8 rfl Tryd.underlying22 infoI rfl (by decide) (by decide) w.heap.size _ 0 [] rfl HM.out a0 n0 c0 (vals l) rfl L0.out N0.out S0.out (vals_one _) (by omega) HL.out.size ?_; intro ao1 cap1 w1 hown1 hgrow1; apply Hid.out)
          have HB1 := hid (HL.out.grown hgrow1 HL.out.size (fun k e => (World.ownsRow.lt HM.out k e).1))
          rw [Nat.zero_add, List.nil_append] at hown1
          have HM1 := hid (mine_of hown1 H0.out.symm)
          clear hown1 hgrow1
          unfold Hid
          go_wp2_with fail
          go_roundw
          case rel => exact ⟨ao1, cap1, HB1, .inr (.inl ⟨rfl, rfl, HM1⟩)⟩
          case measure => simp [intOf]
        · have HM' : Hid (wr.ownsRow w.heap.size 3 1 (.slice ao n0 cap) n0 (vals l)) := by rw [H0.out]; exact HM
          go_wp2_with (at_builtin; refine wpList_append_row _ rfl _ _ 22 3 _ 1 8 rfl Tryd.underlying22 infoI rfl (by decide) (by decide) w.heap.size _ n0 (vals l) rfl HM'.out a1 n1 c1 (vals m) rfl L1.out N1.out S1.out (vals_one _) (by omega) HL.out.size ?_; intro ao1 cap1 w1 hown1 hgrow1; apply Hid.out)
          have HB1 := hid (HL.out.grown hgrow1 HL.out.size (fun k e => (World.ownsRow.lt HM'.out k e).1))
          rw [show vals l ++ vals m = vals (l ++ m) by simp [vals]] at hown1
          have HM1 := hid (mine_of hown1 (by rw [List.length_append, ← H0.out, ← H1.out]))
          clear hown1 hgrow1
          unfold Hid
          go_wp2_with fail
          go_roundw
          case rel => exact ⟨ao1, cap1, HB1, .inr (.inr ⟨rfl, rfl, HM1⟩)⟩
          case measure => simp [intOf]
        · have HX : Hid (n0 + n1 = (l ++ m).length) := by show n0 + n1 = _; rw [List.length_append, ← H0.out, ← H1.out]
          go_wp2_with fail
          go_ret
          exact ⟨ao, cap, by rw [← HX.out]; rfl, HM.out, HL.out⟩

set_option maxRecDepth 100000 in
set_option maxHeartbeats 1000000 in
/-- FILL: THE LIST, AND ROUNDS BEHIND IT. -/
theorem fill_any (ao : Option Addr) (l : List Int) (n cap : Nat) (a b : Int) (w : World) (HN : Hid (n = l.length)) (hn : n ≤ 1000000) (RR : Hid (Row w ao (vals l))) (NN : Hid (ao = none → cap = 0)) :
    Calls Tryd.prog 8 #[.slice ao n cap, .int .i64 a, .int .i64 b] w fun e w' => ∃ ao' cap', e = .returned (.slice ao' (l ++ rdsI a b).length cap') ∧ Mine w' w.heap.size ao' cap' (l ++ rdsI a b) ∧ Below w.heap.size w w' := by
  have hlen := rdsI_len a b
  obtain ⟨M, hM⟩ : ∃ M, (rdsI a b).length = M := ⟨_, rfl⟩
  have hg := rounds_any a b w
  rw [hM] at hlen hg
  have HM0 := hid hM
  clear hM
  go_enter Tryd.func8, Tryd.ntmps8
  go_wp2_with fail
  refine hg.mono ?_
  clear hg
  rintro e w1 ⟨ao1, cap1, rfl, hm, hb⟩
  have HM := hid hm
  have HB := hid hb
  clear hm hb
  go_wp2_with fail
  refine (concat_any w1.heap.size ao ao1 n M cap cap1 l (rdsI a b) _ (World.alloc_heap_new w1 _) HN HM0.out.symm hn (by omega) ((RR.out.below HB.out).below (alloc_below w1 _)) (Mine.row (Mine.below HM.out (alloc_below w1 _))) NN (Mine.nil HM.out)).mono ?_
  rintro e w2 ⟨ao2, cap2, rfl, hm2, hb2⟩
  have HM2 : Hid (Mine w2 w.heap.size ao2 cap2 (l ++ rdsI a b)) := own_base hm2 (fun k e => by have := (World.ownsRow.lt hm2 k e).1; have := HB.out.size; simp at *; omega)
  have HB2 := hid (q_trans HB.out (q_trans (alloc_below w1 _) hb2))
  clear hm2 hb2
  go_wp2_with fail
  go_ret
  exact ⟨ao2, cap2, by rw [List.length_append]; rfl, HM2.out, HB2.out⟩

end Go.Proofs.YtaooijjppdfnfabDoor.Sc
