/- What slices.Grow (of nil), slices.Concat (of two) do. -/
import Derived.Test.YtpcdjpcdmnjdfabPoCut
import Derived.Test.YtpcdjpcdmnjdfabPoW1
import Derived.Lib.AppendZerosOnto
namespace Go.Proofs.Ytpcdjpcdmnjdfab.Po
open Go.RowKit

abbrev zV : Value := .agg #[.int .i64 0, .int .i64 0, .int .i64 0, .bool false, .int .i64 0, .int .i64 0, .int .i64 0, .bool false]
set_option maxRecDepth 100000 in
set_option maxHeartbeats 1000000 in
theorem grow_pos (n : Nat) (w : World) (h0 : 0 < n) (hn : n ≤ 10000) :
    Calls Try.prog 28 #[.slice none 0 0, .int .i64 n] w fun e w' => ∃ ao cap, e = .returned (.slice ao 0 cap) ∧ MineQ w' w.heap.size ⟨ao, 0, cap⟩ [] ∧ Below w.heap.size w w' := by
  obtain ⟨i0, hi, hz0, hz1, hz2⟩ := info_of infoW
  have hrz : ∀ ty, (Builtin.append_ #[23, 3] ty #[.slice none 0 0, .int .i64 n]).run Try.prog w = .ok (.slice (some ⟨w.heap.size, 0, none⟩) (0 + n) (grownCap w (0 + n) 0 30)) (w.drew.alloc (.cells (([] : List Value).toArray ++ Builtin.zeroCells zV.cells n ++ Builtin.zeroCells zV.cells (grownCap w (0 + n) 0 30 - (0 + n))) 30)) := fun ty =>
    Lib.run_append_grow_zeros w 23 3 ty 30 i0 zV .i64 .i64 Try.underlying23 Try.underlying3 hi hz0 none 0 0 [] (run_firstCells_none _ _ _ _ _) n h0 (by omega) (by omega) (by omega) (by rw [hz2]; omega) (growslice_fits (by omega) (by rw [hz2]; omega))
  have hG := grownCap_ge w (0 + n) 0 30
  have hG2 := grownCap_le_maxLen w (0 + n) 0 30 (by unfold maxLen; omega)
  obtain ⟨G, hGe⟩ : ∃ G, grownCap w (0 + n) 0 30 = G := ⟨_, rfl⟩
  rw [hGe] at hrz hG hG2
  obtain ⟨cs, hcs⟩ : ∃ cs, ([] : List Value).toArray ++ Builtin.zeroCells zV.cells n ++ Builtin.zeroCells zV.cells (G - (0 + n)) = cs := ⟨_, rfl⟩
  rw [hcs] at hrz
  have hsz : cs.size = G * 8 := by
    rw [← hcs]
    simp [Builtin.zeroCells, Value.cells]
    omega
  have HO : Hid ((w.drew.alloc (.cells cs 30)).ownsRow w.heap.size 30 8 (.slice (some ⟨w.heap.size, 0, none⟩) 0 G) 0 []) := World.ownsRow_made w.drew cs G (Nat.le_refl _) hG2 hsz
  have HB : Hid (Below w.heap.size w (w.drew.alloc (.cells cs 30))) := (Below.refl _ w).drew.alloc (Nat.le_refl _) _
  have hG3 : G ≤ 9223372036854775807 := by unfold maxLen at hG2; omega
  clear hcs hsz hGe hG2
  go_enter Try.func28, Try.ntmps28
  go_wp2_with (at_builtin; refine Lib.wpList_append_run _ rfl _ _ _ _ rfl _ _ rfl rfl _ _ (hrz _) ?_)
  go_ret
  exact ⟨_, _, rfl, ⟨rfl, HO.out⟩, HB.out⟩
set_option maxRecDepth 100000 in
set_option maxHeartbeats 400000 in
theorem grow_zero (w : World) :
    Calls Try.prog 28 #[.slice none 0 0, .int .i64 0] w fun e w' => e = .returned (.slice none 0 0) ∧ w' = w := by
  go_enter Try.func28, Try.ntmps28
  go_wp2
  go_ret
  exact ⟨rfl, rfl⟩
theorem grow_any (n : Nat) (w : World) (hn : n ≤ 10000) :
    Calls Try.prog 28 #[.slice none 0 0, .int .i64 n] w fun e w' => ∃ ao cap, e = .returned (.slice ao 0 cap) ∧ MineQ w' w.heap.size ⟨ao, 0, cap⟩ [] ∧ Below w.heap.size w w' := by
  by_cases h : 0 < n
  · exact grow_pos n w h hn
  · obtain rfl : n = 0 := by omega
    refine (grow_zero w).mono ?_
    rintro e w' ⟨rfl, rfl⟩
    exact ⟨none, 0, rfl, mineQ_nil _ _, Below.refl _ _⟩
set_option maxRecDepth 100000 in
set_option maxHeartbeats 1000000 in
theorem concat_any (b : Nat) (a0 a1 : Option Addr) (n0 n1 c0 c1 : Nat) (l m : List Wt) (w : World) (d0 : w.cell? ⟨b, 0, none⟩ = some (.slice a0 n0 c0)) (d1 : w.cell? ⟨b, 1, none⟩ = some (.slice a1 n1 c1)) (H0 : Hid (HasQ w ⟨a0, n0, c0⟩ l)) (H1 : Hid (HasQ w ⟨a1, n1, c1⟩ m))
    (hn0 : n0 ≤ 5000) (hn1 : n1 ≤ 5000) :
    Calls Try.prog 24 #[.slice (some ⟨b, 0, none⟩) 2 2] w fun e w' => ∃ ao cap, e = .returned (.slice ao (n0 + n1) cap) ∧ MineQ w' w.heap.size ⟨ao, n0 + n1, cap⟩ (l ++ m) ∧ Below w.heap.size w w' := by
  go_enter Try.func24, Try.ntmps24
  go_wp2_with fail
  go_loop [3, 11] (fun s i => (i = .int .i64 0 ∧ s = .int .i64 0) ∨ (i = .int .i64 1 ∧ s = .int .i64 n0) ∨ (i = .int .i64 2 ∧ s = .int .i64 ((n0 + n1 : Nat) : Int))) (fun _ i => 2 - (intOf i).toNat)
  case atStart => exact .inl ⟨rfl, rfl⟩
  case round =>
    rcases hrel with ⟨rfl, rfl⟩ | ⟨rfl, rfl⟩ | ⟨rfl, rfl⟩
    · go_wp2_with fail
      go_round
      case rel => exact .inr (.inl ⟨rfl, by go_num⟩)
      case measure => simp [intOf]
    · go_wp2_with fail
      go_round
      case rel => exact .inr (.inr ⟨rfl, by go_num⟩)
      case measure => simp [intOf]
    · have hg := grow_any (n0 + n1) w (by omega)
      rw [Int.natCast_add] at hg
      go_wp2_with fail
      refine hg.mono ?_
      clear hg
      rintro e w1 ⟨ao, cap, rfl, hm, hb⟩
      have HM := hid hm
      have HL := hid hb
      clear hm hb
      go_wp2_with fail
      go_loopw [6, 27] (fun s i wr => ∃ (ao : Option Addr) (cap : Nat), Hid (Below w.heap.size w wr) ∧ ((i = .int .i64 0 ∧ s = .slice ao 0 cap ∧ Hid (MineQ wr w.heap.size ⟨ao, 0, cap⟩ [])) ∨ (i = .int .i64 1 ∧ s = .slice ao n0 cap ∧ Hid (MineQ wr w.heap.size ⟨ao, n0, cap⟩ l)) ∨ (i = .int .i64 2 ∧ s = .slice ao (n0 + n1) cap ∧ Hid (MineQ wr w.heap.size ⟨ao, n0 + n1, cap⟩ (l ++ m))))) (fun _ i _ => 2 - (intOf i).toNat)
      case atStart => exact ⟨ao, cap, HL, .inl ⟨rfl, rfl, HM⟩⟩
      case round =>
        obtain ⟨ao, cap, HL, hrel⟩ := hrel
        have e0 : wr.cell? ⟨b, 0, none⟩ = some (.slice a0 n0 c0) := (HL.out.cell (World.block_lt_of_cell? w _ d0)).trans d0
        have e1 : wr.cell? ⟨b, 1, none⟩ = some (.slice a1 n1 c1) := (HL.out.cell (World.block_lt_of_cell? w _ d1)).trans d1
        have S0 := hid (H0.out.below HL.out)
        have S1 := hid (H1.out.below HL.out)
        have L0 : Hid ((wts l).length = n0 * 8) := by rw [len_wts, ← H0.out.len]; simp [Hid]
        have L1 : Hid ((wts m).length = n1 * 8) := by rw [len_wts, ← H1.out.len]; simp [Hid]
        rcases hrel with ⟨rfl, rfl, HM⟩ | ⟨rfl, rfl, HM⟩ | ⟨rfl, rfl, HM⟩
        · go_wp2_with (at_builtin; refine wpList_append_row _ rfl _ _ 23 30 _ 8 64 rfl Try.underlying23 infoW rfl (by decide) (by decide) w.heap.size _ 0 [] rfl HM.out.2 a0 n0 c0 (wts l) rfl L0.out H0.out.nil S0.out.row (wts_one _) (by omega) HL.out.size ?_; intro ao1 cap1 w1 hown1 hgrow1; apply Hid.out)
          have HB1 := hid (HL.out.grown hgrow1 HL.out.size (fun k e => (World.ownsRow.lt HM.out.2 k e).1))
          rw [Nat.zero_add, List.nil_append] at hown1
          have HM1 : Hid (MineQ w1 w.heap.size ⟨ao1, n0, cap1⟩ l) := ⟨H0.out.len, hown1⟩
          clear hown1 hgrow1
          unfold Hid
          go_wp2_with fail
          go_roundw
          case rel => exact ⟨ao1, cap1, HB1, .inr (.inl ⟨rfl, rfl, HM1⟩)⟩
          case measure => simp [intOf]
        · go_wp2_with (at_builtin; refine wpList_append_row _ rfl _ _ 23 30 _ 8 64 rfl Try.underlying23 infoW rfl (by decide) (by decide) w.heap.size _ n0 (wts l) rfl HM.out.2 a1 n1 c1 (wts m) rfl L1.out H1.out.nil S1.out.row (wts_one _) (by omega) HL.out.size ?_; intro ao1 cap1 w1 hown1 hgrow1; apply Hid.out)
          have HB1 := hid (HL.out.grown hgrow1 HL.out.size (fun k e => (World.ownsRow.lt HM.out.2 k e).1))
          rw [← wts_app] at hown1
          have HM1 : Hid (MineQ w1 w.heap.size ⟨ao1, n0 + n1, cap1⟩ (l ++ m)) := ⟨by have a := H0.out.len; have b := H1.out.len; simp at a b ⊢; omega, hown1⟩
          clear hown1 hgrow1
          unfold Hid
          go_wp2_with fail
          go_roundw
          case rel => exact ⟨ao1, cap1, HB1, .inr (.inr ⟨rfl, rfl, HM1⟩)⟩
          case measure => simp [intOf]
        · go_wp2_with fail
          go_ret
          exact ⟨ao, cap, rfl, HM.out, HL.out⟩
end Go.Proofs.Ytpcdjpcdmnjdfab.Po
