/- What Start does. -/
import Derived.Test.YtaihabkacjbfjaaGrMem
import Derived.Laws.NewBlocks
namespace Go.Proofs.Ytaihabkacjbfjaa.Gr
open Go.RowKit Go.Proofs.Ytaihabkacjbfjaa.Ce

theorem startE_neg {who : Int} {l : List Int} {k : Nat} (hk : k < l.length) (h : l.getD k 0 < 0) : startE who l = 2 := by
  unfold startE
  rw [if_pos]
  exact .inr ⟨l.getD k 0, by simp [List.getD, hk], h⟩
theorem startE_who {who : Int} {l : List Int} (h : who < 1) : startE who l = 2 := by unfold startE; rw [if_pos (.inl h)]
theorem startE_all {who : Int} {l : List Int} (h : ¬ who < 1) (ha : ∀ j, j < l.length → 0 ≤ l.getD j 0) : startE who l = if 64 < l.length then 6 else 0 := by
  unfold startE
  rw [if_neg]
  rintro (e | ⟨x, hx, e⟩)
  · exact h e
  · obtain ⟨j, hj, rfl⟩ := List.getElem_of_mem hx
    have := ha j hj
    simp [List.getD, hj] at this
    omega
theorem startG_no {who : Int} {b : Bool} {l : List Int} (h : startE who l ≠ 0) : startG who b l = G.zero := by unfold startG; rw [if_neg h]
theorem startG_yes {who : Int} {b : Bool} {l : List Int} (h : startE who l = 0) : startG who b l = ⟨who, srt l, if l.length = 0 then 2 else 1, 0, 0, b⟩ := by unfold startG; rw [if_pos h]

set_option maxRecDepth 100000 in
set_option maxHeartbeats 1000000 in
/-- START. -/
theorem start_any (who : Int) (b : Bool) (ao : Option Addr) (n cap : Nat) (l : List Int) (w : World) (H : Hid (Has w ao n cap l)) (hs : n ≤ 5000) :
    Calls Try.prog 10 #[.int .i64 who, .bool b, .slice ao n cap] w fun e w' => ∃ ao' cap', e = .returned (.tuple #[(.agg #[.int .i64 (startG who b l).w, .slice ao' (startG who b l).cs.length cap', .int .i64 (startG who b l).p, .int .i64 (startG who b l).a, .int .i64 (startG who b l).t, .bool (startG who b l).b]), .int .i64 (startE who l)]) ∧ Mine w' w.heap.size ao' (startG who b l).cs.length cap' (startG who b l).cs ∧ Below w.heap.size w w' := by
  by_cases h1 : who < 1
  · have HE : Hid (startE who l = 2) := startE_who h1
    go_enter Try.func10, Try.ntmps10
    go_wp2
    refine bodyPost_ret (v := .tuple #[.agg #[.int .i64 0, .slice none 0 0, .int .i64 0, .int .i64 0, .int .i64 0, .bool false], .int .i64 2]) (by simp [results, Try.results10, go_sem]) rfl ⟨none, 0, ?_, ?_, ?_⟩
    · rw [startG_no (by rw [HE.out]; decide), HE.out]; rfl
    · rw [startG_no (by rw [HE.out]; decide)]; exact ⟨has_nil _, fun a e => by cases e⟩
    · exact alloc_below w _
  · go_enter Try.func10, Try.ntmps10
    go_wp2
    go_loop [16] (fun i => ∃ k : Nat, k ≤ n ∧ i = .int .i64 k ∧ Hid (∀ j, j < k → 0 ≤ l.getD j 0)) (fun i => n - (intOf i).toNat)
    case atStart => exact ⟨0, Nat.zero_le _, rfl, fun j hj => absurd hj (by omega)⟩
    case round =>
      obtain ⟨k, hk, rfl, HA⟩ := hrel
      by_cases hlt : k < n
      · have hkl : Hid (k < l.length) := by have := H.out.len; show k < l.length; omega
        obtain ⟨a, rfl, hc⟩ := (H.out.below (alloc_below w (.cells #[.int .i64 0, .slice none 0 0, .int .i64 0, .int .i64 0, .int .i64 0, .bool false] 25))).cell k hlt
        obtain ⟨x, hx⟩ : ∃ x, l.getD k 0 = x := ⟨_, rfl⟩
        rw [hx] at hc
        have HX := hid hx
        clear hx
        by_cases h3 : x < 0
        · have HE : Hid (startE who l = 2) := startE_neg hkl.out (by rw [HX.out]; exact h3)
          go_wp2
          refine bodyPost_ret (v := .tuple #[.agg #[.int .i64 0, .slice none 0 0, .int .i64 0, .int .i64 0, .int .i64 0, .bool false], .int .i64 2]) (by simp [results, Try.results10, go_sem]) rfl ⟨none, 0, ?_, ?_, ?_⟩
          · rw [startG_no (by rw [HE.out]; decide), HE.out]; rfl
          · rw [startG_no (by rw [HE.out]; decide)]; exact ⟨has_nil _, fun a e => by cases e⟩
          · exact alloc_below w _
        · have HA' : Hid (∀ j, j < k + 1 → 0 ≤ l.getD j 0) := fun j hj => by
            by_cases e : j = k
            · subst e; rw [HX.out]; omega
            · exact HA.out j (by omega)
          go_wp2
          go_round
          case rel => exact ⟨k + 1, by omega, by go_num, HA'⟩
          case measure => simp [intOf]; omega
      · obtain rfl : k = n := by omega
        have HE0 : Hid (startE who l = if 64 < k then 6 else 0) := by
          have := startE_all (who := who) (l := l) (by omega) (fun j hj => HA.out j (by rw [H.out.len]; exact hj))
          rwa [← H.out.len] at this
        by_cases h4 : 64 < k
        · have HE : Hid (startE who l = 6) := by have := HE0.out; rwa [if_pos h4] at this
          go_wp2
          refine bodyPost_ret (v := .tuple #[.agg #[.int .i64 0, .slice none 0 0, .int .i64 0, .int .i64 0, .int .i64 0, .bool false], .int .i64 6]) (by simp [results, Try.results10, go_sem]) rfl ⟨none, 0, ?_, ?_, ?_⟩
          · rw [startG_no (by rw [HE.out]; decide), HE.out]; rfl
          · rw [startG_no (by rw [HE.out]; decide)]; exact ⟨has_nil _, fun a e => by cases e⟩
          · exact alloc_below w _
        · have HE : Hid (startE who l = 0) := by have := HE0.out; rwa [if_neg h4] at this
          have HL := hid (show k ≤ 64 by omega)
          by_cases h0 : k = 0
          · have HG : Hid (startG who b l = ⟨who, srt l, 2, 0, 0, b⟩) := by
              have := startG_yes (b := b) HE.out
              rwa [← H.out.len, if_pos h0] at this
            subst h0
            go_wp2_with fail
            refine (rising_any ao 0 cap l _ (H.out.below (alloc_below w _)) (by decide)).mono ?_
            rintro e w2 ⟨ao', cap', rfl, hm, b2⟩
            have HM : Hid (Mine w2 (w.heap.size + 1) ao' (srt l).length cap' (srt l)) := by
              simp at hm
              exact hm
            have HB := hid (q_trans (alloc_below w _) b2)
            obtain ⟨r0, r1, r2, r3, r4, r5, rf⟩ := (inG_new w 0 (.slice none 0 0) 0 0 0 false 25).below b2
            have n1 : w.heap.size < w2.heap.size := World.block_lt_of_cell? w2 ⟨w.heap.size, 0, none⟩ r0
            have n2 : ¬ w2.heap.size = w.heap.size := by omega
            have n3 : ¬ w.heap.size = w2.heap.size := by omega
            clear hm b2 H
            go_wp2_with fail
            refine bodyPost_ret (v := .tuple #[.agg #[.int .i64 who, .slice ao' (srt l).length cap', .int .i64 2, .int .i64 0, .int .i64 0, .bool b], .int .i64 0]) (by simp [results, Try.results10, go_sem, r0, r1, r2, r3, r4, r5, n1]) rfl ⟨ao', cap', ?_, ?_, ?_⟩
            · rw [HG.out, HE.out]
            · rw [HG.out]
              refine HM.out.kept (S := fun k => k = w.heap.size) ?_ (fun i e => by omega) (by omega)
              refine Kept.alloc ?_ _
              iterate 6 refine Kept.setCell ?_ _ _ (fun _ => by simp)
              exact Kept.refl _ _
            · refine HB.out.trans (Kept.below (S := fun k => k = w.heap.size) ?_ w.heap.size HB.out.size (fun i e => by omega))
              refine Kept.alloc ?_ _
              iterate 6 refine Kept.setCell ?_ _ _ (fun _ => by simp)
              exact Kept.refl _ _
          · have HG : Hid (startG who b l = ⟨who, srt l, 1, 0, 0, b⟩) := by
              have := startG_yes (b := b) HE.out
              rwa [← H.out.len, if_neg h0] at this
            have h0' : ((k : Int) == 0) = false := by simp; omega
            clear h0
            go_wp2_with fail
            refine (rising_any ao k cap l _ (H.out.below (alloc_below w _)) (by omega)).mono ?_
            rintro e w2 ⟨ao', cap', rfl, hm, b2⟩
            have HM : Hid (Mine w2 (w.heap.size + 1) ao' (srt l).length cap' (srt l)) := by
              simp at hm
              exact hm
            have HB := hid (q_trans (alloc_below w _) b2)
            obtain ⟨r0, r1, r2, r3, r4, r5, rf⟩ := (inG_new w 0 (.slice none 0 0) 0 0 0 false 25).below b2
            have n1 : w.heap.size < w2.heap.size := World.block_lt_of_cell? w2 ⟨w.heap.size, 0, none⟩ r0
            have n2 : ¬ w2.heap.size = w.heap.size := by omega
            have n3 : ¬ w.heap.size = w2.heap.size := by omega
            clear hm b2 H
            go_wp2_with fail
            refine bodyPost_ret (v := .tuple #[.agg #[.int .i64 who, .slice ao' (srt l).length cap', .int .i64 1, .int .i64 0, .int .i64 0, .bool b], .int .i64 0]) (by simp [results, Try.results10, go_sem, r0, r1, r2, r3, r4, r5, n1]) rfl ⟨ao', cap', ?_, ?_, ?_⟩
            · rw [HG.out, HE.out]
            · rw [HG.out]
              refine HM.out.kept (S := fun k => k = w.heap.size) ?_ (fun i e => by omega) (by omega)
              refine Kept.alloc ?_ _
              iterate 6 refine Kept.setCell ?_ _ _ (fun _ => by simp)
              exact Kept.refl _ _
            · refine HB.out.trans (Kept.below (S := fun k => k = w.heap.size) ?_ w.heap.size HB.out.size (fun i e => by omega))
              refine Kept.alloc ?_ _
              iterate 6 refine Kept.setCell ?_ _ _ (fun _ => by simp)
              exact Kept.refl _ _
end Go.Proofs.Ytaihabkacjbfjaa.Gr
