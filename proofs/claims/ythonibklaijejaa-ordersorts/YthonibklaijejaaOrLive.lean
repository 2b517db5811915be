/- live answers true. -/
import Derived.Test.YthonibklaijejaaOrRef2
namespace Go.Proofs.Ythonibklaijejaa.Or
open Go.RowKit

def lvL : List K := [(1, -1), (2, 0)]
theorem lv_three (w : World) : Has (w.alloc (.cells #[.int .i64 2, .int .i64 0, .int .i64 1, .int .i64 (-1), .int .i64 2, .int .i64 0] 23)) (some ⟨w.heap.size, 0, none⟩) 3 3 [(2, 0), (1, -1), (2, 0)] := by
  refine ⟨rfl, (fun h => by cases h), Nat.le_refl _, ⟨fun j u hu => ⟨_, rfl, ?_⟩⟩⟩
  match j, hu with
  | 0, hu => simp [keys, kC] at hu; subst hu; simp [Addr.add]
  | 1, hu => simp [keys, kC] at hu; subst hu; simp [Addr.add]
  | 2, hu => simp [keys, kC] at hu; subst hu; simp [Addr.add]
  | 3, hu => simp [keys, kC] at hu; subst hu; simp [Addr.add]
  | 4, hu => simp [keys, kC] at hu; subst hu; simp [Addr.add]
  | 5, hu => simp [keys, kC] at hu; subst hu; simp [Addr.add]
theorem lv_two (w : World) : Has (w.alloc (.cells #[.int .i64 1, .int .i64 (-1), .int .i64 2, .int .i64 0] 23)) (some ⟨w.heap.size, 0, none⟩) 2 2 lvL := by
  refine ⟨rfl, (fun h => by cases h), Nat.le_refl _, ⟨fun j u hu => ⟨_, rfl, ?_⟩⟩⟩
  match j, hu with
  | 0, hu => simp [keys, kC, lvL] at hu; subst hu; simp [Addr.add]
  | 1, hu => simp [keys, kC, lvL] at hu; subst hu; simp [Addr.add]
  | 2, hu => simp [keys, kC, lvL] at hu; subst hu; simp [Addr.add]
  | 3, hu => simp [keys, kC, lvL] at hu; subst hu; simp [Addr.add]
theorem has_one (w : World) (o s : Int) : Has (w.alloc (.cells #[.int .i64 o, .int .i64 s] 23)) (some ⟨w.heap.size, 0, none⟩) 1 1 [(o, s)] := ⟨rfl, (fun h => by cases h), Nat.le_refl _, one_key w (o, s) _⟩
theorem lv_srt : srtL [(2, 0), (1, -1), (2, 0)] = lvL := by decide
theorem lv_srtE : srtE [(2, 0), (1, -1), (2, 0)] = 0 := by decide
theorem lv_no : srtL [(0, 8)] = [] := by decide
theorem lv_noE : srtE [(0, 8)] = 2 := by decide
theorem lv_rise : Rise lvL := by unfold Rise lvL; simp; decide
theorem lv_rise1 : Rise [(1, 3)] := by unfold Rise; simp
theorem lv_len3 : (srt (lvL ++ [(1, 3)])).length = 3 := by decide
theorem lv_sort {w : World} : Calls Try.prog 19 #[.slice (some ⟨w.heap.size, 0, none⟩) 3 3] (w.alloc (.cells #[.int .i64 2, .int .i64 0, .int .i64 1, .int .i64 (-1), .int .i64 2, .int .i64 0] 23)) fun e w' => ∃ ao cap, e = .returned (.tuple #[.slice ao 2 cap, .int .i64 0]) ∧ Has w' ao 2 cap lvL ∧ Below w.heap.size w w' := by
  refine (sort_any (some ⟨w.heap.size, 0, none⟩) 3 3 _ _ (by decide) (lv_three w)).mono ?_
  rintro e w' ⟨ao, cap, he, hh, hb⟩
  rw [lv_srt, lv_srtE] at he
  rw [lv_srt] at hh
  exact ⟨ao, cap, he, hh, q_trans (alloc_below w _) hb⟩
theorem lv_sort2 {w : World} : Calls Try.prog 19 #[.slice (some ⟨w.heap.size, 0, none⟩) 1 1] (w.alloc (.cells #[.int .i64 0, .int .i64 8] 23)) fun e w' => ∃ ao cap, e = .returned (.tuple #[.slice ao 0 cap, .int .i64 2]) ∧ Below w.heap.size w w' := by
  refine (sort_any (some ⟨w.heap.size, 0, none⟩) 1 1 _ _ (by decide) (has_one w 0 8)).mono ?_
  rintro e w' ⟨ao, cap, he, hh, hb⟩
  rw [lv_no, lv_noE] at he
  exact ⟨ao, cap, he, q_trans (alloc_below w _) hb⟩
theorem lv_key {w : World} : Calls Try.prog 9 #[.int .i64 9] w fun e w' => e = .returned (.tuple #[.agg #[.int .i64 1, .int .i64 (-1)], .int .i64 0]) ∧ Below w.heap.size w w' := keyOf_any 9 w (by decide)

/-- What stands in each world of the last statement. -/
abbrev SV (W : World) (p : Nat) (a : Addr) (cap : Nat) (w : World) : Prop :=
  w.cell? ⟨p, 0, none⟩ = some (.int .i64 1) ∧ w.cell? ⟨p, 1, none⟩ = some (.int .i64 (-1)) ∧ w.cell? a = some (.int .i64 1) ∧ w.cell? ⟨a.block, a.off + 1, none⟩ = some (.int .i64 (-1)) ∧ w.cell? ⟨a.block, a.off + 2, none⟩ = some (.int .i64 2) ∧ w.cell? ⟨a.block, a.off + 2 + 1, none⟩ = some (.int .i64 0) ∧ Hid (Has w (some a) 2 cap lvL) ∧ Hid (Below W.heap.size W w)
section
variable {W w w' : World} {p cap : Nat} {a : Addr}
theorem sv_keep (hb : Below w.heap.size w w') (h : SV W p a cap w) : SV W p a cap w' := by
  obtain ⟨h1, h2, h3, h4, h5, h6, h7, h8⟩ := h
  exact ⟨(hb.cell (World.block_lt_of_cell? w _ h1)).trans h1, (hb.cell (World.block_lt_of_cell? w _ h2)).trans h2, (hb.cell (World.block_lt_of_cell? w _ h3)).trans h3, (hb.cell (World.block_lt_of_cell? w _ h4)).trans h4, (hb.cell (World.block_lt_of_cell? w _ h5)).trans h5, (hb.cell (World.block_lt_of_cell? w _ h6)).trans h6, h7.out.below hb, q_trans h8.out hb⟩
theorem sv_below (h : SV W p a cap w) : Below W.heap.size W w := h.2.2.2.2.2.2.2.out
theorem sv_alloc {o : Obj} (h : SV W p a cap w) : SV W p a cap (w.alloc o) := sv_keep (alloc_below w o) h
theorem sv_drew (h : SV W p a cap w) : SV W p a cap w.drew := sv_keep (Below.refl _ w).drew h
theorem sv_start (hp : AtK W ⟨p, 0, none⟩ (1, -1)) (hl : Has W (some a) 2 cap lvL) : SV W p a cap W := by
  obtain ⟨a', e, c0, c1⟩ := atK_of hl.row 0 (by decide)
  cases e
  obtain ⟨a', e, c2, c3⟩ := atK_of hl.row 1 (by decide)
  cases e
  exact ⟨hp.c0, hp.c1, c0, c1, c2, c3, hl, Below.refl _ _⟩
theorem lv_same (h : SV W p a cap (w.alloc (.cells #[.int .i64 1, .int .i64 (-1), .int .i64 2, .int .i64 0] 23))) : Calls Try.prog 21 #[.slice (some a) 2 cap, .slice (some ⟨w.heap.size, 0, none⟩) 2 2] (w.alloc (.cells #[.int .i64 1, .int .i64 (-1), .int .i64 2, .int .i64 0] 23)) fun e w' => e = .returned (.bool true) ∧ Below (w.alloc (.cells #[.int .i64 1, .int .i64 (-1), .int .i64 2, .int .i64 0] 23)).heap.size (w.alloc (.cells #[.int .i64 1, .int .i64 (-1), .int .i64 2, .int .i64 0] 23)) w' :=
  same_yes (by decide) h.2.2.2.2.2.2.1.out (lv_two w)
theorem lv_cell : Calls Try.prog 16 #[.agg #[.int .i64 1, .int .i64 (-1)]] w fun e w' => e = .returned (.int .i64 9) ∧ Below w.heap.size w w' := cell_any (1, -1) w
theorem lv_rising (h : SV W p a cap w) : Calls Try.prog 22 #[.slice (some a) 2 cap] w fun e w' => e = .returned (.bool true) ∧ Below w.heap.size w w' := by
  have := rising_any (some a) 2 cap lvL w (by decide) h.2.2.2.2.2.2.1
  rwa [riseB_of lv_rise] at this
theorem lv_has (h : SV W p a cap w) : Calls Try.prog 24 #[.slice (some a) 2 cap, .agg #[.int .i64 1, .int .i64 (-1)]] w fun e w' => e = .returned (.bool true) ∧ Below w.heap.size w w' := has_any (some a) 2 cap lvL (1, -1) w (by decide) h.2.2.2.2.2.2.1
theorem lv_less : Calls Try.prog 14 #[.agg #[.int .i64 1, .int .i64 (-1)], .agg #[.int .i64 2, .int .i64 0]] w fun e w' => e = .returned (.bool true) ∧ Below w.heap.size w w' := less_is (a := (1, -1)) (b := (2, 0)) (by decide) w
theorem lv_merge (h : SV W p a cap (w.alloc (.cells #[.int .i64 1, .int .i64 3] 23))) : Calls Try.prog 26 #[.slice (some a) 2 cap, .slice (some ⟨w.heap.size, 0, none⟩) 1 1] (w.alloc (.cells #[.int .i64 1, .int .i64 3] 23)) fun e w' => ∃ ao' cap', e = .returned (.slice ao' 3 cap') ∧ Below (w.alloc (.cells #[.int .i64 1, .int .i64 3] 23)).heap.size (w.alloc (.cells #[.int .i64 1, .int .i64 3] 23)) w' := by
  refine (merge_any (some a) _ 2 1 cap 1 lvL [(1, 3)] _ (by decide) (by decide) h.2.2.2.2.2.2.1 (has_one w 1 3) lv_rise lv_rise1).mono ?_
  rintro e w' ⟨ao', cap', he, _, hb⟩
  rw [lv_len3] at he
  exact ⟨ao', cap', he, hb⟩
theorem lv_check : Calls Try.prog 12 #[.agg #[.int .i64 0, .int .i64 (-2)]] w fun e w' => e = .returned (.int .i64 2) ∧ Below w.heap.size w w' := check_no (k := (0, -2)) (by decide) w
end
set_option maxRecDepth 100000 in
set_option maxHeartbeats 4000000 in
theorem live_any (w : World) : Calls Try.prog 18 #[] w fun e w' => e = .returned (.bool true) ∧ Below w.heap.size w w' := by
  have he := eq_yes (rfl : ((1, -1) : K) = (1, -1))
  go_enter Try.func18, Try.ntmps18
  go_wp2_with fail
  refine (key_any 2 0 _).mono ?_
  rintro e w1 ⟨rfl, b1⟩
  have B1 := hid b1
  clear b1
  go_wp2_with fail
  refine (key_any 1 (-1) _).mono ?_
  rintro e w2 ⟨rfl, b2⟩
  have B2 := hid (q_trans B1.out b2)
  clear b2 B1
  go_wp2_with fail
  refine (key_any 2 0 _).mono ?_
  rintro e w3 ⟨rfl, b3⟩
  have B3 := hid (q_trans B2.out b3)
  clear b3 B2
  go_wp2_with fail
  refine lv_sort.mono ?_
  rintro e w4 ⟨ao, cap, rfl, hh, b4⟩
  have B4 := hid (q_trans B3.out b4)
  have H4 := hid hh
  clear b4 B3 hh
  go_wp2_with fail
  refine lv_key.mono ?_
  rintro e w5 ⟨rfl, b5⟩
  have B5 := hid (q_trans B4.out b5)
  have H5 := hid (H4.out.below b5)
  clear b5 B4 H4
  go_wp2_with fail
  generalize hW6 : w5.alloc _ = W6
  have A6 : Hid (AtK W6 ⟨w5.heap.size, 0, none⟩ (1, -1)) := by rw [← hW6]; exact at_new w5 (1, -1) _
  have H6 : Hid (Has W6 ao 2 cap lvL) := by rw [← hW6]; exact H5.out.below (alloc_below _ _)
  have B6 : Hid (Below w.heap.size w W6) := by rw [← hW6]; exact q_alloc B5.out _
  clear hW6 H5 B5
  refine (key_any 0 8 _).mono ?_
  rintro e w7 ⟨rfl, b7⟩
  have B7 := hid (q_trans B6.out b7)
  have A7 := hid (A6.out.below b7)
  have H7 := hid (H6.out.below b7)
  clear b7 B6 A6 H6
  go_wp2_with fail
  refine lv_sort2.mono ?_
  rintro e W ⟨ao8, cap8, rfl, b8⟩
  have B8 := hid (q_trans B7.out b8)
  have h := H7.out.below b8
  obtain ⟨a, rfl, _⟩ := h.head
  have HS := hid (sv_start (A7.out.below b8) h)
  clear b8 B7 A7 H7 h
  go_wp2_with fail
  have hS := HS.out
  obtain ⟨k1, k2, k3, k4, k5, k6, -, -⟩ := HS.out
  go_region_held3 (SV W w5.heap.size a cap) (first | assumption | exact sv_keep (by assumption) (by assumption) | exact sv_alloc (by assumption) | exact sv_drew (by assumption))
    (first
      | (go_at_call 11; refine (num_any _ _).mono ?_; rintro e w' ⟨rfl, rfl⟩)
      | (go_at_call 28; refine (key_any _ _ _).mono ?_; rintro e w' ⟨rfl, b⟩)
      | (go_at_call 21; refine (lv_same (by assumption)).mono ?_; rintro e w' ⟨rfl, b⟩)
      | (go_at_call 16; refine lv_cell.mono ?_; rintro e w' ⟨rfl, b⟩)
      | (go_at_call 22; refine (lv_rising (by assumption)).mono ?_; rintro e w' ⟨rfl, b⟩)
      | (go_at_call 24; refine (lv_has (by assumption)).mono ?_; rintro e w' ⟨rfl, b⟩)
      | (go_at_call 14; refine lv_less.mono ?_; rintro e w' ⟨rfl, b⟩)
      | (go_at_call 26; refine (lv_merge (by assumption)).mono ?_; rintro e w' ⟨ao9, cap9, rfl, b⟩)
      | (go_at_call 12; refine lv_check.mono ?_; rintro e w' ⟨rfl, b⟩))
  all_goals
    go_wp2_with fail
    go_ret
    exact ⟨rfl, q_trans B8.out (sv_below (p := w5.heap.size) (a := a) (cap := cap) (by assumption))⟩
end Go.Proofs.Ythonibklaijejaa.Or
