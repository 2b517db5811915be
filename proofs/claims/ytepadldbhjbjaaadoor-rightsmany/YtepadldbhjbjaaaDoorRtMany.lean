/- The walk of RightsMany: it answers true. -/
import Derived.Test.YtepadldbhjbjaaaDoorRtApp2
import Derived.Test.YtepadldbhjbjaaaDoorRtRot
import Derived.Deep.RegionHeld3
import Derived.Deep.DrawnRows
namespace Go.Proofs.YtepadldbhjbjaaaDoor.Rt
open Go.RowKit

attribute [local go_sem ↓] Go.wp_at_zero Go.wp_at_succ

set_option maxRecDepth 100000 in
set_option maxHeartbeats 2000000 in
theorem many_no (ao : Option Addr) (n cap : Nat) (k : Int) (w : World) (HT : Hid (Tab w)) (hn2 : n ≤ 9223372036854775807) (h : Hid (100 < n ∨ (n ≤ 100 ∧ k < 0) ∨ (n ≤ 100 ∧ 0 ≤ k ∧ (n : Int) ≤ k))) :
    Calls Tryd.prog 8 #[.slice ao n cap, .int .i64 k] w fun e w' => e = .returned (.bool true) ∧ Below w.heap.size w w' := by
  rcases h.out with h1 | ⟨h1, h2⟩ | ⟨h1, h2, h3⟩
  all_goals
    clear h
    go_enter Tryd.func8, Tryd.ntmps8
    go_wp2_with (go_at_call 9; refine (live_any _ HT.out).mono ?_; rintro e w6 ⟨rfl, b6⟩)
    go_ret
    exact ⟨rfl, b6⟩

set_option maxRecDepth 100000 in
set_option maxHeartbeats 4000000 in
theorem many_yes (a : Addr) (l : List Int) (cap k : Nat) (w : World) (HT : Hid (Tab w)) (hn : l.length ≤ 100) (hk : k < l.length) (hcap : l.length ≤ cap) (HL : Hid (Lies w (some a) l)) :
    Calls Tryd.prog 8 #[.slice (some a) l.length cap, .int .i64 k] w fun e w' => e = .returned (.bool true) ∧ Below w.heap.size w w' := by
  have i1 : (0 : Int) ≤ (k : Int) := by omega
  have i2 : (k : Int) ≤ (l.length : Int) := by omega
  have i3 : (k : Int) < (l.length : Int) := by omega
  have i4 : (k : Int) ≤ (cap : Int) := by omega
  have i5 : ¬ cap = k := by omega
  obtain ⟨t, ht⟩ : ∃ t, l.drop k ++ l.take k = t := ⟨_, rfl⟩
  have HTt : Hid (l.drop k ++ l.take k = t) := ht
  have HTl : Hid (l.length = t.length) := by rw [← HTt.out]; simp [Hid]; omega
  clear ht
  obtain ⟨d, hd⟩ : ∃ d, l.length - k = d := ⟨_, rfl⟩
  have HD : Hid (l.length - k = d) := hd
  go_enter Tryd.func8, Tryd.ntmps8
  go_wp2_with fail
  go_region_held3 (fun w' => True) (trivial)
    (first
      | (refine step_append_ints _ (by rfl) (.tmp 33) (.tmp 36) (by rfl) w.heap.size (.slice (some ⟨w.heap.size, 0, none⟩) 0 0) 0 [] (by rfl) ((own0 w).drew) (a.add k) d (cap - k) (l.drop k) (by rfl) (by rw [← HD.out]; simp) (lies_drop (HL.out.below ((alloc_below w _).drew)) k) d (by omega) (l.drop k) (by rfl) (by omega) (by simp) ?_; intro ao1 cap1 w1 hown1 hgrow1; have b1 := grow_below (alloc_below w _).drew hgrow1 (Nat.le_refl _))
      | (refine step_append_ints _ (by rfl) (.tmp 37) (.tmp 40) (by rfl) w.heap.size _ _ _ (by rfl) hown1 a k cap (l.take k) (by rfl) (by simp; omega) (lies_take (HL.out.below b1) k) l.length (by omega) t HTt.out (by omega) b1.size ?_; intro ao2 cap2 w2 hown2 hgrow2; have b2 := b1.grown hgrow2 b1.size (fun k e => (hown1.lt k e).1)))
  obtain ⟨-, htc, -, hLt⟩ := own_lies2 hown2
  obtain ⟨a2, rfl, -⟩ := hLt 0 (by rw [← HTl.out]; omega)
  have HLt : Hid (Lies w2 (some a2) t) := hLt
  have HB2 : Hid (Below w.heap.size w w2) := b2
  obtain ⟨x, hx⟩ : ∃ x, l.getD k 0 = x := ⟨_, rfl⟩
  have hxc : w2.cell? (a.add k) = some (.int .i64 x) := by
    obtain ⟨a', e, hc⟩ := (HL.out.below b2) k hk
    cases e
    rw [hc, hx]
  have HX : Hid (l.getD k 0 = x) := hx
  clear hown1 hgrow1 b1 hown2 hgrow2 hLt b2 hx
  have hne := World.new_ne w2 _ hxc
  have HLT : Hid ((a.add k).block < w2.heap.size) := World.block_lt_of_cell? w2 _ hxc
  have HXC : Hid (w2.cell? (a.add k) = some (.int .i64 x)) := hxc
  go_wp2_with fail
  go_region_held3 (fun w' => w'.cell? (a.add k) = some (.int .i64 x)) (first | go_keep | exact (b4.cell HLT.out).trans HXC.out | exact (b3.cell HLT.out).trans HXC.out | exact ((q_alloc b3 _).cell HLT.out).trans HXC.out)
    (first
      | (refine step_append_ints _ (by rfl) (.tmp 42) (.tmp 43) (by rfl) w2.heap.size (.slice (some ⟨w2.heap.size, 0, none⟩) 0 0) 0 [] (by rfl) ((own0 w2).drew) a2 l.length cap2 t (by rfl) HTl.out (HLt.out.below (alloc_below w2 _).drew) l.length (by omega) t (by rfl) (by omega) (by simp) ?_; intro ao3 cap3 w3 hown3 hgrow3; have b3 := grow_below (alloc_below w2 _).drew hgrow3 (Nat.le_refl _))
      | (refine step_append_ints _ (by rfl) (.tmp 42) (.tmp 43) (by rfl) w2.heap.size (.slice (some ⟨w2.heap.size, 0, none⟩) 0 0) 0 [] (by rfl) (((own0 w2).alloc (.cells #[.int .i64 x] 3)).drew) a2 l.length cap2 t (by rfl) HTl.out (HLt.out.below (q_alloc (alloc_below w2 _) _).drew) l.length (by omega) t (by rfl) (by omega) (by simp; omega) ?_; intro ao3 cap3 w3 hown3 hgrow3; have b3 := grow_below (q_alloc (alloc_below w2 _) _).drew hgrow3 (Nat.le_refl _); have HX3 : Hid (Lies w3 (some ⟨w2.heap.size + 1, 0, none⟩) [x]) := lies_grown (lies_one1 x w2) hgrow3 (by omega))
      | (refine step_append_ints _ (by rfl) (.tmp 42) (.tmp 43) (by rfl) w2.heap.size (.slice (some ⟨w2.heap.size + 1, 0, none⟩) 0 0) 0 [] (by rfl) ((own1 x w2).drew) a2 l.length cap2 t (by rfl) HTl.out (HLt.out.below (q_alloc (alloc_below w2 _) _).drew) l.length (by omega) t (by rfl) (by omega) (by simp; omega) ?_; intro ao3 cap3 w3 hown3 hgrow3; have b3 := grow_below (q_alloc (alloc_below w2 _) _).drew hgrow3 (Nat.le_succ _); have HX3 : Hid (Lies w3 (some ⟨w2.heap.size, 0, none⟩) [x]) := lies_grown ((one_lies x w2).below (alloc_below _ _)) hgrow3 (by omega))
      | (refine step_append_ints _ (by rfl) (.tmp 44) (.tmp 49) (by rfl) w2.heap.size _ _ _ (by rfl) (hown3.alloc _) ⟨w3.heap.size, 0, none⟩ 1 1 [x] (by rfl) (by rfl) (one_lies x w3) (l.length + 1) (by omega) (t ++ [x]) (by rfl) (by omega) (q_alloc b3 _).size ?_; intro ao4 cap4 w4 hown4 hgrow4; have b4 := (q_alloc b3 _).grown hgrow4 (q_alloc b3 _).size (fun k e => (hown3.lt k e).1))
      | (refine step_append_ints _ (by rfl) (.tmp 44) (.tmp 49) (by rfl) w2.heap.size _ _ _ (by rfl) hown3 ⟨w2.heap.size + 1, 0, none⟩ 1 1 [x] (by rfl) (by rfl) HX3.out (l.length + 1) (by omega) (t ++ [x]) (by rfl) (by omega) b3.size ?_; intro ao4 cap4 w4 hown4 hgrow4; have b4 := b3.grown hgrow4 b3.size (fun k e => (hown3.lt k e).1))
      | (refine step_append_ints _ (by rfl) (.tmp 44) (.tmp 49) (by rfl) w2.heap.size _ _ _ (by rfl) hown3 ⟨w2.heap.size, 0, none⟩ 1 1 [x] (by rfl) (by rfl) HX3.out (l.length + 1) (by omega) (t ++ [x]) (by rfl) (by omega) b3.size ?_; intro ao4 cap4 w4 hown4 hgrow4; have b4 := b3.grown hgrow4 b3.size (fun k e => (hown3.lt k e).1)))
  all_goals
    obtain ⟨-, -, -, hL4⟩ := own_lies2 hown4
    have H4 : Hid (Lies w4 ao4 (t ++ [x])) := hL4
    have b := q_trans HB2.out b4
    clear hown3 hgrow3 b3 hown4 hgrow4 hL4 b4 hxc hne
    have HM : Hid (∀ y, y ∈ t ++ [x] ↔ y ∈ l) := by rw [← HTt.out, ← HX.out]; exact mem_rot l k hk
    have hM1 : Hid (Calls Tryd.prog 19 #[.slice ao4 (l.length + 1) cap4] w4 fun e w' => e = .returned (.tuple #[.int .i64 (meetT l), .int .i64 (listE l)]) ∧ w' = w4) := by
      rw [← meet_same HM.out, ← E_same HM.out]
      exact meet_any ao4 (t ++ [x]) _ cap4 w4 (by rw [HTl.out]; simp) (by omega) H4.out
    have hJ1 : Hid (Calls Tryd.prog 21 #[.slice ao4 (l.length + 1) cap4] w4 fun e w' => e = .returned (.tuple #[.int .i64 (joinT l), .int .i64 (listE l)]) ∧ w' = w4) := by
      rw [← join_same HM.out, ← E_same HM.out]
      exact join_any ao4 (t ++ [x]) _ cap4 w4 (by rw [HTl.out]; simp) (by omega) H4.out
    have hM0 : Hid (Calls Tryd.prog 19 #[.slice (some a) l.length cap] w4 fun e w' => e = .returned (.tuple #[.int .i64 (meetT l), .int .i64 (listE l)]) ∧ w' = w4) := meet_any (some a) l _ cap w4 rfl (by omega) (HL.out.below b)
    have hJ0 : Hid (Calls Tryd.prog 21 #[.slice (some a) l.length cap] w4 fun e w' => e = .returned (.tuple #[.int .i64 (joinT l), .int .i64 (listE l)]) ∧ w' = w4) := join_any (some a) l _ cap w4 rfl (by omega) (HL.out.below b)
    go_wp2_with fail
    refine hM0.out.mono ?_
    rintro e w5 ⟨rfl, rfl⟩
    go_wp2_with fail
    refine hM1.out.mono ?_
    rintro e w5 ⟨rfl, rfl⟩
    go_wp2_with fail
    refine hJ0.out.mono ?_
    rintro e w5 ⟨rfl, rfl⟩
    go_wp2_with fail
    refine hJ1.out.mono ?_
    rintro e w5 ⟨rfl, rfl⟩
    go_wp2_with fail
    refine (meet_none _ _ _).mono ?_
    rintro e w5 ⟨rfl, rfl⟩
    go_wp2_with fail
    refine (join_none _ _ _).mono ?_
    rintro e w5 ⟨rfl, rfl⟩
    go_wp2_with (first | (go_at_call 18; refine (num_any _ _).mono ?_; rintro e w5 ⟨rfl, rfl⟩) | (go_at_call 9; refine (live_any _ (HT.out.below b)).mono ?_; rintro e w6 ⟨rfl, b6⟩; replace b6 := q_trans b b6))
    go_ret
    exact ⟨rfl, b6⟩

theorem many_any (ao : Option Addr) (l : List Int) (n cap : Nat) (k : Int) (w : World) (hl : n = l.length) (hn : n ≤ 9223372036854775807) (hc : n ≤ cap) (hL : Lies w ao l) (hT : Tab w) :
    Calls Tryd.prog 8 #[.slice ao n cap, .int .i64 k] w fun e w' => e = .returned (.bool true) ∧ Below w.heap.size w w' := by
  by_cases h : n ≤ 100 ∧ 0 ≤ k ∧ k < (n : Int)
  · obtain ⟨j, rfl⟩ := Int.eq_ofNat_of_zero_le h.2.1
    subst hl
    obtain ⟨a, rfl, -⟩ := hL 0 (by omega)
    exact many_yes a l cap j w hT h.1 (by omega) hc hL
  · refine many_no ao n cap k w hT hn ?_
    show _ ∨ _ ∨ _
    omega
end Go.Proofs.YtepadldbhjbjaaaDoor.Rt
