/- What slices.Clone does: of pins, of those that wait, of lists; what the program's apart does. -/
import Derived.Test.YtejghoncihdfkaaEpW2
import Derived.Lib.SliceRun
import Derived.Deep.RegionWith
import Derived.BigRegion
namespace Go.Proofs.Ytejghoncihdfkaa.Ep
open Go.RowKit

theorem eqIs (w : World) (a : Option Addr) (n c n' c' : Nat) : (binOp .eql 22 (.slice a n c) (.slice none n' c')).run Try.prog w = .ok (.bool a.isNone) w := Lib.run_eql_slice_nil w _ _ a n c n' c' Try.underlying22
theorem eqWs (w : World) (a : Option Addr) (n c n' c' : Nat) : (binOp .eql 49 (.slice a n c) (.slice none n' c')).run Try.prog w = .ok (.bool a.isNone) w := Lib.run_eql_slice_nil w _ _ a n c n' c' Try.underlying49
theorem eqLs (w : World) (a : Option Addr) (n c n' c' : Nat) : (binOp .eql 23 (.slice a n c) (.slice none n' c')).run Try.prog w = .ok (.bool a.isNone) w := Lib.run_eql_slice_nil w _ _ a n c n' c' Try.underlying23
set_option maxHeartbeats 400000 in
theorem cloneI_nil (w : World) :
    Calls Try.prog 44 #[.slice none 0 0] w fun e w' => e = .returned (.slice none 0 0) ∧ w' = w := by
  have q := eqIs
  go_enter Try.func44, Try.ntmps44
  go_wp2
  go_ret
  exact ⟨rfl, rfl⟩
set_option maxHeartbeats 400000 in
theorem cloneI_some (a : Addr) (n cap : Nat) (cs : List Value) (w : World) (hn : Hid (cs.length = n * 1)) (hs : Hid (n ≤ 1000)) (hr : Hid (Row w (some a) cs)) (h1 : Hid (∀ u ∈ cs, u.oneCell' = true)) :
    Calls Try.prog 44 #[.slice (some a) n cap] w fun e w' => ∃ ao' cap', e = .returned (.slice ao' n cap') ∧ w'.ownsRow w.heap.size 2 1 (.slice ao' n cap') n cs ∧ Below w.heap.size w w' := by
  have q := eqIs
  go_enter Try.func44, Try.ntmps44
  go_wp2_with (at_builtin; refine wpList_append_row _ rfl (.tmp 5) (.tmp 6) 22 2 _ 1 8 rfl Try.underlying22 infoI rfl (by decide) (by decide) w.heap.size _ 0 [] rfl (own0 w 2 1) (some a) n cap cs rfl hn.out (fun h => by cases h) (hr.out.below (alloc_below w _)) h1.out (by have := hs.out; omega) (alloc_below w _).size ?_; intro ao1 cap1 w1 hown1 hgrow1; have b1 := app_below hgrow1; rw [Nat.zero_add, List.nil_append] at hown1; rw [Nat.zero_add]; have HO : Hid (w1.ownsRow w.heap.size 2 1 (.slice ao1 n cap1) n cs) := hown1; clear hown1 hgrow1)
  go_ret
  exact ⟨ao1, cap1, rfl, HO.out, b1⟩
/-- slices.Clone OF PINS. -/
theorem cloneI_any (ao : Option Addr) (n cap : Nat) (l : List Int) (w : World) (h : Has w ao n cap l) (hs : n ≤ 1000) :
    Calls Try.prog 44 #[.slice ao n cap] w fun e w' => ∃ y : Hd, e = .returned (.slice y.o y.n y.c) ∧ w'.ownsRow w.heap.size 2 1 (.slice y.o y.n y.c) y.n (vals l) ∧ Below w.heap.size w w' := by
  cases ao with
  | none =>
    have h0 := row_none h.row
    rw [h.nil rfl]
    have hn0 : n = 0 := by rw [h.len]; simpa using h0
    subst hn0
    refine (cloneI_nil w).mono ?_
    rintro e w' ⟨rfl, rfl⟩
    exact ⟨⟨none, 0, 0⟩, rfl, by rw [h0]; exact World.ownsRow_nil _ _ _ _, Below.refl _ _⟩
  | some a =>
    refine (cloneI_some a n cap (vals l) w (by rw [len_vals, h.len]; simp [Hid]) hs h.row (vals_one l)).mono ?_
    rintro e w' ⟨ao', cap', rfl, h2, h3⟩
    exact ⟨⟨ao', n, cap'⟩, rfl, h2, h3⟩
set_option maxHeartbeats 400000 in
theorem cloneW_nil (w : World) :
    Calls Try.prog 46 #[.slice none 0 0] w fun e w' => e = .returned (.slice none 0 0) ∧ w' = w := by
  have q := eqWs
  go_enter Try.func46, Try.ntmps46
  go_wp2
  go_ret
  exact ⟨rfl, rfl⟩
set_option maxHeartbeats 400000 in
theorem cloneW_some (a : Addr) (n cap : Nat) (cs : List Value) (w : World) (hn : Hid (cs.length = n * 2)) (hs : Hid (n ≤ 1000)) (hr : Hid (Row w (some a) cs)) (h1 : Hid (∀ u ∈ cs, u.oneCell' = true)) :
    Calls Try.prog 46 #[.slice (some a) n cap] w fun e w' => ∃ ao' cap', e = .returned (.slice ao' n cap') ∧ w'.ownsRow w.heap.size 51 2 (.slice ao' n cap') n cs ∧ Below w.heap.size w w' := by
  have q := eqWs
  go_enter Try.func46, Try.ntmps46
  go_wp2_with (at_builtin; refine wpList_append_row _ rfl (.tmp 5) (.tmp 6) 49 51 _ 2 16 rfl Try.underlying49 infoW rfl (by decide) (by decide) w.heap.size _ 0 [] rfl (own0 w 51 2) (some a) n cap cs rfl hn.out (fun h => by cases h) (hr.out.below (alloc_below w _)) h1.out (by have := hs.out; omega) (alloc_below w _).size ?_; intro ao1 cap1 w1 hown1 hgrow1; have b1 := app_below hgrow1; rw [Nat.zero_add, List.nil_append] at hown1; rw [Nat.zero_add]; have HO : Hid (w1.ownsRow w.heap.size 51 2 (.slice ao1 n cap1) n cs) := hown1; clear hown1 hgrow1)
  go_ret
  exact ⟨ao1, cap1, rfl, HO.out, b1⟩
/-- slices.Clone OF THOSE THAT WAIT. -/
theorem cloneW_any (ao : Option Addr) (n cap : Nat) (l : List W) (w : World) (h : HasW w ao n cap l) (hs : n ≤ 1000) :
    Calls Try.prog 46 #[.slice ao n cap] w fun e w' => ∃ y : Hd, e = .returned (.slice y.o y.n y.c) ∧ w'.ownsRow w.heap.size 51 2 (.slice y.o y.n y.c) y.n (wts l) ∧ Below w.heap.size w w' := by
  cases ao with
  | none =>
    have h0 := row_none h.row
    rw [h.nil rfl]
    have hn0 : n = 0 := by
      have := congrArg List.length h0
      rw [len_wts] at this
      rw [h.len]
      have t : l.length * 2 = 0 := this
      omega
    subst hn0
    refine (cloneW_nil w).mono ?_
    rintro e w' ⟨rfl, rfl⟩
    exact ⟨⟨none, 0, 0⟩, rfl, by rw [h0]; exact World.ownsRow_nil _ _ _ _, Below.refl _ _⟩
  | some a =>
    refine (cloneW_some a n cap (wts l) w (by rw [len_wts, h.len]; simp [Hid]) hs h.row (wts_one l)).mono ?_
    rintro e w' ⟨ao', cap', rfl, h2, h3⟩
    exact ⟨⟨ao', n, cap'⟩, rfl, h2, h3⟩
set_option maxHeartbeats 400000 in
theorem cloneL_nil (w : World) :
    Calls Try.prog 45 #[.slice none 0 0] w fun e w' => e = .returned (.slice none 0 0) ∧ w' = w := by
  have q := eqLs
  go_enter Try.func45, Try.ntmps45
  go_wp2
  go_ret
  exact ⟨rfl, rfl⟩
set_option maxHeartbeats 400000 in
theorem cloneL_some (a : Addr) (n cap : Nat) (cs : List Value) (w : World) (hn : Hid (cs.length = n * 1)) (hs : Hid (n ≤ 1000)) (hr : Hid (Row w (some a) cs)) (h1 : Hid (∀ u ∈ cs, u.oneCell' = true)) :
    Calls Try.prog 45 #[.slice (some a) n cap] w fun e w' => ∃ ao' cap', e = .returned (.slice ao' n cap') ∧ w'.ownsRow w.heap.size 49 1 (.slice ao' n cap') n cs ∧ Below w.heap.size w w' := by
  have q := eqLs
  go_enter Try.func45, Try.ntmps45
  go_wp2_with (at_builtin; refine wpList_append_row _ rfl (.tmp 5) (.tmp 6) 23 49 _ 1 24 rfl Try.underlying23 infoS rfl (by decide) (by decide) w.heap.size _ 0 [] rfl (own0 w 49 1) (some a) n cap cs rfl hn.out (fun h => by cases h) (hr.out.below (alloc_below w _)) h1.out (by have := hs.out; omega) (alloc_below w _).size ?_; intro ao1 cap1 w1 hown1 hgrow1; have b1 := app_below hgrow1; rw [Nat.zero_add, List.nil_append] at hown1; rw [Nat.zero_add]; have HO : Hid (w1.ownsRow w.heap.size 49 1 (.slice ao1 n cap1) n cs) := hown1; clear hown1 hgrow1)
  go_ret
  exact ⟨ao1, cap1, rfl, HO.out, b1⟩
/-- slices.Clone OF LISTS: their heads. -/
theorem cloneL_any (ao : Option Addr) (n cap : Nat) (hs : List Hd) (lm : List (List W)) (Av : Nat → Prop) (w : World) (h : HasL w Av ao n cap hs lm) (hn : n ≤ 1000) :
    Calls Try.prog 45 #[.slice ao n cap] w fun e w' => ∃ y : Hd, e = .returned (.slice y.o y.n y.c) ∧ w'.ownsRow w.heap.size 49 1 (.slice y.o y.n y.c) y.n (hds hs) ∧ Below w.heap.size w w' := by
  cases ao with
  | none =>
    have h0 := row_none h.row
    rw [h.nil rfl]
    have hn0 : n = 0 := by
      have := congrArg List.length h0
      rw [len_hds] at this
      rw [h.len, ← h.hl]
      simpa using this
    subst hn0
    refine (cloneL_nil w).mono ?_
    rintro e w' ⟨rfl, rfl⟩
    exact ⟨⟨none, 0, 0⟩, rfl, by rw [h0]; exact World.ownsRow_nil _ _ _ _, Below.refl _ _⟩
  | some a =>
    refine (cloneL_some a n cap (hds hs) w (by rw [len_hds, h.hl, h.len]; simp [Hid]) hn h.row (hds_one hs)).mono ?_
    rintro e w' ⟨ao', cap', rfl, h2, h3⟩
    exact ⟨⟨ao', n, cap'⟩, rfl, h2, h3⟩
end Go.Proofs.Ytejghoncihdfkaa.Ep
