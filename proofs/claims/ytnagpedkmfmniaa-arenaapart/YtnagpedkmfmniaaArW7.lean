/- What slices.Clone does: of things, of lists, of numbers. -/
import Derived.Test.YtnagpedkmfmniaaArOwn
import Derived.Lib.SliceRun
namespace Go.Proofs.Ytnagpedkmfmniaa.Ar
open Go.RowKit Go.Proofs.Ytnagpedkmfmniaa.Ha

theorem infoT : (Try.prog.info? 40).map (fun i => (i.zero, i.size, i.bytes)) = some (some (.agg #[.int .i64 0, .int .i64 0, .int .i64 0, .int .i64 0, .int .i64 0, .int .i64 0, .int .i64 0, .int .i64 0]), 8, 64) := by kernel_rfl
theorem infoF : (Try.prog.info? 49).map (fun i => (i.zero, i.size, i.bytes)) = some (some (.slice none 0 0), 1, 24) := by kernel_rfl
theorem eqN (w : World) (a : Option Addr) (n c n' c' : Nat) : (binOp .eql 49 (.slice a n c) (.slice none n' c')).run Try.prog w = .ok (.bool a.isNone) w := Lib.run_eql_slice_nil w _ _ a n c n' c' Try.underlying49
theorem eqT (w : World) (a : Option Addr) (n c n' c' : Nat) : (binOp .eql 22 (.slice a n c) (.slice none n' c')).run Try.prog w = .ok (.bool a.isNone) w := Lib.run_eql_slice_nil w _ _ a n c n' c' Try.underlying22
theorem eqF (w : World) (a : Option Addr) (n c n' c' : Nat) : (binOp .eql 23 (.slice a n c) (.slice none n' c')).run Try.prog w = .ok (.bool a.isNone) w := Lib.run_eql_slice_nil w _ _ a n c n' c' Try.underlying23
set_option maxHeartbeats 400000 in
theorem clone_nil (w : World) :
    Calls Try.prog 60 #[.slice none 0 0] w fun e w' => e = .returned (.slice none 0 0) ∧ w' = w := by
  have q := eqN
  go_enter Try.func60, Try.ntmps60
  go_wp2
  go_ret
  exact ⟨rfl, rfl⟩
set_option maxHeartbeats 400000 in
theorem clone_some (a : Addr) (n cap : Nat) (cs : List Value) (w : World) (hn : Hid (cs.length = n * 1)) (hs : Hid (n ≤ 1000)) (hr : Hid (Row w (some a) cs)) (h1 : Hid (∀ u ∈ cs, u.oneCell' = true)) :
    Calls Try.prog 60 #[.slice (some a) n cap] w fun e w' => ∃ ao' cap', e = .returned (.slice ao' n cap') ∧ w'.ownsRow w.heap.size 3 1 (.slice ao' n cap') n cs ∧ Below w.heap.size w w' := by
  have q := eqN
  go_enter Try.func60, Try.ntmps60
  go_wp2_with (at_builtin; refine wpList_append_row _ rfl (.tmp 5) (.tmp 6) 49 3 _ 1 8 rfl Try.underlying49 infoN rfl (by decide) (by decide) w.heap.size _ 0 [] rfl (own0 w 3 1) (some a) n cap cs rfl hn.out (fun h => by cases h) (hr.out.below (alloc_below w _)) h1.out (by have := hs.out; omega) (alloc_below w _).size ?_; intro ao1 cap1 w1 hown1 hgrow1; have b1 := app_below hgrow1; rw [Nat.zero_add, List.nil_append] at hown1; rw [Nat.zero_add]; have HO : Hid (w1.ownsRow w.heap.size 3 1 (.slice ao1 n cap1) n cs) := hown1; clear hown1 hgrow1)
  go_ret
  exact ⟨ao1, cap1, rfl, HO.out, b1⟩
/-- slices.Clone OF NUMBERS. -/
theorem clone_any (ao : Option Addr) (n cap : Nat) (l : List Int) (w : World) (h : Has w ao n cap l) (hs : n ≤ 1000) :
    Calls Try.prog 60 #[.slice ao n cap] w fun e w' => ∃ y : Hd, e = .returned (.slice y.o y.n y.c) ∧ Mine w' w.heap.size y.o y.n y.c l ∧ Below w.heap.size w w' := by
  cases ao with
  | none =>
    have h0 := row_none h.row
    rw [h.nil rfl]
    have hn0 : n = 0 := by rw [h.len]; simpa using h0
    subst hn0
    refine (clone_nil w).mono ?_
    rintro e w' ⟨rfl, rfl⟩
    have hl0 : l = [] := by simpa using h0
    exact ⟨⟨none, 0, 0⟩, rfl, ⟨by rw [hl0]; exact has_nil _, fun a e => by cases e⟩, Below.refl _ _⟩
  | some a =>
    refine (clone_some a n cap (vals l) w (by rw [len_vals, h.len]; simp [Hid]) hs h.row (vals_one l)).mono ?_
    rintro e w' ⟨ao', cap', rfl, h2, h3⟩
    exact ⟨⟨ao', n, cap'⟩, rfl, own_mine h2, h3⟩
set_option maxHeartbeats 400000 in
theorem cloneT_nil (w : World) :
    Calls Try.prog 58 #[.slice none 0 0] w fun e w' => e = .returned (.slice none 0 0) ∧ w' = w := by
  have q := eqT
  go_enter Try.func58, Try.ntmps58
  go_wp2
  go_ret
  exact ⟨rfl, rfl⟩
set_option maxHeartbeats 400000 in
theorem cloneT_some (a : Addr) (n cap : Nat) (cs : List Value) (w : World) (hn : Hid (cs.length = n * 8)) (hs : Hid (n ≤ 1000)) (hr : Hid (Row w (some a) cs)) (h1 : Hid (∀ u ∈ cs, u.oneCell' = true)) :
    Calls Try.prog 58 #[.slice (some a) n cap] w fun e w' => ∃ ao' cap', e = .returned (.slice ao' n cap') ∧ w'.ownsRow w.heap.size 40 8 (.slice ao' n cap') n cs ∧ Below w.heap.size w w' := by
  have q := eqT
  go_enter Try.func58, Try.ntmps58
  go_wp2_with (at_builtin; refine wpList_append_row _ rfl (.tmp 5) (.tmp 6) 22 40 _ 8 64 rfl Try.underlying22 infoT rfl (by decide) (by decide) w.heap.size _ 0 [] rfl (own0 w 40 8) (some a) n cap cs rfl hn.out (fun h => by cases h) (hr.out.below (alloc_below w _)) h1.out (by have := hs.out; omega) (alloc_below w _).size ?_; intro ao1 cap1 w1 hown1 hgrow1; have b1 := app_below hgrow1; rw [Nat.zero_add, List.nil_append] at hown1; rw [Nat.zero_add]; have HO : Hid (w1.ownsRow w.heap.size 40 8 (.slice ao1 n cap1) n cs) := hown1; clear hown1 hgrow1)
  go_ret
  exact ⟨ao1, cap1, rfl, HO.out, b1⟩
/-- slices.Clone OF THINGS. -/
theorem cloneT_any (ao : Option Addr) (n cap : Nat) (l : List Th) (w : World) (h : HasT w ao n cap l) (hs : n ≤ 1000) :
    Calls Try.prog 58 #[.slice ao n cap] w fun e w' => ∃ y : Hd, e = .returned (.slice y.o y.n y.c) ∧ w'.ownsRow w.heap.size 40 8 (.slice y.o y.n y.c) y.n (ths l) ∧ Below w.heap.size w w' := by
  cases ao with
  | none =>
    have h0 := row_none h.row
    rw [h.nil rfl]
    have hn0 : n = 0 := by
      have := congrArg List.length h0
      rw [len_ths] at this
      rw [h.len]
      simp at this
      omega
    subst hn0
    refine (cloneT_nil w).mono ?_
    rintro e w' ⟨rfl, rfl⟩
    exact ⟨⟨none, 0, 0⟩, rfl, by rw [h0]; exact World.ownsRow_nil _ _ _ _, Below.refl _ _⟩
  | some a =>
    refine (cloneT_some a n cap (ths l) w (by rw [len_ths, h.len]; simp [Hid]) hs h.row (ths_one l)).mono ?_
    rintro e w' ⟨ao', cap', rfl, h2, h3⟩
    exact ⟨⟨ao', n, cap'⟩, rfl, h2, h3⟩
set_option maxHeartbeats 400000 in
theorem cloneF_nil (w : World) :
    Calls Try.prog 59 #[.slice none 0 0] w fun e w' => e = .returned (.slice none 0 0) ∧ w' = w := by
  have q := eqF
  go_enter Try.func59, Try.ntmps59
  go_wp2
  go_ret
  exact ⟨rfl, rfl⟩
set_option maxHeartbeats 400000 in
theorem cloneF_some (a : Addr) (n cap : Nat) (cs : List Value) (w : World) (hn : Hid (cs.length = n * 1)) (hs : Hid (n ≤ 1000)) (hr : Hid (Row w (some a) cs)) (h1 : Hid (∀ u ∈ cs, u.oneCell' = true)) :
    Calls Try.prog 59 #[.slice (some a) n cap] w fun e w' => ∃ ao' cap', e = .returned (.slice ao' n cap') ∧ w'.ownsRow w.heap.size 49 1 (.slice ao' n cap') n cs ∧ Below w.heap.size w w' := by
  have q := eqF
  go_enter Try.func59, Try.ntmps59
  go_wp2_with (at_builtin; refine wpList_append_row _ rfl (.tmp 5) (.tmp 6) 23 49 _ 1 24 rfl Try.underlying23 infoF rfl (by decide) (by decide) w.heap.size _ 0 [] rfl (own0 w 49 1) (some a) n cap cs rfl hn.out (fun h => by cases h) (hr.out.below (alloc_below w _)) h1.out (by have := hs.out; omega) (alloc_below w _).size ?_; intro ao1 cap1 w1 hown1 hgrow1; have b1 := app_below hgrow1; rw [Nat.zero_add, List.nil_append] at hown1; rw [Nat.zero_add]; have HO : Hid (w1.ownsRow w.heap.size 49 1 (.slice ao1 n cap1) n cs) := hown1; clear hown1 hgrow1)
  go_ret
  exact ⟨ao1, cap1, rfl, HO.out, b1⟩
/-- slices.Clone OF LISTS: their heads. -/
theorem cloneF_any (ao : Option Addr) (n cap : Nat) (hs : List Hd) (fr : List (List Int)) (w : World) (h : HasF w ao n cap hs fr) (hn : n ≤ 1000) :
    Calls Try.prog 59 #[.slice ao n cap] w fun e w' => ∃ y : Hd, e = .returned (.slice y.o y.n y.c) ∧ w'.ownsRow w.heap.size 49 1 (.slice y.o y.n y.c) y.n (hds hs) ∧ Below w.heap.size w w' := by
  cases ao with
  | none =>
    have h0 := row_none h.row
    rw [h.nil rfl]
    have hn0 : n = 0 := by
      have := congrArg List.length h0
      rw [len_hds] at this
      rw [h.len, ← h.hl]
      simpa using this
    subst hn0
    refine (cloneF_nil w).mono ?_
    rintro e w' ⟨rfl, rfl⟩
    exact ⟨⟨none, 0, 0⟩, rfl, by rw [h0]; exact World.ownsRow_nil _ _ _ _, Below.refl _ _⟩
  | some a =>
    refine (cloneF_some a n cap (hds hs) w (by rw [len_hds, h.hl, h.len]; simp [Hid]) hn h.row (hds_one hs)).mono ?_
    rintro e w' ⟨ao', cap', rfl, h2, h3⟩
    exact ⟨⟨ao', n, cap'⟩, rfl, h2, h3⟩
end Go.Proofs.Ytnagpedkmfmniaa.Ar
