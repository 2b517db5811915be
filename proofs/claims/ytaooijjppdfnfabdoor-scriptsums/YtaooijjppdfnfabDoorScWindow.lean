/- What Window and Fair do: the program's. -/
import Derived.Test.YtaooijjppdfnfabDoorScBld
namespace Go.Proofs.YtaooijjppdfnfabDoor.Sc
open Go.RowKit

theorem foldl_min (r : List Int) (x : Int) : (r.foldl min x = x ∨ r.foldl min x ∈ r) ∧ r.foldl min x ≤ x ∧ ∀ y ∈ r, r.foldl min x ≤ y := by
  induction r generalizing x with
  | nil => exact ⟨.inl rfl, Int.le_refl _, fun y h => by simp at h⟩
  | cons y r ih =>
    obtain ⟨h1, h2, h3⟩ := ih (min x y)
    refine ⟨?_, ?_, ?_⟩
    · rcases h1 with h1 | h1
      · rw [List.foldl_cons, h1]
        by_cases h : x ≤ y
        · exact .inl (by omega)
        · refine .inr ?_
          rw [show min x y = y by omega]
          simp
      · exact .inr (by rw [List.foldl_cons]; exact List.mem_cons_of_mem _ h1)
    · rw [List.foldl_cons]; omega
    · intro z hz
      rw [List.foldl_cons]
      rcases List.mem_cons.1 hz with rfl | hz
      · omega
      · exact h3 z hz
theorem min_is (nx : List Int) (n : Nat) (hl : nx.length = n) (hn : 0 < n) : (∃ c, c < n ∧ nx.getD c 0 = Lib.minOf nx) ∧ ∀ c, c < n → Lib.minOf nx ≤ nx.getD c 0 := by
  cases nx with
  | nil => simp at hl; omega
  | cons x r =>
    have h := foldl_min r x
    have e : Lib.minOf (x :: r) = r.foldl min x := by simp [Lib.minOf]
    rw [e]
    obtain ⟨h1, h2, h3⟩ := h
    constructor
    · rcases h1 with h1 | h1
      · exact ⟨0, hn, by rw [h1]; rfl⟩
      · obtain ⟨j, hj, e⟩ := List.getElem_of_mem h1
        refine ⟨j + 1, by simp at hl; omega, ?_⟩
        rw [← e]
        simp [List.getD, hj]
    · intro c hc
      cases c with
      | zero => exact h2
      | succ c =>
        have hc' : c < r.length := by simp at hl; omega
        have := h3 r[c] (List.getElem_mem hc')
        simpa [List.getD, hc'] using this
theorem makeN (n : Nat) (hn : n ≤ 2000000) (w : World) : (Instr.makeSlice 22 (.int .i64 n) (.int .i64 n)).run Tryd.prog w = .ok (.slice (some ⟨w.heap.size, 0, none⟩) n n) (w.alloc (.cells (madeCells #[.int .i64 0] n) 3)) := by
  obtain ⟨i0, hi, hz0, hz1, hz2⟩ := info_parts infoI
  have h := run_make (P := Tryd.prog) w 22 3 i0 (.int .i64 0) Tryd.underlying22 hi hz0 .i64 .i64 n n (by omega) (by omega) (by rw [hz2]; omega) (by omega)
  rw [hz1] at h
  simpa [Value.cells] using h
theorem made_zero (n : Nat) : (madeCells #[.int .i64 0] n).toList = vals (List.replicate n 0) := by
  apply List.ext_getElem?
  intro i
  by_cases h : i < n
  · simp [madeCells, vals, h, Nat.mod_one]
  · simp [madeCells, vals, h]
theorem made_own (n : Nat) (hn : n ≤ 2000000) (w : World) : (w.alloc (.cells (madeCells #[.int .i64 0] n) 3)).ownsRow w.heap.size 3 1 (.slice (some ⟨w.heap.size, 0, none⟩) n n) n (vals (List.replicate n 0)) := by
  exact ⟨by simp, .inr ⟨w.heap.size, n, _, rfl, Nat.le_refl _, World.alloc_heap_new w _, Nat.le_refl _, by unfold maxLen; omega, by simp [size_madeCells], by rw [made_zero, List.take_of_length_le (by simp)]⟩⟩
theorem add_zero (b c : Nat) : (⟨b, 0, none⟩ : Addr).add c = ⟨b, c, none⟩ := by
  unfold Addr.add
  split
  · rename_i h; rw [h]
  · simp
theorem vals_set (nx : List Int) (c : Nat) (x : Int) : (vals nx).set c (.int .i64 x) = vals (nx.set c x) := by simp [vals, List.map_set]

set_option maxRecDepth 100000 in
set_option maxHeartbeats 1000000 in
theorem window_core (ao : Option Addr) (l : List Int) (L cap n : Nat) (w : World) (HL : Hid (L = l.length)) (hL : L ≤ 1000000) (hn : 1 ≤ n) (hnL : n ≤ L) (RR : Hid (Row w ao (vals l))) :
    Calls Tryd.prog 13 #[.slice ao L cap, .int .i64 n] w fun e w' => ∃ g : Nat, e = .returned (.int .i64 ((g : Int) + 1)) ∧ Gap l n g ∧ Below w.heap.size w w' := by
  have hmk := makeN n (by omega) w
  have HO0 := hid (made_own n (by omega) w)
  have HB0 := hid (alloc_below w (.cells (madeCells #[.int .i64 0] n) 3))
  generalize w.alloc (.cells (madeCells #[.int .i64 0] n) 3) = wm at hmk HO0 HB0
  go_enter Tryd.func13, Tryd.ntmps13
  go_wp2_with fail
  clear hmk
  go_loopw [6, 22] (fun s i wr => ∃ (k g : Nat) (nx : List Int), k ≤ L ∧ g ≤ k ∧ i = .int .i64 k ∧ s = .int .i64 g ∧ Hid (wr.ownsRow w.heap.size 3 1 (.slice (some ⟨w.heap.size, 0, none⟩) n n) n (vals nx)) ∧ Hid (Below w.heap.size w wr) ∧ Hid (WInv l n k nx g)) (fun _ i _ => L - (intOf i).toNat)
  case atStart => exact ⟨0, 0, List.replicate n 0, Nat.zero_le _, Nat.zero_le _, rfl, rfl, HO0, HB0, winv_zero l n⟩
  case round =>
    obtain ⟨k, g, nx, hk, hg, rfl, rfl, HO, HB, HW⟩ := hrel
    by_cases hlt : k < L
    · have hkl : Hid (k < l.length) := by have := HL.out; show k < l.length; omega
      obtain ⟨a, rfl, hc⟩ := row_at (RR.out.below HB.out) k hkl.out
      obtain ⟨x, hx⟩ : ∃ x, l.getD k 0 = x := ⟨_, rfl⟩
      rw [hx] at hc
      have HX := hid hx
      clear hx
      by_cases h3 : x < 0
      · have HW1 : Hid (WInv l n (k + 1) nx g) := HW.out.skip (by rw [HX.out]; omega)
        go_wp2_with fail
        go_roundw
        case rel => exact ⟨k + 1, g, nx, by omega, by omega, by go_num, rfl, HO, HB, HW1⟩
        case measure => simp [intOf]; omega
      · by_cases h4 : (n : Int) ≤ x
        · have HW1 : Hid (WInv l n (k + 1) nx g) := HW.out.skip (by rw [HX.out]; omega)
          go_wp2_with fail
          go_roundw
          case rel => exact ⟨k + 1, g, nx, by omega, by omega, by go_num, rfl, HO, HB, HW1⟩
          case measure => simp [intOf]; omega
        · obtain ⟨c0, rfl⟩ := Int.eq_ofNat_of_zero_le (show 0 ≤ x by omega)
          have hc0 : c0 < n := by omega
          obtain ⟨hp1, hp2⟩ := HW.out.bounds c0 hc0
          obtain ⟨p0, hp0⟩ := Int.eq_ofNat_of_zero_le hp1
          have hpk : p0 ≤ k := by omega
          have hcell : wr.cell? ⟨w.heap.size, c0, none⟩ = some (.int .i64 p0) := by
            obtain ⟨a', e', h'⟩ := row_at (own_row HO.out).1 c0 (by rw [HW.out.len]; exact hc0)
            cases e'
            rw [hp0] at h'
            rw [add_zero] at h'
            exact h'
          have hfr : wr.frozen? ⟨w.heap.size, c0, none⟩ = false := own_frozen HO.out
          have HP0 := hid hp0
          have HW1 : Hid (WInv l n (k + 1) (nx.set c0 ((k : Int) + 1)) (max g (k - p0))) := HW.out.take hc0 HX.out hp0 rfl
          have HO1 : Hid ((wr.setCell ⟨w.heap.size, c0, none⟩ (.int .i64 ((k : Int) + 1))).ownsRow w.heap.size 3 1 (.slice (some ⟨w.heap.size, 0, none⟩) n n) n (vals (nx.set c0 ((k : Int) + 1)))) := by
            rw [← vals_set]
            exact own_set _ HO.out
          have HB1 := hid (HB.out.setCell (p := ⟨w.heap.size, c0, none⟩) (Nat.le_refl _) (.int .i64 ((k : Int) + 1)))
          clear hp0 hp1 hp2
          go_wp2_with fail
          exact ⟨⟨k + 1, max g (k - p0), nx.set c0 ((k : Int) + 1), by omega, by omega, by go_num, congrArg (Value.int .i64) (by omega), HO1, HB1, HW1⟩, by simp [intOf]; omega⟩
    · obtain rfl : k = L := by omega
      have hW : WInv l n l.length nx g := by have := HW.out; rw [HL.out] at this; exact this
      obtain ⟨⟨c, hc, hce⟩, hmin⟩ := min_is nx n hW.len (by omega)
      obtain ⟨p1, p2⟩ := hW.bounds c hc
      rw [hce, ← HL.out] at p2
      rw [hce] at p1
      obtain ⟨m, hm⟩ := Int.eq_ofNat_of_zero_le p1
      have HG : Hid (Gap l n (max g (k - m))) := by
        have := hW.gap (m := m) ⟨c, hc, by rw [hce, hm]⟩ (fun c hc => by rw [← hm]; exact hmin c hc)
        rw [← HL.out] at this
        exact this
      have hmn : m ≤ k := by omega
      have HMC : Hid (∀ j, j < nx.length → wr.cell? ⟨w.heap.size, 0 + j, none⟩ = some (.int .i64 (nx.getD j 0))) := fun j hj => by
        obtain ⟨a', e', h'⟩ := row_at (own_row HO.out).1 j hj
        cases e'
        rw [add_zero] at h'
        rw [Nat.zero_add]
        exact h'
      have HMN : Hid (Lib.minOf (nx.take n) = m) := by
        rw [List.take_of_length_le (by rw [hW.len]; omega)]
        exact hm
      have HNL : Hid (n ≤ nx.length) := by rw [hW.len]; exact Nat.le_refl n
      clear hW hce hmin p1 p2 hm hc
      go_wp2_with (go_at_call 22; refine (Tryd.slices_Min_int w.heap.size 0 n n nx _ (by omega) HNL.out (by omega) HMC.out).mono ?_; rw [HMN.out]; rintro e w1 ⟨rfl, hw⟩; rw [hw]; clear hw w1)
      go_ret
      exact ⟨max g (k - m), by simp; omega, HG.out, HB.out⟩

set_option maxRecDepth 100000 in
set_option maxHeartbeats 400000 in
theorem window_none (ao : Option Addr) (L cap : Nat) (n : Int) (w : World) (h : n < 1) :
    Calls Tryd.prog 13 #[.slice ao L cap, .int .i64 n] w fun e w' => e = .returned (.int .i64 1) ∧ w' = w := by
  go_enter Tryd.func13, Tryd.ntmps13
  go_wp2
  go_ret
  exact ⟨rfl, rfl⟩
set_option maxRecDepth 100000 in
set_option maxHeartbeats 400000 in
theorem window_many (ao : Option Addr) (L cap : Nat) (n : Int) (w : World) (hL : L ≤ 1000000) (h : ¬ n < 1) (h2 : (L : Int) < n) :
    Calls Tryd.prog 13 #[.slice ao L cap, .int .i64 n] w fun e w' => e = .returned (.int .i64 ((L : Int) + 1)) ∧ w' = w := by
  go_enter Tryd.func13, Tryd.ntmps13
  go_wp2
  go_ret
  exact ⟨rfl, rfl⟩
/-- WINDOW: ONE MORE THAN THE LONGEST PIECE IN WHICH A CORE IS MISSING. -/
theorem window_any (ao : Option Addr) (l : List Int) (L cap : Nat) (n : Int) (g : Nat) (w : World) (hl : L = l.length) (hL : L ≤ 1000000) (hr : Row w ao (vals l)) (hg : Gap l n g) :
    Calls Tryd.prog 13 #[.slice ao L cap, .int .i64 n] w fun e w' => e = .returned (.int .i64 ((g : Int) + 1)) ∧ Below w.heap.size w w' := by
  by_cases h1 : n < 1
  · obtain rfl : g = 0 := hg.one (gap_none l n h1)
    refine (window_none ao L cap n w h1).mono ?_
    rintro e w' ⟨rfl, rfl⟩
    exact ⟨rfl, Below.refl _ _⟩
  · by_cases h2 : (L : Int) < n
    · obtain rfl : g = L := by rw [hl]; exact hg.one (gap_many l n (by rw [← hl]; exact h2))
      refine (window_many ao g cap n w hL h1 h2).mono ?_
      rintro e w' ⟨rfl, rfl⟩
      exact ⟨rfl, Below.refl _ _⟩
    · obtain ⟨c, rfl⟩ := Int.eq_ofNat_of_zero_le (show 0 ≤ n by omega)
      refine (window_core ao l L cap c w hl hL (by omega) (by omega) hr).mono ?_
      rintro e w' ⟨g', rfl, hg', hb⟩
      obtain rfl := hg.one hg'
      exact ⟨rfl, hb⟩
set_option maxRecDepth 100000 in
set_option maxHeartbeats 400000 in
theorem fair_any (ao : Option Addr) (l : List Int) (L cap : Nat) (n v : Int) (g : Nat) (w : World) (hl : Hid (L = l.length)) (hL : Hid (L ≤ 1000000)) (hr : Hid (Row w ao (vals l))) (hg : Hid (Gap l n g)) :
    Calls Tryd.prog 12 #[.slice ao L cap, .int .i64 n, .int .i64 v] w fun e w' => e = .returned (.bool (decide ((g : Int) + 1 ≤ v))) ∧ Below w.heap.size w w' := by
  go_enter Tryd.func12, Tryd.ntmps12
  go_wp2_with (go_at_call 13; refine (window_any ao l L cap n g _ hl.out hL.out hr.out hg.out).mono ?_; rintro e w1 ⟨rfl, b1⟩)
  go_ret
  exact ⟨rfl, b1⟩

/-! ### The document's -/
theorem take_behind {l : List Int} {c : Int} {p k : Nat} (h : Behind l c p k) : Behind l c (if l.getD k 0 = c then k + 1 else p) (k + 1) := by
  by_cases e : l.getD k 0 = c
  · rw [if_pos e]; exact behind_new e
  · rw [if_neg e]; exact h.other e
end Go.Proofs.YtaooijjppdfnfabDoor.Sc
