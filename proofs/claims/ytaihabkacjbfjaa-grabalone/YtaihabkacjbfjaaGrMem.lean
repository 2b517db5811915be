/- Lists of numbers that lie in memory; slices.Clone, Sort, Compact of them; rising. -/
import Derived.Test.YtaihabkacjbfjaaCeVA
import Derived.Test.YtaihabkacjbfjaaGrMath
import Derived.Test.YtaihabkacjbfjaaGrShelf
import Derived.Lib.OwnBridge
namespace Go.Proofs.Ytaihabkacjbfjaa.Gr
open Go.RowKit Go.Proofs.Ytaihabkacjbfjaa.Ce

/-- A list of numbers that lies somewhere. -/
structure Has (w : World) (ao : Option Addr) (n cap : Nat) (l : List Int) : Prop where
  len : n = l.length
  nil : ao = none → cap = 0
  le : n ≤ cap
  row : Row w ao (vals l)
/-- .. in a block from B on. -/
structure Mine (w : World) (B : Nat) (ao : Option Addr) (n cap : Nat) (l : List Int) : Prop where
  has : Has w ao n cap l
  new : ∀ a, ao = some a → B ≤ a.block
theorem Has.kept {S : Nat → Prop} {w w' : World} {ao : Option Addr} {n cap : Nat} {l : List Int} (h : Has w ao n cap l) (k : Kept S w w') (hs : Off S ao (vals l)) : Has w' ao n cap l := ⟨h.len, h.nil, h.le, h.row.kept k hs⟩
theorem Has.below {w w' : World} {ao : Option Addr} {n cap : Nat} {l : List Int} (h : Has w ao n cap l) (hb : Below w.heap.size w w') : Has w' ao n cap l := ⟨h.len, h.nil, h.le, h.row.below hb⟩
theorem Has.cell {w : World} {ao : Option Addr} {n cap : Nat} {l : List Int} (h : Has w ao n cap l) (j : Nat) (hj : j < n) : ∃ a, ao = some a ∧ w.cell? (a.add j) = some (.int .i64 (l.getD j 0)) :=
  h.row.cell j _ (vals_at l j (by have := h.len; omega))
theorem Mine.below {w w' : World} {B : Nat} {ao : Option Addr} {n cap : Nat} {l : List Int} (h : Mine w B ao n cap l) (hb : Below w.heap.size w w') : Mine w' B ao n cap l := ⟨h.has.below hb, h.new⟩
theorem Mine.kept {S : Nat → Prop} {w w' : World} {B B' : Nat} {ao : Option Addr} {n cap : Nat} {l : List Int} (h : Mine w B ao n cap l) (k : Kept S w w') (hs : ∀ i, B ≤ i → ¬ S i) (hB : B' ≤ B) : Mine w' B' ao n cap l :=
  ⟨h.has.kept k (fun _ a e => hs _ (h.new a e)), fun a e => Nat.le_trans hB (h.new a e)⟩
theorem Mine.base {w : World} {B B' : Nat} {ao : Option Addr} {n cap : Nat} {l : List Int} (h : Mine w B ao n cap l) (hB : B' ≤ B) : Mine w B' ao n cap l := ⟨h.has, fun a e => Nat.le_trans hB (h.new a e)⟩
/-- A grab's six cells lie in the block b, and may be written. -/
structure InG (w : World) (b : Nat) (who : Int) (sv : Value) (p a t : Int) (bb : Bool) : Prop where
  c0 : w.cell? ⟨b, 0, none⟩ = some (.int .i64 who)
  c1 : w.cell? ⟨b, 1, none⟩ = some sv
  c2 : w.cell? ⟨b, 2, none⟩ = some (.int .i64 p)
  c3 : w.cell? ⟨b, 3, none⟩ = some (.int .i64 a)
  c4 : w.cell? ⟨b, 4, none⟩ = some (.int .i64 t)
  c5 : w.cell? ⟨b, 5, none⟩ = some (.bool bb)
  f : ∀ i, w.frozen? ⟨b, i, none⟩ = false
theorem inG_new (w : World) (who : Int) (sv : Value) (p a t : Int) (bb : Bool) (T : TypeId) : InG (w.alloc (.cells #[.int .i64 who, sv, .int .i64 p, .int .i64 a, .int .i64 t, .bool bb] T)) w.heap.size who sv p a t bb := by constructor <;> simp
section
variable {w w' : World} {b : Nat} {who : Int} {sv : Value} {p a t : Int} {bb : Bool}
theorem InG.lt (h : InG w b who sv p a t bb) : b < w.heap.size := World.block_lt_of_cell? w ⟨b, 0, none⟩ h.c0
theorem InG.kept {S : Nat → Prop} (h : InG w b who sv p a t bb) (k : Kept S w w') (hs : ¬ S b) : InG w' b who sv p a t bb :=
  ⟨k.cell h.c0 hs, k.cell h.c1 hs, k.cell h.c2 hs, k.cell h.c3 hs, k.cell h.c4 hs, k.cell h.c5 hs, fun i => (World.frozen?_of_block (a := ⟨b, i, none⟩) (k.block b h.lt hs)).trans (h.f i)⟩
theorem InG.below (h : InG w b who sv p a t bb) (hb : Below w.heap.size w w') : InG w' b who sv p a t bb := h.kept (S := fun _ => False) (kept_below hb) (fun e => e)
end
theorem has_nil (w : World) : Has w none 0 0 [] := ⟨rfl, fun _ => rfl, Nat.le_refl _, row_nil _ _⟩
theorem own_mine {w : World} {B n cap : Nat} {e : TypeId} {ao : Option Addr} {l : List Int} (h : w.ownsRow B e 1 (.slice ao n cap) n (vals l)) : Mine w B ao n cap l := by
  obtain ⟨h1, h2, h3, h4⟩ := own_row h
  exact ⟨⟨by have := h.1; simp at this; omega, h3, h2, h1⟩, fun a e => (h4 a e).1⟩

theorem infoN : (Try.prog.info? 3).map (fun i => (i.zero, i.size, i.bytes)) = some (some (.int .i64 0), 1, 8) := by kernel_rfl
theorem eqN (w : World) (a : Option Addr) (n c n' c' : Nat) : (binOp .eql 22 (.slice a n c) (.slice none n' c')).run Try.prog w = .ok (.bool a.isNone) w := Lib.run_eql_slice_nil w _ _ a n c n' c' Try.underlying22
set_option maxHeartbeats 400000 in
theorem clone_nil (w : World) :
    Calls Try.prog 34 #[.slice none 0 0] w fun e w' => e = .returned (.slice none 0 0) ∧ w' = w := by
  have q := eqN
  go_enter Try.func34, Try.ntmps34
  go_wp2
  go_ret
  exact ⟨rfl, rfl⟩
set_option maxHeartbeats 400000 in
theorem clone_some (a : Addr) (n cap : Nat) (cs : List Value) (w : World) (hn : Hid (cs.length = n * 1)) (hs : Hid (n ≤ 5000)) (hr : Hid (Row w (some a) cs)) (h1 : Hid (∀ u ∈ cs, u.oneCell' = true)) :
    Calls Try.prog 34 #[.slice (some a) n cap] w fun e w' => ∃ ao' cap', e = .returned (.slice ao' n cap') ∧ w'.ownsRow w.heap.size 3 1 (.slice ao' n cap') n cs ∧ Below w.heap.size w w' := by
  have q := eqN
  go_enter Try.func34, Try.ntmps34
  go_wp2_with (at_builtin; refine wpList_append_row _ rfl (.tmp 5) (.tmp 6) 22 3 _ 1 8 rfl Try.underlying22 infoN rfl (by decide) (by decide) w.heap.size _ 0 [] rfl (own0 w 3 1) (some a) n cap cs rfl hn.out (fun h => by cases h) (hr.out.below (alloc_below w _)) h1.out (by have := hs.out; omega) (alloc_below w _).size ?_; intro ao1 cap1 w1 hown1 hgrow1; have b1 := app_below hgrow1; rw [Nat.zero_add, List.nil_append] at hown1; rw [Nat.zero_add]; have HO : Hid (w1.ownsRow w.heap.size 3 1 (.slice ao1 n cap1) n cs) := hown1; clear hown1 hgrow1)
  go_ret
  exact ⟨ao1, cap1, rfl, HO.out, b1⟩
/-- slices.Clone OF NUMBERS. -/
theorem clone_any (ao : Option Addr) (n cap : Nat) (l : List Int) (w : World) (h : Has w ao n cap l) (hs : n ≤ 5000) :
    Calls Try.prog 34 #[.slice ao n cap] w fun e w' => ∃ ao' cap', e = .returned (.slice ao' n cap') ∧ w'.ownsRow w.heap.size 3 1 (.slice ao' n cap') n (vals l) ∧ Below w.heap.size w w' := by
  cases ao with
  | none =>
    have h0 := row_none h.row
    rw [h.nil rfl]
    have hn0 : n = 0 := by rw [h.len]; simpa using h0
    subst hn0
    refine (clone_nil w).mono ?_
    rintro e w' ⟨rfl, rfl⟩
    exact ⟨none, 0, rfl, by rw [h0]; exact World.ownsRow_nil _ _ _ _, Below.refl _ _⟩
  | some a => exact clone_some a n cap (vals l) w (by rw [len_vals, h.len]; simp [Hid]) hs h.row (vals_one l)
/-- slices.Clone, told by what lies there. -/
theorem clone_mine (ao : Option Addr) (n cap : Nat) (l : List Int) (w : World) (h : Has w ao n cap l) (hs : n ≤ 5000) :
    Calls Try.prog 34 #[.slice ao n cap] w fun e w' => ∃ ao' cap', e = .returned (.slice ao' n cap') ∧ Mine w' w.heap.size ao' n cap' l ∧ Below w.heap.size w w' := by
  refine (clone_any ao n cap l w h hs).mono ?_
  rintro e w' ⟨ao', cap', rfl, ho, b⟩
  exact ⟨ao', cap', rfl, own_mine ho, b⟩

theorem kept_put (w : World) (g n : Nat) (d : Array Int) : Kept (fun k => k = g) w (Go.Sort.putRow (Value.int .i64) (Go.Sort.ahead w n) g 0 d) := by
  refine ⟨rfl, rfl, rfl, by simp [Go.Sort.ahead], fun i hi hn => ?_⟩
  simp only [Go.Sort.putRow, Go.Sort.mapBlock, Go.Sort.ahead, Array.getElem?_modify]
  rw [if_neg (fun e => hn e.symm)]
theorem kept_growS {S : Nat → Prop} {w w' : World} (h : Kept S w w') (os : Array Obj) : Kept S w (Go.Sort.grow w' os) := by
  refine ⟨h.os, h.tape, h.output, ?_, fun i hi hn => ?_⟩
  · have := h.size
    simp only [Go.Sort.grow, Array.size_append]
    omega
  · simp only [Go.Sort.grow]
    rw [Array.getElem?_append, if_pos (Nat.lt_of_lt_of_le hi h.size)]
    exact h.block i hi hn
theorem sort_some (g cap : Nat) (l : List Int) (w : World) (hH : Go.Sort.Holds (Value.int .i64) w g 0 l.toArray) (hg : g < w.heap.size) (hs : l.length ≤ 5000) :
    Calls Try.prog 37 #[.slice (some ⟨g, 0, none⟩) l.length cap] w fun e w' => e = .returned (.tuple #[]) ∧ Go.Sort.Holds (Value.int .i64) w' g 0 (l.mergeSort fun x y => decide (x ≤ y)).toArray ∧ Kept (fun k => k = g) w w' := by
  refine (Try.slices_Sort_int g 0 cap l w hH hg (by omega)).mono ?_
  rintro e w' ⟨rfl, n, os, rfl⟩
  refine ⟨rfl, ?_, kept_growS (kept_put w g n _) os⟩
  exact Go.Sort.holds_grow _ _ _ _ _ _ (by simpa [Go.Sort.ahead] using hg) (Go.Sort.holds_putRow _ _ _ _ l.toArray _ (Go.Sort.holds_ahead _ _ _ _ _ _ hH) (by simp [List.length_mergeSort]))
theorem holds_row {w : World} {g : Nat} {l m : List Int} (h : Go.Sort.Holds (Value.int .i64) w g 0 (l ++ m).toArray) : Row w (some ⟨g, 0, none⟩) (vals l) := by
  refine ⟨fun j u hu => ⟨_, rfl, ?_⟩⟩
  have hj := (List.getElem?_eq_some_iff.1 hu).1
  simp at hj
  have h2 := (h j (by simp; omega)).1
  rw [vals_at l j hj] at hu
  rw [← hu]
  have e : (l ++ m).toArray[j]! = l.getD j 0 := by
    rw [List.getElem!_toArray, getElem!_pos _ j (by simp; omega), List.getElem_append_left hj]
    simp [List.getD, hj]
  rw [e] at h2
  have ea : (⟨g, 0, none⟩ : Addr).add j = ⟨g, 0 + j, none⟩ := by cases j <;> simp [Addr.add]
  rw [ea]
  exact h2
theorem comp_some (g cap : Nat) (l : List Int) (w : World) (hH : Go.Sort.Holds (Value.int .i64) w g 0 l.toArray) (hs : l.length ≤ 5000) (hc : l.length ≤ cap) :
    Calls Try.prog 38 #[.slice (some ⟨g, 0, none⟩) l.length cap] w fun e w' => e = .returned (.slice (some ⟨g, 0, none⟩) (Lib.compact l).length cap) ∧ Row w' (some ⟨g, 0, none⟩) (vals (Lib.compact l)) ∧ Kept (fun k => k = g) w w' := by
  refine (Try.slices_Compact_int g 0 cap l w hH (by omega) hc).mono ?_
  rintro e w' ⟨rfl, q, rfl⟩
  have hle : (Lib.compact l).length ≤ l.length := by
    unfold Lib.compact Lib.compactUpTo
    have := List.length_filter_le (Lib.keeps l.toArray) (List.range l.length)
    simp only [List.length_map, List.length_range] at this ⊢
    exact this
  refine ⟨rfl, holds_row (m := List.replicate (l.length - (Lib.compact l).length) 0) ?_, kept_put w g q _⟩
  exact Go.Sort.holds_putRow _ _ _ _ l.toArray _ (Go.Sort.holds_ahead _ _ _ _ _ _ hH) (by simp; omega)

set_option maxHeartbeats 400000 in
theorem rising_some (ao : Option Addr) (n cap : Nat) (l : List Int) (w : World) (h : Hid (Has w ao n cap l)) (hs : Hid (n ≤ 5000)) (h0 : Hid (0 < n)) :
    Calls Try.prog 28 #[.slice ao n cap] w fun e w' => ∃ ao' cap', e = .returned (.slice ao' (srt l).length cap') ∧ Mine w' w.heap.size ao' (srt l).length cap' (srt l) ∧ Below w.heap.size w w' := by
  go_enter Try.func28, Try.ntmps28
  go_wp2_with fail
  refine (clone_any ao n cap l _ h.out hs.out).mono ?_
  rintro e w1 ⟨ao1, cap1, rfl, ho, b1⟩
  have hv : (Value.slice ao1 n cap1) ≠ .slice none 0 0 := by
    intro e
    have := h0.out
    injection e with _ e2 _
    omega
  obtain ⟨g, c, e1, hg0, hg, hnc, _, hl, hH⟩ := Lib.holds_of_ownsRow (enc := Value.int .i64) ho hv
  injection e1 with e1 _ e3
  subst e1
  subst e3
  have hH := hid hH
  have hg0 := hid hg0
  have hg := hid hg
  have hnc := hid hnc
  have b1 := hid b1
  have HL := hid (show l.length ≤ 5000 by have := hs.out; omega)
  clear ho hv h hs h0
  subst hl
  go_wp2_with fail
  refine (sort_some g cap1 l _ hH.out hg.out HL.out).mono ?_
  rintro e w2 ⟨rfl, hS, k2⟩
  have hS := hid hS
  have k2 := hid k2
  clear hH
  have hml : (l.mergeSort fun x y => decide (x ≤ y)).length = l.length := List.length_mergeSort _
  have hcm := comp_some g cap1 (l.mergeSort fun x y => decide (x ≤ y)) w2 hS.out (by rw [hml]; exact HL.out) (by rw [hml]; exact hnc.out)
  rw [hml, comp_merge] at hcm
  clear hml
  go_wp2_with fail
  refine hcm.mono ?_
  rintro e w3 ⟨rfl, hR, k3⟩
  have hR := hid hR
  have k3 := hid k3
  clear hcm
  go_wp2_with fail
  go_ret
  have kk : Kept (fun k => k = g) w1 w3 := k2.out.trans k3.out (fun _ _ e => e)
  refine ⟨some ⟨g, 0, none⟩, cap1, rfl, ⟨⟨rfl, (fun e => by cases e), Nat.le_trans (len_srt l) hnc.out, hR.out⟩, fun a e => by cases e; exact hg0.out⟩, ?_⟩
  exact b1.out.trans (kk.below w.heap.size b1.out.size (fun i e => by rw [e]; exact hg0.out))
set_option maxHeartbeats 400000 in
theorem rising_none (ao : Option Addr) (cap : Nat) (w : World) (h : Hid (Has w ao 0 cap [])) :
    Calls Try.prog 28 #[.slice ao 0 cap] w fun e w' => ∃ ao' cap', e = .returned (.slice ao' 0 cap') ∧ Mine w' w.heap.size ao' 0 cap' [] ∧ Below w.heap.size w w' := by
  go_enter Try.func28, Try.ntmps28
  go_wp2_with fail
  refine (clone_mine ao 0 cap [] _ h.out (by decide)).mono ?_
  rintro e w1 ⟨ao1, cap1, rfl, ho, b1⟩
  have ho := hid ho
  have b1 := hid b1
  go_wp2_with fail
  refine (Try.slices_Sort_int_none ao1 cap1 _).mono ?_
  rintro e w2 ⟨rfl, hw⟩
  rw [hw]
  clear hw w2
  go_wp2_with fail
  refine (Try.slices_Compact_int_empty ao1 cap1 _).mono ?_
  rintro e w2 ⟨rfl, hw⟩
  rw [hw]
  clear hw w2
  go_wp2_with fail
  go_ret
  exact ⟨ao1, cap1, rfl, ho.out, b1.out⟩
/-- THE CELLS, RISING, EACH ONCE. -/
theorem rising_any (ao : Option Addr) (n cap : Nat) (l : List Int) (w : World) (h : Has w ao n cap l) (hs : n ≤ 5000) :
    Calls Try.prog 28 #[.slice ao n cap] w fun e w' => ∃ ao' cap', e = .returned (.slice ao' (srt l).length cap') ∧ Mine w' w.heap.size ao' (srt l).length cap' (srt l) ∧ Below w.heap.size w w' := by
  by_cases h0 : 0 < n
  · exact rising_some ao n cap l w h hs h0
  · obtain rfl : n = 0 := by omega
    obtain rfl : l = [] := List.eq_nil_of_length_eq_zero h.len.symm
    exact rising_none ao cap w h
end Go.Proofs.Ytaihabkacjbfjaa.Gr
