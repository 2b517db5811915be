/- What every law of this seat shares: epochs, what is done and lists of it, that come in. -/
import Derived.Test.YtejghoncihdfkaaRows
import Derived.Test.YtejghoncihdfkaaEpActs
import Derived.ProofKit
import Derived.OpenShut
import Derived.ChangeSlices
namespace Go.Proofs.Ytejghoncihdfkaa.Ep
open Go.ChangeShapes Go.WideShapes Go.ChangeAt Go.RowKit

theorem own : ownKnob Try.prog.godebug = none := by kernel_rfl
theorem laidOut : laidOutB Try.prog = true := by kernel_rfl
theorem cellsInt : Try.prog.cellsOf 3 = 1 := by kernel_rfl
theorem cellsI64 : Try.prog.cellsOf 2 = 1 := by kernel_rfl
theorem cellsIs : Try.prog.cellsOf 22 = 1 := by kernel_rfl
theorem cellsWaste : Try.prog.cellsOf 51 = 2 := by kernel_rfl
theorem cellsWastes : Try.prog.cellsOf 49 = 1 := by kernel_rfl
theorem cellsWastess : Try.prog.cellsOf 23 = 1 := by kernel_rfl
theorem cellsEpochs : Try.prog.cellsOf 25 = 3 := by kernel_rfl
theorem cellsAct : Try.prog.cellsOf 27 = 3 := by kernel_rfl
theorem list2 {α : Type} {l : List α} (h : l.length = 2) : ∃ a b, l = [a, b] := by
  match l, h with
  | [a, b], _ => exact ⟨a, b, rfl⟩
theorem list3 {α : Type} {l : List α} (h : l.length = 3) : ∃ a b c, l = [a, b, c] := by
  match l, h with
  | [a, b, c], _ => exact ⟨a, b, c, rfl⟩
section
variable {H : Type} {enc : TypeId × Value → H} {w : World}
theorem cells?_get {b n : Nat} {a : Addr} {cs : List Value} (h : w.cells? b a n = some cs) {i : Nat} {u : Value} (hu : cs[i]? = some u) : w.cell? (a.add i) = some u := by
  obtain ⟨_, hlen, hcell⟩ := World.cells?_some h
  have hi := (List.getElem?_eq_some_iff.1 hu).1
  rw [hcell i (by omega), hu]
theorem is_cells {fuel : Nat} {cs : List Value} {x : DataW H × List MemPlace} (hf : DataW.trod enc Try.prog w 0 (fun _ => true) true fuel 22 cs = some x) :
    ∃ ao l n cap, cs = [.slice ao n cap] ∧ Has w ao n cap l := by
  rcases open_ints Try.underlying22 Try.underlying2 cellsI64 hf with ⟨rfl, hx⟩ | ⟨a, len', cap', zs, rfl, _, hl, hm, hz, hx, hcell, hwz⟩
  · exact ⟨none, [], 0, 0, rfl, has_nil w⟩
  · simp only [if_true] at hz
    refine ⟨some a, zs.take len', len', cap', rfl, ⟨by simp; omega, (fun h => by cases h), hl, ⟨fun j u hu => ⟨a, rfl, ?_⟩⟩⟩⟩
    have hj : j < len' := by have := (List.getElem?_eq_some_iff.1 hu).1; simp at this; omega
    rw [hcell j (by omega)]
    rw [vals_at _ j (by simp; omega)] at hu
    rw [← hu]
    simp [List.getD, hj]
theorem waste_cells {fuel : Nat} {cs : List Value} {x : DataW H × List MemPlace} (hf : DataW.trod enc Try.prog w 0 (fun _ => true) true fuel 51 cs = some x) : ∃ t : W, cs = wC t := by
  obtain ⟨xs, n, _, hx, hl, hlen, hall⟩ := DataW.trod_struct Try.underlying51 hf
  rw [cellsWaste] at hl
  obtain ⟨c0, c1, rfl⟩ := list2 hl
  obtain ⟨y0, y1, rfl⟩ := list2 hlen
  have h0 := hall 0 _ rfl
  have h1 := hall 1 _ rfl
  simp [cellsInt, cellsI64] at h0 h1
  obtain ⟨x0, e0, _, _⟩ := DataW.trod_int Try.underlying3 h0
  obtain ⟨x1, e1, _, _⟩ := DataW.trod_int Try.underlying2 h1
  cases e0; cases e1
  exact ⟨(x0, x1), rfl⟩
theorem wastes_cells {fuel : Nat} {cs : List Value} {x : DataW H × List MemPlace} (hf : DataW.trod enc Try.prog w 0 (fun _ => true) true fuel 49 cs = some x) :
    ∃ ao l n cap, cs = [.slice ao n cap] ∧ HasW w ao n cap l := by
  rcases DataW.trod_slice Try.underlying49 hf with ⟨hcs, hx⟩ | ⟨a, len', cap', elems, rest, n, _, hcs, _, hb, hl, hm, hlen, hel, _, _⟩
  · exact ⟨none, [], 0, 0, hcs, hasW_nil w⟩
  · have each : ∀ i, i < len' → ∃ t : W, ∀ j u, (wC t)[j]? = some u → w.cell? (a.add (i * 2 + j)) = some u := by
      intro i hi
      have h := hel i hi
      rw [cellsWaste, List.getElem?_eq_getElem (by omega), Option.bind_eq_some_iff] at h
      obtain ⟨cs, h1, h2⟩ := h
      obtain ⟨t, rfl⟩ := waste_cells h2
      refine ⟨t, fun j u hu => ?_⟩
      have k0 := cells?_get h1 hu
      rwa [add_add] at k0
    obtain ⟨f, hf⟩ : ∃ f : Nat → W, ∀ i, i < len' → ∀ j u, (wC (f i))[j]? = some u → w.cell? (a.add (i * 2 + j)) = some u :=
      ⟨fun i => if h : i < len' then (each i h).choose else (0, 0), fun i hi => by simp only [dif_pos hi]; exact (each i hi).choose_spec⟩
    refine ⟨some a, (List.range len').map f, len', cap', hcs, ⟨by simp, (fun h => by cases h), hl, ⟨fun j u hu => ⟨a, rfl, ?_⟩⟩⟩⟩
    have hj := (List.getElem?_eq_some_iff.1 hu).1
    rw [len_wts] at hj
    simp only [List.length_map, List.length_range] at hj
    have hq : j / 2 < len' := by omega
    have e : j = (j / 2) * 2 + j % 2 := by omega
    have e2 := wts_at ((List.range len').map f) (j / 2) (j % 2) (by omega) (by simpa using hq)
    rw [← e, hu, show ((List.range len').map f).getD (j / 2) (0, 0) = f (j / 2) by simp [List.getD, hq]] at e2
    have := hf (j / 2) hq (j % 2) u e2.symm
    rwa [← e] at this
theorem lists_cells {fuel : Nat} {cs : List Value} {x : DataW H × List MemPlace} (hf : DataW.trod enc Try.prog w 0 (fun _ => true) true fuel 23 cs = some x) :
    ∃ ao hs fr n cap, cs = [.slice ao n cap] ∧ HasL w No ao n cap hs fr := by
  rcases DataW.trod_slice Try.underlying23 hf with ⟨hcs, hx⟩ | ⟨a, len', cap', elems, rest, n, _, hcs, _, hb, hl, hm, hlen, hel, _, _⟩
  · exact ⟨none, [], [], 0, 0, hcs, ⟨rfl, rfl, fun _ => rfl, Nat.le_refl _, row_nil _ _, fun _ _ _ s => s, fun i hi => by simp at hi, fun i hi => by simp at hi⟩⟩
  · have each : ∀ i, i < len' → ∃ p : Hd × List W, w.cell? (a.add i) = some p.1.v ∧ HasW w p.1.o p.1.n p.1.c p.2 := by
      intro i hi
      have h := hel i hi
      rw [cellsWastes, List.getElem?_eq_getElem (by omega), Option.bind_eq_some_iff] at h
      obtain ⟨cs, h1, h2⟩ := h
      obtain ⟨ao, l, n, cap, rfl, hh⟩ := wastes_cells h2
      have k0 := cells?_get h1 (i := 0) rfl
      rw [add_add] at k0
      exact ⟨(⟨ao, n, cap⟩, l), by simpa [Hd.v] using k0, hh⟩
    obtain ⟨f, hf⟩ : ∃ f : Nat → Hd × List W, ∀ i, i < len' → w.cell? (a.add i) = some (f i).1.v ∧ HasW w (f i).1.o (f i).1.n (f i).1.c (f i).2 :=
      ⟨fun i => if h : i < len' then (each i h).choose else (Hd.zero, []), fun i hi => by simp only [dif_pos hi]; exact (each i hi).choose_spec⟩
    refine ⟨some a, (List.range len').map (fun i => (f i).1), (List.range len').map (fun i => (f i).2), len', cap', hcs, ⟨by simp, by simp, (fun h => by cases h), hl, ⟨fun j u hu => ⟨a, rfl, ?_⟩⟩, fun _ _ _ s => s, fun i hi => ?_, fun _ _ _ _ _ s => s⟩⟩
    · have hj := (List.getElem?_eq_some_iff.1 hu).1
      rw [len_hds] at hj
      have hj2 : j < len' := by simpa using hj
      rw [hds_at _ j hj, show ((List.range len').map (fun i => (f i).1)).getD j Hd.zero = (f j).1 by simp [List.getD, hj2]] at hu
      cases hu
      exact (hf j hj2).1
    · have hi2 : i < len' := by simpa using hi
      rw [show ((List.range len').map (fun i => (f i).1)).getD i Hd.zero = (f i).1 by simp [List.getD, hi2], show ((List.range len').map (fun i => (f i).2)).getD i [] = (f i).2 by simp [List.getD, hi2]]
      exact (hf i hi2).2
theorem agg_of {cs : Array Value} {l : List Value} (h : (Value.agg cs).cells.toList = l) : cs = l.toArray := by
  simp only [Value.cells] at h
  rw [← h]
/-- Epochs that came in. -/
theorem open_epochs {v : Value} {d : DataW H} {ps : List MemPlace} {b0 : Nat} (hv : Value.okWide Try.prog w .any b0 25 v) (h : DataW.Trod enc Try.prog w 0 (fun _ => true) true 25 v d ps) :
    ∃ (y : WE) (e : E), v = (.agg #[.int .i64 e.now, .slice y.p.o y.p.n y.p.c, .slice y.l.o y.l.n y.l.c]) ∧ HasE w No y e := by
  obtain ⟨cs, rfl, hsz⟩ := okWide_struct Try.underlying25 hv
  obtain ⟨fuel, hf⟩ := h
  obtain ⟨xs, n, _, hx, hl, hlen, hall⟩ := DataW.trod_struct Try.underlying25 hf
  rw [cellsEpochs] at hl
  obtain ⟨c0, c1, c2, hcs⟩ := list3 hl
  obtain ⟨y0, y1, y2, rfl⟩ := list3 hlen
  rw [hcs] at hall
  have h0 := hall 0 _ rfl
  have h1 := hall 1 _ rfl
  have h2 := hall 2 _ rfl
  simp [cellsI64, cellsIs, cellsWastess] at h0 h1 h2
  obtain ⟨x0, e0, _, _⟩ := DataW.trod_int Try.underlying2 h0
  obtain ⟨ao, l, m, cap, e1, hI⟩ := is_cells h1
  obtain ⟨fo, hs, fr, fm, fcap, e2, hF⟩ := lists_cells h2
  cases e0
  cases e1
  cases e2
  exact ⟨⟨⟨ao, m, cap⟩, ⟨fo, fm, fcap⟩⟩, ⟨x0, l, fr⟩, by rw [agg_of hcs], ⟨hI, fun _ _ _ s => s, hs, hF⟩⟩
def acC (x : Ac) : List Value := [.int .i64 x.kind, .int .i64 x.core, .int .i64 x.obj]
theorem act_cells {fuel : Nat} {cs : List Value} {x : DataW H × List MemPlace} (hf : DataW.trod enc Try.prog w 0 (fun _ => true) true fuel 27 cs = some x) : ∃ z : Ac, cs = acC z := by
  obtain ⟨xs, n, _, hx, hl, hlen, hall⟩ := DataW.trod_struct Try.underlying27 hf
  rw [cellsAct] at hl
  obtain ⟨c0, c1, c2, rfl⟩ := list3 hl
  obtain ⟨y0, y1, y2, rfl⟩ := list3 hlen
  have h0 := hall 0 _ rfl
  have h1 := hall 1 _ rfl
  have h2 := hall 2 _ rfl
  simp [cellsInt] at h0 h1 h2
  obtain ⟨x0, e0, _, _⟩ := DataW.trod_int Try.underlying3 h0
  obtain ⟨x1, e1, _, _⟩ := DataW.trod_int Try.underlying3 h1
  obtain ⟨x2, e2, _, _⟩ := DataW.trod_int Try.underlying3 h2
  cases e0; cases e1; cases e2
  exact ⟨⟨x0, x1, x2⟩, rfl⟩
/-- What is done, that came in. -/
theorem open_act {v : Value} {d : DataW H} {ps : List MemPlace} {b0 : Nat} (hv : Value.okWide Try.prog w .any b0 27 v) (h : DataW.Trod enc Try.prog w 0 (fun _ => true) true 27 v d ps) :
    ∃ z : Ac, v = (.agg #[.int .i64 z.kind, .int .i64 z.core, .int .i64 z.obj]) := by
  obtain ⟨cs, rfl, hsz⟩ := okWide_struct Try.underlying27 hv
  obtain ⟨fuel, hf⟩ := h
  obtain ⟨z, e⟩ := act_cells hf
  exact ⟨z, by rw [agg_of e]; rfl⟩
/-- A list of what is done, that came in. -/
theorem open_acts {v : Value} {d : DataW H} {ps : List MemPlace} {b0 : Nat} (hv : Value.okWide Try.prog w .any b0 43 v) (h : DataW.Trod enc Try.prog w 0 (fun _ => true) true 43 v d ps) :
    ∃ ao l n cap, v = .slice ao n cap ∧ n ≤ 9223372036854775807 ∧ HasC w ao n l := by
  obtain ⟨a0, len, cap, rfl⟩ := okWide_slice Try.underlying43 hv
  obtain ⟨fuel, hf⟩ := h
  rcases DataW.trod_slice Try.underlying43 hf with ⟨hcs, hx⟩ | ⟨a, len', cap', elems, rest, n, _, hcs, _, hb, hl, hm, hlen, hel, _, _⟩
  · simp [Value.cells] at hcs
    obtain ⟨rfl, rfl, rfl⟩ := hcs
    exact ⟨none, [], 0, 0, rfl, by omega, ⟨rfl, fun i hi => absurd hi (by omega)⟩⟩
  · simp [Value.cells] at hcs
    obtain ⟨rfl, rfl, rfl⟩ := hcs
    have each : ∀ i, i < len → ∃ z : Ac, AtC (a.add (i * 3)) z w := by
      intro i hi
      have h := hel i hi
      rw [cellsAct, List.getElem?_eq_getElem (by omega), Option.bind_eq_some_iff] at h
      obtain ⟨cs, h1, h2⟩ := h
      obtain ⟨z, rfl⟩ := act_cells h2
      have k := fun (j : Nat) (u : Value) (hu : (acC z)[j]? = some u) => cells?_get h1 hu
      refine ⟨z, by simpa [Addr.add] using k 0 _ rfl, ?_, ?_⟩
      all_goals rw [add_off _ _ (by decide)]
      · exact k 1 _ rfl
      · exact k 2 _ rfl
    obtain ⟨f, hf⟩ : ∃ f : Nat → Ac, ∀ i, i < len → AtC (a.add (i * 3)) (f i) w :=
      ⟨fun i => if h : i < len then (each i h).choose else Ac.zero, fun i hi => by simp only [dif_pos hi]; exact (each i hi).choose_spec⟩
    refine ⟨some a, (List.range len).map f, len, cap, rfl, by unfold maxLen at hm; omega, ⟨by simp, fun i hi => ⟨a, rfl, ?_⟩⟩⟩
    rw [show ((List.range len).map f).getD i Ac.zero = f i by simp [List.getD, hi]]
    exact hf i hi
end
theorem steps_row (K : Con) (y : WE) (e : E) (z : WE) (f : E) (a : Ac) (c : Int) (w : World) (HE : HasE w No y e) (HF : HasE w No z f) :
    Calls Try.prog 3 #[(.agg #[.int .i64 e.now, .slice y.p.o y.p.n y.p.c, .slice y.l.o y.l.n y.l.c]), (.agg #[.int .i64 f.now, .slice z.p.o z.p.n z.p.c, .slice z.l.o z.l.n z.l.c]), (.agg #[.int .i64 a.kind, .int .i64 a.core, .int .i64 a.obj]), .int .i64 c] w fun r w' => r = .returned (.bool true) ∧ Below w.heap.size w w' := steps_any K y z e f a c w HE HF
end Go.Proofs.Ytejghoncihdfkaa.Ep
