/- What every law of this seat shares: branches, acts, keys, that come in. -/
import Derived.Test.YtdaakigofpehjabRows
import Derived.Test.YtdaakigofpehjabTrGrown
import Derived.ProofKit
import Derived.OpenShut
import Derived.ChangeSlices
namespace Go.Proofs.Ytdaakigofpehjab.Tr
open Go.ChangeShapes Go.WideShapes Go.ChangeAt Go.RowKit

theorem own : ownKnob Try.prog.godebug = none := by kernel_rfl
theorem laidOut : laidOutB Try.prog = true := by kernel_rfl
theorem cellsInt : Try.prog.cellsOf 3 = 1 := by kernel_rfl
theorem cellsBool : Try.prog.cellsOf 4 = 1 := by kernel_rfl
theorem cellsKey : Try.prog.cellsOf 24 = 2 := by kernel_rfl
theorem cellsBranch : Try.prog.cellsOf 35 = 4 := by kernel_rfl
theorem cellsAct : Try.prog.cellsOf 52 = 6 := by kernel_rfl
theorem list2 {α : Type} {l : List α} (h : l.length = 2) : ∃ a b, l = [a, b] := by
  match l, h with
  | [a, b], _ => exact ⟨a, b, rfl⟩
theorem list3 {α : Type} {l : List α} (h : l.length = 3) : ∃ a b c, l = [a, b, c] := by
  match l, h with
  | [a, b, c], _ => exact ⟨a, b, c, rfl⟩
theorem list4 {α : Type} {l : List α} (h : l.length = 4) : ∃ a b c d, l = [a, b, c, d] := by
  match l, h with
  | [a, b, c, d], _ => exact ⟨a, b, c, d, rfl⟩
theorem list6 {α : Type} {l : List α} (h : l.length = 6) : ∃ a b c d e f, l = [a, b, c, d, e, f] := by
  match l, h with
  | [a, b, c, d, e, f], _ => exact ⟨a, b, c, d, e, f, rfl⟩
section
variable {H : Type} {enc : TypeId × Value → H} {w : World}
theorem cells?_get {b n : Nat} {a : Addr} {cs : List Value} (h : w.cells? b a n = some cs) {i : Nat} {u : Value} (hu : cs[i]? = some u) : w.cell? (a.add i) = some u := by
  obtain ⟨_, hlen, hcell⟩ := World.cells?_some h
  have hi := (List.getElem?_eq_some_iff.1 hu).1
  rw [hcell i (by omega), hu]
theorem key_cells {fuel : Nat} {cs : List Value} {x : DataW H × List MemPlace} (hf : DataW.trod enc Try.prog w 0 (fun _ => true) true fuel 24 cs = some x) : ∃ t : P, cs = pC t := by
  obtain ⟨xs, n, _, hx, hl, hlen, hall⟩ := DataW.trod_struct Try.underlying24 hf
  rw [cellsKey] at hl
  obtain ⟨c0, c1, rfl⟩ := list2 hl
  obtain ⟨y0, y1, rfl⟩ := list2 hlen
  have h0 := hall 0 _ rfl
  have h1 := hall 1 _ rfl
  simp [cellsInt] at h0 h1
  obtain ⟨x0, e0, _, _⟩ := DataW.trod_int Try.underlying3 h0
  obtain ⟨x1, e1, _, _⟩ := DataW.trod_int Try.underlying3 h1
  cases e0; cases e1
  exact ⟨(x0, x1), rfl⟩
theorem branch_cells {fuel : Nat} {cs : List Value} {x : DataW H × List MemPlace} (hf : DataW.trod enc Try.prog w 0 (fun _ => true) true fuel 35 cs = some x) : ∃ t : Br, cs = bC t := by
  obtain ⟨xs, n, _, hx, hl, hlen, hall⟩ := DataW.trod_struct Try.underlying35 hf
  rw [cellsBranch] at hl
  obtain ⟨c0, c1, c2, c3, rfl⟩ := list4 hl
  obtain ⟨y0, y1, y2, rfl⟩ := list3 hlen
  have h0 := hall 0 _ rfl
  have h1 := hall 1 _ rfl
  have h2 := hall 2 _ rfl
  simp [cellsInt, cellsKey, cellsBool] at h0 h1 h2
  obtain ⟨k, e0⟩ := key_cells h0
  obtain ⟨x1, e1, _, _⟩ := DataW.trod_int Try.underlying3 h1
  obtain ⟨x2, e2, _, _⟩ := DataW.trod_bool Try.underlying4 h2
  cases e0; cases e1; cases e2
  exact ⟨(k, x1, x2), rfl⟩
theorem act_cells {fuel : Nat} {cs : List Value} {x : DataW H × List MemPlace} (hf : DataW.trod enc Try.prog w 0 (fun _ => true) true fuel 52 cs = some x) : ∃ t : Ac, cs = aC t := by
  obtain ⟨xs, n, _, hx, hl, hlen, hall⟩ := DataW.trod_struct Try.underlying52 hf
  rw [cellsAct] at hl
  obtain ⟨c0, c1, c2, c3, c4, c5, rfl⟩ := list6 hl
  obtain ⟨y0, y1, y2, y3, rfl⟩ := list4 hlen
  have h0 := hall 0 _ rfl
  have h1 := hall 1 _ rfl
  have h2 := hall 2 _ rfl
  have h3 := hall 3 _ rfl
  simp [cellsInt, cellsKey, cellsBool] at h0 h1 h2 h3
  obtain ⟨x0, e0, _, _⟩ := DataW.trod_int Try.underlying3 h0
  obtain ⟨k, e1⟩ := key_cells h1
  obtain ⟨l, e2⟩ := key_cells h2
  obtain ⟨x3, e3, _, _⟩ := DataW.trod_bool Try.underlying4 h3
  cases e0; cases e1; cases e2; cases e3
  exact ⟨⟨x0, k, l, x3⟩, rfl⟩
theorem branches_cells {fuel : Nat} {cs : List Value} {x : DataW H × List MemPlace} (hf : DataW.trod enc Try.prog w 0 (fun _ => true) true fuel 26 cs = some x) :
    ∃ ao l n cap, cs = [.slice ao n cap] ∧ HasB w ao n cap l := by
  rcases DataW.trod_slice Try.underlying26 hf with ⟨hcs, hx⟩ | ⟨a, len', cap', elems, rest, n, _, hcs, _, hb, hl, hm, hlen, hel, _, _⟩
  · exact ⟨none, [], 0, 0, hcs, hasB_nil w⟩
  · have each : ∀ i, i < len' → ∃ t : Br, ∀ j u, (bC t)[j]? = some u → w.cell? (a.add (i * 4 + j)) = some u := by
      intro i hi
      have h := hel i hi
      rw [cellsBranch, List.getElem?_eq_getElem (by omega), Option.bind_eq_some_iff] at h
      obtain ⟨cs, h1, h2⟩ := h
      obtain ⟨t, rfl⟩ := branch_cells h2
      refine ⟨t, fun j u hu => ?_⟩
      have k0 := cells?_get h1 hu
      rwa [add_add] at k0
    obtain ⟨f, hf⟩ : ∃ f : Nat → Br, ∀ i, i < len' → ∀ j u, (bC (f i))[j]? = some u → w.cell? (a.add (i * 4 + j)) = some u :=
      ⟨fun i => if h : i < len' then (each i h).choose else zB, fun i hi => by simp only [dif_pos hi]; exact (each i hi).choose_spec⟩
    refine ⟨some a, (List.range len').map f, len', cap', hcs, ⟨by simp, (fun h => by cases h), hl, ⟨fun j u hu => ⟨a, rfl, ?_⟩⟩⟩⟩
    have hj := (List.getElem?_eq_some_iff.1 hu).1
    rw [len_brs] at hj
    simp only [List.length_map, List.length_range] at hj
    have hq : j / 4 < len' := by omega
    have e : j = (j / 4) * 4 + j % 4 := by omega
    have e2 := brs_at ((List.range len').map f) (j / 4) (j % 4) (by omega) (by simpa using hq)
    rw [← e, hu, show ((List.range len').map f).getD (j / 4) zB = f (j / 4) by simp [List.getD, hq]] at e2
    have := hf (j / 4) hq (j % 4) u e2.symm
    rwa [← e] at this
theorem acts_cells {fuel : Nat} {cs : List Value} {x : DataW H × List MemPlace} (hf : DataW.trod enc Try.prog w 0 (fun _ => true) true fuel 22 cs = some x) :
    ∃ ao l n cap, cs = [.slice ao n cap] ∧ HasC w ao n cap l := by
  rcases DataW.trod_slice Try.underlying22 hf with ⟨hcs, hx⟩ | ⟨a, len', cap', elems, rest, n, _, hcs, _, hb, hl, hm, hlen, hel, _, _⟩
  · exact ⟨none, [], 0, 0, hcs, ⟨rfl, row_nil _ _⟩⟩
  · have each : ∀ i, i < len' → ∃ t : Ac, ∀ j u, (aC t)[j]? = some u → w.cell? (a.add (i * 6 + j)) = some u := by
      intro i hi
      have h := hel i hi
      rw [cellsAct, List.getElem?_eq_getElem (by omega), Option.bind_eq_some_iff] at h
      obtain ⟨cs, h1, h2⟩ := h
      obtain ⟨t, rfl⟩ := act_cells h2
      refine ⟨t, fun j u hu => ?_⟩
      have k0 := cells?_get h1 hu
      rwa [add_add] at k0
    obtain ⟨f, hf⟩ : ∃ f : Nat → Ac, ∀ i, i < len' → ∀ j u, (aC (f i))[j]? = some u → w.cell? (a.add (i * 6 + j)) = some u :=
      ⟨fun i => if h : i < len' then (each i h).choose else zA, fun i hi => by simp only [dif_pos hi]; exact (each i hi).choose_spec⟩
    refine ⟨some a, (List.range len').map f, len', cap', hcs, ⟨by simp, ⟨fun j u hu => ⟨a, rfl, ?_⟩⟩⟩⟩
    have hj := (List.getElem?_eq_some_iff.1 hu).1
    rw [len_acs] at hj
    simp only [List.length_map, List.length_range] at hj
    have hq : j / 6 < len' := by omega
    have e : j = (j / 6) * 6 + j % 6 := by omega
    have e2 := acs_at ((List.range len').map f) (j / 6) (j % 6) (by omega) (by simpa using hq)
    rw [← e, hu, show ((List.range len').map f).getD (j / 6) zA = f (j / 6) by simp [List.getD, hq]] at e2
    have := hf (j / 6) hq (j % 6) u e2.symm
    rwa [← e] at this
theorem agg_of {cs : Array Value} {l : List Value} (h : (Value.agg cs).cells.toList = l) : cs = l.toArray := by
  simp only [Value.cells] at h
  rw [← h]
theorem slice_of {a0 : Option Addr} {len cap : Nat} {l : List Value} (h : (Value.slice a0 len cap).cells.toList = l) : l = [.slice a0 len cap] := by
  rw [← h]; rfl
theorem open_branches {v : Value} {d : DataW H} {ps : List MemPlace} {b0 : Nat} (hv : Value.okWide Try.prog w .any b0 26 v) (h : DataW.Trod enc Try.prog w 0 (fun _ => true) true 26 v d ps) :
    ∃ ao n cap l, v = .slice ao n cap ∧ HasB w ao n cap l := by
  obtain ⟨a0, len, cap, rfl⟩ := okWide_slice Try.underlying26 hv
  obtain ⟨fuel, hf⟩ := h
  obtain ⟨ao, l, n, c, e, hh⟩ := branches_cells hf
  rw [slice_of rfl] at e
  cases e
  exact ⟨_, _, _, l, rfl, hh⟩
theorem open_acts {v : Value} {d : DataW H} {ps : List MemPlace} {b0 : Nat} (hv : Value.okWide Try.prog w .any b0 22 v) (h : DataW.Trod enc Try.prog w 0 (fun _ => true) true 22 v d ps) :
    ∃ ao n cap l, v = .slice ao n cap ∧ HasC w ao n cap l := by
  obtain ⟨a0, len, cap, rfl⟩ := okWide_slice Try.underlying22 hv
  obtain ⟨fuel, hf⟩ := h
  obtain ⟨ao, l, n, c, e, hh⟩ := acts_cells hf
  rw [slice_of rfl] at e
  cases e
  exact ⟨_, _, _, l, rfl, hh⟩
theorem open_key {v : Value} {d : DataW H} {ps : List MemPlace} {b0 : Nat} (hv : Value.okWide Try.prog w .any b0 24 v) (h : DataW.Trod enc Try.prog w 0 (fun _ => true) true 24 v d ps) : ∃ k : P, v = (.agg #[.int .i64 k.1, .int .i64 k.2]) := by
  obtain ⟨cs, rfl, hsz⟩ := okWide_struct Try.underlying24 hv
  obtain ⟨fuel, hf⟩ := h
  obtain ⟨z, e⟩ := key_cells hf
  exact ⟨z, by rw [agg_of e]; rfl⟩
theorem open_act {v : Value} {d : DataW H} {ps : List MemPlace} {b0 : Nat} (hv : Value.okWide Try.prog w .any b0 52 v) (h : DataW.Trod enc Try.prog w 0 (fun _ => true) true 52 v d ps) : ∃ k : Ac, v = (.agg #[.int .i64 k.kind, .int .i64 k.a.1, .int .i64 k.a.2, .int .i64 k.b.1, .int .i64 k.b.2, .bool k.on]) := by
  obtain ⟨cs, rfl, hsz⟩ := okWide_struct Try.underlying52 hv
  obtain ⟨fuel, hf⟩ := h
  obtain ⟨z, e⟩ := act_cells hf
  exact ⟨z, by rw [agg_of e]; rfl⟩
end
end Go.Proofs.Ytdaakigofpehjab.Tr
