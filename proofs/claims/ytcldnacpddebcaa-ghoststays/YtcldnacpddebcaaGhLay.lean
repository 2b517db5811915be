/- What every law of this seat shares: ghosts, births, lists of births, keys, that come in. -/
import Derived.Test.YtcldnacpddebcaaRows
import Derived.Test.YtcldnacpddebcaaPkB
import Derived.ProofKit
import Derived.OpenShut
import Derived.ChangeSlices
namespace Go.Proofs.Ytcldnacpddebcaa.Gh
open Go.ChangeShapes Go.WideShapes Go.ChangeAt Go.RowKit
open Go.Proofs.Ytcldnacpddebcaa.Tr

theorem own : ownKnob Try.prog.godebug = none := by kernel_rfl
theorem laidOut : laidOutB Try.prog = true := by kernel_rfl
theorem cellsInt : Try.prog.cellsOf 3 = 1 := by kernel_rfl
theorem cellsInts : Try.prog.cellsOf 23 = 1 := by kernel_rfl
theorem cellsKey : Try.prog.cellsOf 27 = 2 := by kernel_rfl
theorem cellsKeys : Try.prog.cellsOf 22 = 1 := by kernel_rfl
theorem cellsBirth : Try.prog.cellsOf 29 = 5 := by kernel_rfl
theorem cellsGhost : Try.prog.cellsOf 25 = 3 := by kernel_rfl
theorem list2 {α : Type} {l : List α} (h : l.length = 2) : ∃ a b, l = [a, b] := by
  match l, h with
  | [a, b], _ => exact ⟨a, b, rfl⟩
theorem list3 {α : Type} {l : List α} (h : l.length = 3) : ∃ a b c, l = [a, b, c] := by
  match l, h with
  | [a, b, c], _ => exact ⟨a, b, c, rfl⟩
theorem list5 {α : Type} {l : List α} (h : l.length = 5) : ∃ a b c d e, l = [a, b, c, d, e] := by
  match l, h with
  | [a, b, c, d, e], _ => exact ⟨a, b, c, d, e, rfl⟩
section
variable {H : Type} {enc : TypeId × Value → H} {w : World}
theorem cells?_get {b n : Nat} {a : Addr} {cs : List Value} (h : w.cells? b a n = some cs) {i : Nat} {u : Value} (hu : cs[i]? = some u) : w.cell? (a.add i) = some u := by
  obtain ⟨_, hlen, hcell⟩ := World.cells?_some h
  have hi := (List.getElem?_eq_some_iff.1 hu).1
  rw [hcell i (by omega), hu]
theorem key_cells {fuel : Nat} {cs : List Value} {x : DataW H × List MemPlace} (hf : DataW.trod enc Try.prog w 0 (fun _ => true) true fuel 27 cs = some x) : ∃ t : P, cs = pC t := by
  obtain ⟨xs, n, _, hx, hl, hlen, hall⟩ := DataW.trod_struct Try.underlying27 hf
  rw [cellsKey] at hl
  obtain ⟨c0, c1, rfl⟩ := list2 hl
  obtain ⟨y0, y1, rfl⟩ := list2 hlen
  have h0 := hall 0 _ rfl
  have h1 := hall 1 _ rfl
  simp [cellsInt] at h0 h1
  obtain ⟨x0, e0, _, _⟩ := DataW.trod_int Try.underlying3 h0
  obtain ⟨x1, e1, _, _⟩ := DataW.trod_int Try.underlying3 h1
  cases e0; cases e1
  exact ⟨(x0, x1), rfl⟩
theorem is_cells {fuel : Nat} {cs : List Value} {x : DataW H × List MemPlace} (hf : DataW.trod enc Try.prog w 0 (fun _ => true) true fuel 23 cs = some x) :
    ∃ ao l n cap, cs = [.slice ao n cap] ∧ Has w ao n cap l := by
  rcases open_ints Try.underlying23 Try.underlying3 cellsInt hf with ⟨rfl, hx⟩ | ⟨a, len', cap', zs, rfl, _, hl, hm, hz, hx, hcell, hwz⟩
  · exact ⟨none, [], 0, 0, rfl, has_nil w⟩
  · simp only [if_true] at hz
    refine ⟨some a, zs.take len', len', cap', rfl, ⟨by simp; omega, (fun h => by cases h), hl, ⟨fun j u hu => ⟨a, rfl, ?_⟩⟩⟩⟩
    have hj : j < len' := by have := (List.getElem?_eq_some_iff.1 hu).1; simp at this; omega
    rw [hcell j (by omega)]
    rw [vals_at _ j (by simp; omega)] at hu
    rw [← hu]
    simp [List.getD, hj]
theorem keys_cells {fuel : Nat} {cs : List Value} {x : DataW H × List MemPlace} (hf : DataW.trod enc Try.prog w 0 (fun _ => true) true fuel 22 cs = some x) :
    ∃ ao l n cap, cs = [.slice ao n cap] ∧ HasP w ao n cap l := by
  rcases DataW.trod_slice Try.underlying22 hf with ⟨hcs, hx⟩ | ⟨a, len', cap', elems, rest, n, _, hcs, _, hb, hl, hm, hlen, hel, _, _⟩
  · exact ⟨none, [], 0, 0, hcs, hasP_nil w⟩
  · have each : ∀ i, i < len' → ∃ t : P, ∀ j u, (pC t)[j]? = some u → w.cell? (a.add (i * 2 + j)) = some u := by
      intro i hi
      have h := hel i hi
      rw [cellsKey, List.getElem?_eq_getElem (by omega), Option.bind_eq_some_iff] at h
      obtain ⟨cs, h1, h2⟩ := h
      obtain ⟨t, rfl⟩ := key_cells h2
      refine ⟨t, fun j u hu => ?_⟩
      have k0 := cells?_get h1 hu
      rwa [add_add] at k0
    obtain ⟨f, hf⟩ : ∃ f : Nat → P, ∀ i, i < len' → ∀ j u, (pC (f i))[j]? = some u → w.cell? (a.add (i * 2 + j)) = some u :=
      ⟨fun i => if h : i < len' then (each i h).choose else (0, 0), fun i hi => by simp only [dif_pos hi]; exact (each i hi).choose_spec⟩
    refine ⟨some a, (List.range len').map f, len', cap', hcs, ⟨by simp, (fun h => by cases h), hl, ⟨fun j u hu => ⟨a, rfl, ?_⟩⟩⟩⟩
    have hj := (List.getElem?_eq_some_iff.1 hu).1
    rw [len_prs] at hj
    simp only [List.length_map, List.length_range] at hj
    have hq : j / 2 < len' := by omega
    have e : j = (j / 2) * 2 + j % 2 := by omega
    have e2 := prs_at ((List.range len').map f) (j / 2) (j % 2) (by omega) (by simpa using hq)
    rw [← e, hu, show ((List.range len').map f).getD (j / 2) (0, 0) = f (j / 2) by simp [List.getD, hq]] at e2
    have := hf (j / 2) hq (j % 2) u e2.symm
    rwa [← e] at this
theorem birth_cells {fuel : Nat} {cs : List Value} {x : DataW H × List MemPlace} (hf : DataW.trod enc Try.prog w 0 (fun _ => true) true fuel 29 cs = some x) : ∃ t : Bi, cs = zC t := by
  obtain ⟨xs, n, _, hx, hl, hlen, hall⟩ := DataW.trod_struct Try.underlying29 hf
  rw [cellsBirth] at hl
  obtain ⟨c0, c1, c2, c3, c4, rfl⟩ := list5 hl
  obtain ⟨y0, y1, y2, rfl⟩ := list3 hlen
  have h0 := hall 0 _ rfl
  have h1 := hall 1 _ rfl
  have h2 := hall 2 _ rfl
  simp [cellsInt, cellsKey] at h0 h1 h2
  obtain ⟨x0, e0, _, _⟩ := DataW.trod_int Try.underlying3 h0
  obtain ⟨k, e1⟩ := key_cells h1
  obtain ⟨l, e2⟩ := key_cells h2
  cases e0; cases e1; cases e2
  exact ⟨⟨x0, k, l⟩, rfl⟩
theorem births_cells {fuel : Nat} {cs : List Value} {x : DataW H × List MemPlace} (hf : DataW.trod enc Try.prog w 0 (fun _ => true) true fuel 47 cs = some x) :
    ∃ ao l n cap, cs = [.slice ao n cap] ∧ HasZ w ao n cap l := by
  rcases DataW.trod_slice Try.underlying47 hf with ⟨hcs, hx⟩ | ⟨a, len', cap', elems, rest, n, _, hcs, _, hb, hl, hm, hlen, hel, _, _⟩
  · exact ⟨none, [], 0, 0, hcs, ⟨rfl, fun _ => rfl, row_nil _ _⟩⟩
  · have each : ∀ i, i < len' → ∃ t : Bi, ∀ j u, (zC t)[j]? = some u → w.cell? (a.add (i * 5 + j)) = some u := by
      intro i hi
      have h := hel i hi
      rw [cellsBirth, List.getElem?_eq_getElem (by omega), Option.bind_eq_some_iff] at h
      obtain ⟨cs, h1, h2⟩ := h
      obtain ⟨t, rfl⟩ := birth_cells h2
      refine ⟨t, fun j u hu => ?_⟩
      have k0 := cells?_get h1 hu
      rwa [add_add] at k0
    obtain ⟨f, hf⟩ : ∃ f : Nat → Bi, ∀ i, i < len' → ∀ j u, (zC (f i))[j]? = some u → w.cell? (a.add (i * 5 + j)) = some u :=
      ⟨fun i => if h : i < len' then (each i h).choose else z0B, fun i hi => by simp only [dif_pos hi]; exact (each i hi).choose_spec⟩
    refine ⟨some a, (List.range len').map f, len', cap', hcs, ⟨by simp, (fun h => by cases h), ⟨fun j u hu => ⟨a, rfl, ?_⟩⟩⟩⟩
    have hj := (List.getElem?_eq_some_iff.1 hu).1
    rw [len_zrs] at hj
    simp only [List.length_map, List.length_range] at hj
    have hq : j / 5 < len' := by omega
    have e : j = (j / 5) * 5 + j % 5 := by omega
    have e2 := zrs_at ((List.range len').map f) (j / 5) (j % 5) (by omega) (by simpa using hq)
    rw [← e, hu, show ((List.range len').map f).getD (j / 5) z0B = f (j / 5) by simp [List.getD, hq]] at e2
    have := hf (j / 5) hq (j % 5) u e2.symm
    rwa [← e] at this
theorem agg_of {cs : Array Value} {l : List Value} (h : (Value.agg cs).cells.toList = l) : cs = l.toArray := by
  simp only [Value.cells] at h
  rw [← h]
theorem slice_of {a0 : Option Addr} {len cap : Nat} {l : List Value} (h : (Value.slice a0 len cap).cells.toList = l) : l = [.slice a0 len cap] := by
  rw [← h]; rfl
theorem open_births {v : Value} {d : DataW H} {ps : List MemPlace} {b0 : Nat} (hv : Value.okWide Try.prog w .any b0 47 v) (h : DataW.Trod enc Try.prog w 0 (fun _ => true) true 47 v d ps) :
    ∃ ao n cap l, v = .slice ao n cap ∧ HasZ w ao n cap l := by
  obtain ⟨a0, len, cap, rfl⟩ := okWide_slice Try.underlying47 hv
  obtain ⟨fuel, hf⟩ := h
  obtain ⟨ao, l, n, c, e, hh⟩ := births_cells hf
  rw [slice_of rfl] at e
  cases e
  exact ⟨_, _, _, l, rfl, hh⟩
theorem open_key {v : Value} {d : DataW H} {ps : List MemPlace} {b0 : Nat} (hv : Value.okWide Try.prog w .any b0 27 v) (h : DataW.Trod enc Try.prog w 0 (fun _ => true) true 27 v d ps) : ∃ k : P, v = (.agg #[.int .i64 k.1, .int .i64 k.2]) := by
  obtain ⟨cs, rfl, hsz⟩ := okWide_struct Try.underlying27 hv
  obtain ⟨fuel, hf⟩ := h
  obtain ⟨z, e⟩ := key_cells hf
  exact ⟨z, by rw [agg_of e]; rfl⟩
theorem open_birth {v : Value} {d : DataW H} {ps : List MemPlace} {b0 : Nat} (hv : Value.okWide Try.prog w .any b0 29 v) (h : DataW.Trod enc Try.prog w 0 (fun _ => true) true 29 v d ps) : ∃ k : Bi, v = (.agg #[.int .i64 k.kind, .int .i64 k.key.1, .int .i64 k.key.2, .int .i64 k.fm.1, .int .i64 k.fm.2]) := by
  obtain ⟨cs, rfl, hsz⟩ := okWide_struct Try.underlying29 hv
  obtain ⟨fuel, hf⟩ := h
  obtain ⟨z, e⟩ := birth_cells hf
  exact ⟨z, by rw [agg_of e]; rfl⟩
theorem open_ghost {v : Value} {d : DataW H} {ps : List MemPlace} {b0 : Nat} (hv : Value.okWide Try.prog w .any b0 25 v) (h : DataW.Trod enc Try.prog w 0 (fun _ => true) true 25 v d ps) : ∃ (y : Gv) (g : Gt), v = (.agg #[.slice y.k.o y.k.n y.k.c, .slice y.i.o y.i.n y.i.c, .slice y.f.o y.f.n y.f.c]) ∧ HasG w y g := by
  obtain ⟨cs, rfl, hsz⟩ := okWide_struct Try.underlying25 hv
  obtain ⟨fuel, hf⟩ := h
  obtain ⟨xs, n, _, hx, hl, hlen, hall⟩ := DataW.trod_struct Try.underlying25 hf
  rw [cellsGhost] at hl
  obtain ⟨c0, c1, c2, hc⟩ := list3 hl
  obtain ⟨y0, y1, y2, rfl⟩ := list3 hlen
  have h0 := hall 0 _ rfl
  have h1 := hall 1 _ rfl
  have h2 := hall 2 _ rfl
  rw [hc] at h0 h1 h2
  simp [cellsInts, cellsKeys] at h0 h1 h2
  obtain ⟨ao, l, n, c, e0, H0⟩ := keys_cells h0
  obtain ⟨bo, m, n', c', e1, H1⟩ := is_cells h1
  obtain ⟨do', r, n'', c'', e2, H2⟩ := is_cells h2
  cases e0; cases e1; cases e2
  exact ⟨⟨⟨ao, n, c⟩, ⟨bo, n', c'⟩, ⟨do', n'', c''⟩⟩, ⟨l, m, r⟩, by rw [agg_of hc], ⟨H0, H1, H2⟩⟩
end
end Go.Proofs.Ytcldnacpddebcaa.Gh
