/- What every law of this seat shares: the listed table, opened; steps, nodes, keys, capabilities, that come in. -/
import Derived.Test.YthnfekdoibhnpaaDoorCards
import Derived.Test.YthnfekdoibhnpaaDoorTie
import Derived.Test.YthnfekdoibhnpaaDoorAdMem
import Derived.Test.YthnfekdoibhnpaaDoorCqTab
import Derived.ProofKit
import Derived.OpenShut
import Derived.ChangeSlices
import Derived.Deep.DeepHandedRow
import Derived.Lib.LaidTab
import Derived.Lib.LaidU8
import Derived.LaidLaws
import Derived.LaidMore
import Derived.Lay
namespace Go.Proofs.YthnfekdoibhnpaaDoor.Ad
open Go.ChangeShapes Go.WideShapes Go.ChangeAt Go.RowKit
open Cp (K)

theorem own : ownKnob Tryd.prog.godebug = none := by kernel_rfl
theorem laidOut : laidOutB Tryd.prog = true := by kernel_rfl
theorem cellsInt : Tryd.prog.cellsOf 3 = 1 := by kernel_rfl
theorem cellsStep : Tryd.prog.cellsOf 56 = 2 := by kernel_rfl
theorem cellsKey : Tryd.prog.cellsOf 43 = 2 := by kernel_rfl
theorem cellsCap : Tryd.prog.cellsOf 41 = 5 := by kernel_rfl
theorem cellsCaps : Tryd.prog.cellsOf 59 = 1 := by kernel_rfl
theorem cellsArr6 : Tryd.prog.cellsOf 77 = 6 := by kernel_rfl
theorem gM : Tryd.prog.globalNamed "garrison/cap.maxBadge" = some 0 := by kernel_rfl
theorem yM : (Tryd.prog.globals[0]?).map (·.type) = some 77 := by kernel_rfl
theorem u64_wf {x : Int} (h : (Lit.int .u64 x).wf = true) : U64 x := by
  have := bounds_u64 h
  exact ⟨by omega, by omega⟩
theorem block_of {W : World} {name : String} {g : Nat} {cs : Array Value} (hg : Tryd.prog.globalNamed name = some g) (h : W.var? Tryd.prog name = some cs) : ∃ (t : TypeId) (fr : Nat × Nat), W.heap[g]? = some (.cells cs t fr) := by
  unfold World.var? at h
  rw [hg, Option.bind_some] at h
  split at h
  · rename_i xs t fr hh
    have : xs = cs := Option.some.inj h
    subst this
    exact ⟨t, fr, hh⟩
  · cases h
theorem ints_of {W : World} {name : String} {g n : Nat} {t e : TypeId} {k : IntKind} {zs : List Int} (hg : Tryd.prog.globalNamed name = some g) (hy : (Tryd.prog.globals[g]?).map (·.type) = some t)
    (ht : Tryd.prog.underlying t = some (.array n e)) (he : Tryd.prog.underlying e = some (.int k)) (hce : Tryd.prog.cellsOf e = 1) (hct : Tryd.prog.cellsOf t = n)
    (h : Lib.VarReads Tryd.prog W name (Lib.tabData k zs)) : ∃ (t : TypeId) (fr : Nat × Nat), W.heap[g]? = some (.cells (zs.map (Value.int k)).toArray t fr) := by
  obtain ⟨g', t', cs, fuel, p, hg', hy', hv, hd⟩ := h
  obtain rfl := Option.some.inj (hg.symm.trans hg')
  obtain rfl := Option.some.inj (hy.symm.trans hy')
  have hc := Lib.cells_of_tab ht he hce hct hd
  have e : cs = (zs.map (Value.int k)).toArray := by rw [← hc]
  subst e
  exact block_of hg hv
/-- WHAT A ROW's LIST GIVES: the table lies as the program laid it. -/
theorem tabs_of {W : World} (h : laidMetH Tryd.prog [("garrison/cap.maxBadge", Rows.laid_garrison_cap_maxBadge)] W) : Cp.Tabs W := ⟨ints_of (zs := [0, 0, 7, 0, 65535, 65535]) gM yM Tryd.underlying77 Tryd.underlying3 cellsInt cellsArr6 (Lib.laidMet.reads h (.head _))⟩

theorem list2 {α : Type} {l : List α} (h : l.length = 2) : ∃ a b, l = [a, b] := by
  match l, h with
  | [a, b], _ => exact ⟨a, b, rfl⟩
theorem list5 {α : Type} {l : List α} (h : l.length = 5) : ∃ a b c d e, l = [a, b, c, d, e] := by
  match l, h with
  | [a, b, c, d, e], _ => exact ⟨a, b, c, d, e, rfl⟩
section
variable {H : Type} {enc : TypeId × Value → H} {w : World}
theorem cells?_get {b n : Nat} {a : Addr} {cs : List Value} (h : w.cells? b a n = some cs) {i : Nat} {u : Value} (hu : cs[i]? = some u) : w.cell? (a.add i) = some u := by
  obtain ⟨_, hlen, hcell⟩ := World.cells?_some h
  have hi := (List.getElem?_eq_some_iff.1 hu).1
  rw [hcell i (by omega), hu]
theorem step_cells {fuel : Nat} {cs : List Value} {x : DataW H × List MemPlace} (hf : DataW.trod enc Tryd.prog w 0 (fun _ => true) true fuel 56 cs = some x) : ∃ t : P, cs = pC t := by
  obtain ⟨xs, n, _, hx, hl, hlen, hall⟩ := DataW.trod_struct Tryd.underlying56 hf
  rw [cellsStep] at hl
  obtain ⟨c0, c1, rfl⟩ := list2 hl
  obtain ⟨y0, y1, rfl⟩ := list2 hlen
  have h0 := hall 0 _ rfl
  have h1 := hall 1 _ rfl
  simp [cellsInt] at h0 h1
  obtain ⟨x0, e0, _, _⟩ := DataW.trod_int Tryd.underlying3 h0
  obtain ⟨x1, e1, _, _⟩ := DataW.trod_int Tryd.underlying3 h1
  cases e0; cases e1
  exact ⟨(x0, x1), rfl⟩
theorem key_cells {fuel : Nat} {cs : List Value} {x : DataW H × List MemPlace} (hf : DataW.trod enc Tryd.prog w 0 (fun _ => true) true fuel 43 cs = some x) : ∃ t : P, cs = pC t := by
  obtain ⟨xs, n, _, hx, hl, hlen, hall⟩ := DataW.trod_struct Tryd.underlying43 hf
  rw [cellsKey] at hl
  obtain ⟨c0, c1, rfl⟩ := list2 hl
  obtain ⟨y0, y1, rfl⟩ := list2 hlen
  have h0 := hall 0 _ rfl
  have h1 := hall 1 _ rfl
  simp [cellsInt] at h0 h1
  obtain ⟨x0, e0, _, _⟩ := DataW.trod_int Tryd.underlying3 h0
  obtain ⟨x1, e1, _, _⟩ := DataW.trod_int Tryd.underlying3 h1
  cases e0; cases e1
  exact ⟨(x0, x1), rfl⟩
theorem cap_cells {fuel : Nat} {cs : List Value} {x : DataW H × List MemPlace} (hf : DataW.trod enc Tryd.prog w 0 (fun _ => true) true fuel 41 cs = some x) : ∃ t : K, cs = kC t := by
  obtain ⟨xs, n, _, hx, hl, hlen, hall⟩ := DataW.trod_struct Tryd.underlying41 hf
  rw [cellsCap] at hl
  obtain ⟨c0, c1, c2, c3, c4, rfl⟩ := list5 hl
  obtain ⟨y0, y1, y2, y3, y4, rfl⟩ := list5 hlen
  have h0 := hall 0 _ rfl
  have h1 := hall 1 _ rfl
  have h2 := hall 2 _ rfl
  have h3 := hall 3 _ rfl
  have h4 := hall 4 _ rfl
  simp [cellsInt] at h0 h1 h2 h3 h4
  obtain ⟨x0, e0, _, _⟩ := DataW.trod_int Tryd.underlying3 h0
  obtain ⟨x1, e1, _, _⟩ := DataW.trod_int Tryd.underlying3 h1
  obtain ⟨x2, e2, _, _⟩ := DataW.trod_int Tryd.underlying3 h2
  obtain ⟨x3, e3, _, _⟩ := DataW.trod_int Tryd.underlying3 h3
  obtain ⟨x4, e4, _, _⟩ := DataW.trod_int Tryd.underlying3 h4
  cases e0; cases e1; cases e2; cases e3; cases e4
  exact ⟨⟨x0, x1, x2, x3, x4⟩, rfl⟩
theorem steps_cells {fuel : Nat} {cs : List Value} {x : DataW H × List MemPlace} (hf : DataW.trod enc Tryd.prog w 0 (fun _ => true) true fuel 22 cs = some x) :
    ∃ ao l n cap, cs = [.slice ao n cap] ∧ HasP w ao n cap l := by
  rcases DataW.trod_slice Tryd.underlying22 hf with ⟨hcs, hx⟩ | ⟨a, len', cap', elems, rest, n, _, hcs, _, hb, hl, hm, hlen, hel, _, _⟩
  · exact ⟨none, [], 0, 0, hcs, hasP_nil w⟩
  · have each : ∀ i, i < len' → ∃ t : P, ∀ j u, (pC t)[j]? = some u → w.cell? (a.add (i * 2 + j)) = some u := by
      intro i hi
      have h := hel i hi
      rw [cellsStep, List.getElem?_eq_getElem (by omega), Option.bind_eq_some_iff] at h
      obtain ⟨cs, h1, h2⟩ := h
      obtain ⟨t, rfl⟩ := step_cells h2
      refine ⟨t, fun j u hu => ?_⟩
      have k0 := cells?_get h1 hu
      rwa [add_add] at k0
    obtain ⟨f, hf⟩ : ∃ f : Nat → P, ∀ i, i < len' → ∀ j u, (pC (f i))[j]? = some u → w.cell? (a.add (i * 2 + j)) = some u :=
      ⟨fun i => if h : i < len' then (each i h).choose else (0, 0), fun i hi => by simp only [dif_pos hi]; exact (each i hi).choose_spec⟩
    refine ⟨some a, (List.range len').map f, len', cap', hcs, ⟨by simp, (fun h => by cases h), hl, ⟨fun j u hu => ⟨a, rfl, ?_⟩⟩⟩⟩
    have hj := (List.getElem?_eq_some_iff.1 hu).1
    rw [len_prs] at hj
    simp only [List.length_map, List.length_range] at hj
    have hq : j / 2 < len' := by omega
    have e : j = (j / 2) * 2 + j % 2 := by omega
    have e2 := prs_at ((List.range len').map f) (j / 2) (j % 2) (by omega) (by simpa using hq)
    rw [← e, hu, show ((List.range len').map f).getD (j / 2) (0, 0) = f (j / 2) by simp [List.getD, hq]] at e2
    have := hf (j / 2) hq (j % 2) u e2.symm
    rwa [← e] at this
theorem caps_cells {fuel : Nat} {cs : List Value} {x : DataW H × List MemPlace} (hf : DataW.trod enc Tryd.prog w 0 (fun _ => true) true fuel 59 cs = some x) :
    ∃ ao l n cap, cs = [.slice ao n cap] ∧ HasK w ao n cap l := by
  rcases DataW.trod_slice Tryd.underlying59 hf with ⟨hcs, hx⟩ | ⟨a, len', cap', elems, rest, n, _, hcs, _, hb, hl, hm, hlen, hel, _, _⟩
  · exact ⟨none, [], 0, 0, hcs, hasK_nil w⟩
  · have each : ∀ i, i < len' → ∃ t : K, ∀ j u, (kC t)[j]? = some u → w.cell? (a.add (i * 5 + j)) = some u := by
      intro i hi
      have h := hel i hi
      rw [cellsCap, List.getElem?_eq_getElem (by omega), Option.bind_eq_some_iff] at h
      obtain ⟨cs, h1, h2⟩ := h
      obtain ⟨t, rfl⟩ := cap_cells h2
      refine ⟨t, fun j u hu => ?_⟩
      have k0 := cells?_get h1 hu
      rwa [add_add] at k0
    obtain ⟨f, hf⟩ : ∃ f : Nat → K, ∀ i, i < len' → ∀ j u, (kC (f i))[j]? = some u → w.cell? (a.add (i * 5 + j)) = some u :=
      ⟨fun i => if h : i < len' then (each i h).choose else K.zero, fun i hi => by simp only [dif_pos hi]; exact (each i hi).choose_spec⟩
    refine ⟨some a, (List.range len').map f, len', cap', hcs, ⟨by simp, (fun h => by cases h), hl, ⟨fun j u hu => ⟨a, rfl, ?_⟩⟩⟩⟩
    have hj := (List.getElem?_eq_some_iff.1 hu).1
    rw [len_kps] at hj
    simp only [List.length_map, List.length_range] at hj
    have hq : j / 5 < len' := by omega
    have e : j = (j / 5) * 5 + j % 5 := by omega
    have e2 := kps_at ((List.range len').map f) (j / 5) (j % 5) (by omega) (by simpa using hq)
    rw [← e, hu, show ((List.range len').map f).getD (j / 5) K.zero = f (j / 5) by simp [List.getD, hq]] at e2
    have := hf (j / 5) hq (j % 5) u e2.symm
    rwa [← e] at this
theorem nodes_cells {fuel : Nat} {cs : List Value} {x : DataW H × List MemPlace} (hf : DataW.trod enc Tryd.prog w 0 (fun _ => true) true fuel 39 cs = some x) :
    ∃ ao t n cap, cs = [.slice ao n cap] ∧ HasN w ao n cap t := by
  rcases DataW.trod_slice Tryd.underlying39 hf with ⟨hcs, hx⟩ | ⟨a, len', cap', elems, rest, n, _, hcs, _, hb, hl, hm, hlen, hel, _, _⟩
  · exact ⟨none, [], 0, 0, hcs, ⟨rfl, fun _ => rfl, Nat.le_refl _, [], rfl, row_nil _ _, fun i hi => by simp at hi⟩⟩
  · have each : ∀ i, i < len' → ∃ p : Hd × List K, w.cell? (a.add i) = some p.1.v ∧ HasK w p.1.o p.1.n p.1.c p.2 := by
      intro i hi
      have h := hel i hi
      rw [cellsCaps, List.getElem?_eq_getElem (by omega), Option.bind_eq_some_iff] at h
      obtain ⟨cs, h1, h2⟩ := h
      obtain ⟨ao, l, n, cap, rfl, hh⟩ := caps_cells h2
      have k0 := cells?_get h1 (i := 0) rfl
      rw [add_add] at k0
      exact ⟨(⟨ao, n, cap⟩, l), by simpa [Hd.v] using k0, hh⟩
    obtain ⟨f, hf⟩ : ∃ f : Nat → Hd × List K, ∀ i, i < len' → w.cell? (a.add i) = some (f i).1.v ∧ HasK w (f i).1.o (f i).1.n (f i).1.c (f i).2 :=
      ⟨fun i => if h : i < len' then (each i h).choose else (Hd.zero, []), fun i hi => by simp only [dif_pos hi]; exact (each i hi).choose_spec⟩
    refine ⟨some a, (List.range len').map (fun i => (f i).2), len', cap', hcs, ⟨by simp, (fun h => by cases h), hl, (List.range len').map (fun i => (f i).1), by simp, ⟨fun j u hu => ⟨a, rfl, ?_⟩⟩, fun i hi => ?_⟩⟩
    · have hj := (List.getElem?_eq_some_iff.1 hu).1
      rw [len_hds] at hj
      have hj2 : j < len' := by simpa using hj
      rw [hds_at _ j hj, show ((List.range len').map (fun i => (f i).1)).getD j Hd.zero = (f j).1 by simp [List.getD, hj2]] at hu
      cases hu
      exact (hf j hj2).1
    · have hi2 : i < len' := by simpa using hi
      rw [show ((List.range len').map (fun i => (f i).1)).getD i Hd.zero = (f i).1 by simp [List.getD, hi2], show ((List.range len').map (fun i => (f i).2)).getD i [] = (f i).2 by simp [List.getD, hi2]]
      exact (hf i hi2).2
theorem agg_of {cs : Array Value} {l : List Value} (h : (Value.agg cs).cells.toList = l) : cs = l.toArray := by
  simp only [Value.cells] at h
  rw [← h]
theorem slice_of {a0 : Option Addr} {len cap : Nat} {l : List Value} (h : (Value.slice a0 len cap).cells.toList = l) : l = [.slice a0 len cap] := by
  rw [← h]; rfl
/-- Steps that came in. -/
theorem open_steps {v : Value} {d : DataW H} {ps : List MemPlace} {b0 : Nat} (hv : Value.okWide Tryd.prog w .any b0 22 v) (h : DataW.Trod enc Tryd.prog w 0 (fun _ => true) true 22 v d ps) :
    ∃ ao n cap l, v = .slice ao n cap ∧ HasP w ao n cap l := by
  obtain ⟨a0, len, cap, rfl⟩ := okWide_slice Tryd.underlying22 hv
  obtain ⟨fuel, hf⟩ := h
  obtain ⟨ao, l, n, c, e, hh⟩ := steps_cells hf
  rw [slice_of rfl] at e
  cases e
  exact ⟨_, _, _, l, rfl, hh⟩
/-- Nodes that came in. -/
theorem open_nodes {v : Value} {d : DataW H} {ps : List MemPlace} {b0 : Nat} (hv : Value.okWide Tryd.prog w .any b0 39 v) (h : DataW.Trod enc Tryd.prog w 0 (fun _ => true) true 39 v d ps) :
    ∃ ao n cap t, v = .slice ao n cap ∧ HasN w ao n cap t := by
  obtain ⟨a0, len, cap, rfl⟩ := okWide_slice Tryd.underlying39 hv
  obtain ⟨fuel, hf⟩ := h
  obtain ⟨ao, t, n, c, e, hh⟩ := nodes_cells hf
  rw [slice_of rfl] at e
  cases e
  exact ⟨_, _, _, t, rfl, hh⟩
/-- A key that came in. -/
theorem open_key {v : Value} {d : DataW H} {ps : List MemPlace} {b0 : Nat} (hv : Value.okWide Tryd.prog w .any b0 43 v) (h : DataW.Trod enc Tryd.prog w 0 (fun _ => true) true 43 v d ps) : ∃ k : P, v = (.agg #[.int .i64 k.1, .int .i64 k.2]) := by
  obtain ⟨cs, rfl, hsz⟩ := okWide_struct Tryd.underlying43 hv
  obtain ⟨fuel, hf⟩ := h
  obtain ⟨z, e⟩ := key_cells hf
  exact ⟨z, by rw [agg_of e]; rfl⟩
/-- A capability that came in. -/
theorem open_cap {v : Value} {d : DataW H} {ps : List MemPlace} {b0 : Nat} (hv : Value.okWide Tryd.prog w .any b0 41 v) (h : DataW.Trod enc Tryd.prog w 0 (fun _ => true) true 41 v d ps) : ∃ k : K, v = (.agg #[.int .i64 k.t, .int .i64 k.r, .int .i64 k.b, .int .i64 k.o, .int .i64 k.g]) := by
  obtain ⟨cs, rfl, hsz⟩ := okWide_struct Tryd.underlying41 hv
  obtain ⟨fuel, hf⟩ := h
  obtain ⟨z, e⟩ := cap_cells hf
  exact ⟨z, by rw [agg_of e]; rfl⟩
end
end Go.Proofs.YthnfekdoibhnpaaDoor.Ad
