/- What every law of these seats shares: ports, waiters, acts, lists of acts, that come in. -/
import Derived.Test.YtpcdjpcdmnjdfaaRows
import Derived.Test.YtpcdjpcdmnjdfaaPoMem
import Derived.ProofKit
import Derived.OpenShut
import Derived.ChangeSlices
namespace Go.Proofs.Ytpcdjpcdmnjdfaa.Po
open Go.ChangeShapes Go.WideShapes Go.ChangeAt Go.RowKit

theorem own : ownKnob Try.prog.godebug = none := by kernel_rfl
theorem laidOut : laidOutB Try.prog = true := by kernel_rfl
theorem cellsInt : Try.prog.cellsOf 3 = 1 := by kernel_rfl
theorem cellsI64 : Try.prog.cellsOf 2 = 1 := by kernel_rfl
theorem cellsBool : Try.prog.cellsOf 4 = 1 := by kernel_rfl
theorem cellsKey : Try.prog.cellsOf 26 = 2 := by kernel_rfl
theorem cellsWaiter : Try.prog.cellsOf 28 = 8 := by kernel_rfl
theorem cellsWaiters : Try.prog.cellsOf 22 = 1 := by kernel_rfl
theorem cellsPort : Try.prog.cellsOf 24 = 3 := by kernel_rfl
theorem cellsAct : Try.prog.cellsOf 30 = 10 := by kernel_rfl
theorem list2 {α : Type} {l : List α} (h : l.length = 2) : ∃ a b, l = [a, b] := by
  match l, h with
  | [a, b], _ => exact ⟨a, b, rfl⟩
theorem list3 {α : Type} {l : List α} (h : l.length = 3) : ∃ a b c, l = [a, b, c] := by
  match l, h with
  | [a, b, c], _ => exact ⟨a, b, c, rfl⟩
theorem list7 {α : Type} {l : List α} (h : l.length = 7) : ∃ a b c d e f g, l = [a, b, c, d, e, f, g] := by
  match l, h with
  | [a, b, c, d, e, f, g], _ => exact ⟨a, b, c, d, e, f, g, rfl⟩
theorem list8 {α : Type} {l : List α} (h : l.length = 8) : ∃ a b c d e f g i, l = [a, b, c, d, e, f, g, i] := by
  match l, h with
  | [a, b, c, d, e, f, g, i], _ => exact ⟨a, b, c, d, e, f, g, i, rfl⟩
theorem list10 {α : Type} {l : List α} (h : l.length = 10) : ∃ a b c d e f g i j k, l = [a, b, c, d, e, f, g, i, j, k] := by
  match l, h with
  | [a, b, c, d, e, f, g, i, j, k], _ => exact ⟨a, b, c, d, e, f, g, i, j, k, rfl⟩
section
variable {H : Type} {enc : TypeId × Value → H} {w : World}
theorem cells?_get {b n : Nat} {a : Addr} {cs : List Value} (h : w.cells? b a n = some cs) {i : Nat} {u : Value} (hu : cs[i]? = some u) : w.cell? (a.add i) = some u := by
  obtain ⟨_, hlen, hcell⟩ := World.cells?_some h
  have hi := (List.getElem?_eq_some_iff.1 hu).1
  rw [hcell i (by omega), hu]
theorem key_cells {fuel : Nat} {cs : List Value} {x : DataW H × List MemPlace} (hf : DataW.trod enc Try.prog w 0 (fun _ => true) true fuel 26 cs = some x) : ∃ s t : Int, cs = [.int .i64 s, .int .i64 t] := by
  obtain ⟨xs, n, _, hx, hl, hlen, hall⟩ := DataW.trod_struct Try.underlying26 hf
  rw [cellsKey] at hl
  obtain ⟨c0, c1, rfl⟩ := list2 hl
  obtain ⟨y0, y1, rfl⟩ := list2 hlen
  have h0 := hall 0 _ rfl
  have h1 := hall 1 _ rfl
  simp [cellsInt] at h0 h1
  obtain ⟨x0, e0, _, _⟩ := DataW.trod_int Try.underlying3 h0
  obtain ⟨x1, e1, _, _⟩ := DataW.trod_int Try.underlying3 h1
  cases e0; cases e1
  exact ⟨x0, x1, rfl⟩
theorem waiter_cells {fuel : Nat} {cs : List Value} {x : DataW H × List MemPlace} (hf : DataW.trod enc Try.prog w 0 (fun _ => true) true fuel 28 cs = some x) : ∃ t : Wt, cs = wC t := by
  obtain ⟨xs, n, _, hx, hl, hlen, hall⟩ := DataW.trod_struct Try.underlying28 hf
  rw [cellsWaiter] at hl
  obtain ⟨c0, c1, c2, c3, c4, c5, c6, c7, rfl⟩ := list8 hl
  obtain ⟨y0, y1, y2, y3, y4, y5, y6, rfl⟩ := list7 hlen
  have h0 := hall 0 _ rfl
  have h1 := hall 1 _ rfl
  have h2 := hall 2 _ rfl
  have h3 := hall 3 _ rfl
  have h4 := hall 4 _ rfl
  have h5 := hall 5 _ rfl
  have h6 := hall 6 _ rfl
  simp [cellsInt, cellsI64, cellsBool, cellsKey] at h0 h1 h2 h3 h4 h5 h6
  obtain ⟨x0, e0, _, _⟩ := DataW.trod_int Try.underlying3 h0
  obtain ⟨x1, e1, _, _⟩ := DataW.trod_int Try.underlying2 h1
  obtain ⟨x2, e2, _, _⟩ := DataW.trod_int Try.underlying3 h2
  obtain ⟨x3, e3, _⟩ := DataW.trod_bool Try.underlying4 h3
  obtain ⟨x4, x5, e4⟩ := key_cells h4
  obtain ⟨x6, e5, _, _⟩ := DataW.trod_int Try.underlying3 h5
  obtain ⟨x7, e6, _⟩ := DataW.trod_bool Try.underlying4 h6
  cases e0; cases e1; cases e2; cases e3; cases e4; cases e5; cases e6
  exact ⟨⟨x0, x1, x2, x3, x4, x5, x6, x7⟩, rfl⟩
theorem wts_cells {fuel : Nat} {cs : List Value} {x : DataW H × List MemPlace} (hf : DataW.trod enc Try.prog w 0 (fun _ => true) true fuel 22 cs = some x) :
    ∃ ao l n cap, cs = [.slice ao n cap] ∧ HasQ w ⟨ao, n, cap⟩ l := by
  rcases DataW.trod_slice Try.underlying22 hf with ⟨hcs, hx⟩ | ⟨a, len', cap', elems, rest, n, _, hcs, _, hb, hl, hm, hlen, hel, _, _⟩
  · exact ⟨none, [], 0, 0, hcs, hasQ_nil w⟩
  · have each : ∀ i, i < len' → ∃ t : Wt, ∀ j u, (wC t)[j]? = some u → w.cell? (a.add (i * 8 + j)) = some u := by
      intro i hi
      have h := hel i hi
      rw [cellsWaiter, List.getElem?_eq_getElem (by omega), Option.bind_eq_some_iff] at h
      obtain ⟨cs, h1, h2⟩ := h
      obtain ⟨t, rfl⟩ := waiter_cells h2
      refine ⟨t, fun j u hu => ?_⟩
      have k0 := cells?_get h1 hu
      rwa [add_add] at k0
    obtain ⟨f, hf⟩ : ∃ f : Nat → Wt, ∀ i, i < len' → ∀ j u, (wC (f i))[j]? = some u → w.cell? (a.add (i * 8 + j)) = some u :=
      ⟨fun i => if h : i < len' then (each i h).choose else z0, fun i hi => by simp only [dif_pos hi]; exact (each i hi).choose_spec⟩
    refine ⟨some a, (List.range len').map f, len', cap', hcs, ⟨by simp, (fun h => by cases h), hl, ⟨fun j u hu => ⟨a, rfl, ?_⟩⟩⟩⟩
    have hj := (List.getElem?_eq_some_iff.1 hu).1
    rw [len_wts] at hj
    simp only [List.length_map, List.length_range] at hj
    have hq : j / 8 < len' := by omega
    have e : j = (j / 8) * 8 + j % 8 := by omega
    have e2 := wts_at ((List.range len').map f) (j / 8) (j % 8) (by omega) (by simpa using hq)
    rw [← e, hu, show ((List.range len').map f).getD (j / 8) z0 = f (j / 8) by simp [List.getD, hq]] at e2
    have := hf (j / 8) hq (j % 8) u e2.symm
    rwa [← e] at this
theorem act_cells {fuel : Nat} {cs : List Value} {x : DataW H × List MemPlace} (hf : DataW.trod enc Try.prog w 0 (fun _ => true) true fuel 30 cs = some x) : ∃ t : Ac, cs = zC t := by
  obtain ⟨xs, n, _, hx, hl, hlen, hall⟩ := DataW.trod_struct Try.underlying30 hf
  rw [cellsAct] at hl
  obtain ⟨c0, c1, c2, c3, c4, c5, c6, c7, c8, c9, rfl⟩ := list10 hl
  obtain ⟨y0, y1, y2, rfl⟩ := list3 hlen
  have h0 := hall 0 _ rfl
  have h1 := hall 1 _ rfl
  have h2 := hall 2 _ rfl
  simp [cellsInt, cellsI64, cellsWaiter] at h0 h1 h2
  obtain ⟨x0, e0, _, _⟩ := DataW.trod_int Try.underlying3 h0
  obtain ⟨t, e1⟩ := waiter_cells h1
  obtain ⟨x2, e2, _, _⟩ := DataW.trod_int Try.underlying2 h2
  cases e0; cases e1; cases e2
  exact ⟨⟨x0, t, x2⟩, rfl⟩
theorem acts_cells {fuel : Nat} {cs : List Value} {x : DataW H × List MemPlace} (hf : DataW.trod enc Try.prog w 0 (fun _ => true) true fuel 40 cs = some x) :
    ∃ ao l n cap, cs = [.slice ao n cap] ∧ HasZ w ⟨ao, n, cap⟩ l := by
  rcases DataW.trod_slice Try.underlying40 hf with ⟨hcs, hx⟩ | ⟨a, len', cap', elems, rest, n, _, hcs, _, hb, hl, hm, hlen, hel, _, _⟩
  · exact ⟨none, [], 0, 0, hcs, ⟨rfl, fun _ => rfl, row_nil _ _⟩⟩
  · have each : ∀ i, i < len' → ∃ t : Ac, ∀ j u, (zC t)[j]? = some u → w.cell? (a.add (i * 10 + j)) = some u := by
      intro i hi
      have h := hel i hi
      rw [cellsAct, List.getElem?_eq_getElem (by omega), Option.bind_eq_some_iff] at h
      obtain ⟨cs, h1, h2⟩ := h
      obtain ⟨t, rfl⟩ := act_cells h2
      refine ⟨t, fun j u hu => ?_⟩
      have k0 := cells?_get h1 hu
      rwa [add_add] at k0
    obtain ⟨f, hf⟩ : ∃ f : Nat → Ac, ∀ i, i < len' → ∀ j u, (zC (f i))[j]? = some u → w.cell? (a.add (i * 10 + j)) = some u :=
      ⟨fun i => if h : i < len' then (each i h).choose else a0, fun i hi => by simp only [dif_pos hi]; exact (each i hi).choose_spec⟩
    refine ⟨some a, (List.range len').map f, len', cap', hcs, ⟨by simp, (fun h => by cases h), ⟨fun j u hu => ⟨a, rfl, ?_⟩⟩⟩⟩
    have hj := (List.getElem?_eq_some_iff.1 hu).1
    rw [len_zrs] at hj
    simp only [List.length_map, List.length_range] at hj
    have hq : j / 10 < len' := by omega
    have e : j = (j / 10) * 10 + j % 10 := by omega
    have e2 := zrs_at ((List.range len').map f) (j / 10) (j % 10) (by omega) (by simpa using hq)
    rw [← e, hu, show ((List.range len').map f).getD (j / 10) a0 = f (j / 10) by simp [List.getD, hq]] at e2
    have := hf (j / 10) hq (j % 10) u e2.symm
    rwa [← e] at this
theorem agg_of {cs : Array Value} {l : List Value} (h : (Value.agg cs).cells.toList = l) : cs = l.toArray := by
  simp only [Value.cells] at h
  rw [← h]
theorem slice_of {a0 : Option Addr} {len cap : Nat} {l : List Value} (h : (Value.slice a0 len cap).cells.toList = l) : l = [.slice a0 len cap] := by
  rw [← h]; rfl
theorem open_acts {v : Value} {d : DataW H} {ps : List MemPlace} {b0 : Nat} (hv : Value.okWide Try.prog w .any b0 40 v) (h : DataW.Trod enc Try.prog w 0 (fun _ => true) true 40 v d ps) :
    ∃ (y : Hd) (l : List Ac), v = .slice y.o y.n y.c ∧ HasZ w y l := by
  obtain ⟨a0, len, cap, rfl⟩ := okWide_slice Try.underlying40 hv
  obtain ⟨fuel, hf⟩ := h
  obtain ⟨ao, l, n, c, e, hh⟩ := acts_cells hf
  rw [slice_of rfl] at e
  cases e
  exact ⟨⟨_, _, _⟩, l, rfl, hh⟩
theorem open_waiter {v : Value} {d : DataW H} {ps : List MemPlace} {b0 : Nat} (hv : Value.okWide Try.prog w .any b0 28 v) (h : DataW.Trod enc Try.prog w 0 (fun _ => true) true 28 v d ps) : ∃ k : Wt, v = (.agg #[.int .i64 k.c, .int .i64 k.v, .int .i64 k.b, .bool k.h, .int .i64 k.o, .int .i64 k.s, .int .i64 k.g, .bool k.t]) := by
  obtain ⟨cs, rfl, hsz⟩ := okWide_struct Try.underlying28 hv
  obtain ⟨fuel, hf⟩ := h
  obtain ⟨z, e⟩ := waiter_cells hf
  exact ⟨z, by rw [agg_of e]; rfl⟩
theorem open_act {v : Value} {d : DataW H} {ps : List MemPlace} {b0 : Nat} (hv : Value.okWide Try.prog w .any b0 30 v) (h : DataW.Trod enc Try.prog w 0 (fun _ => true) true 30 v d ps) : ∃ k : Ac, v = (.agg #[.int .i64 k.kind, .int .i64 k.x.c, .int .i64 k.x.v, .int .i64 k.x.b, .bool k.x.h, .int .i64 k.x.o, .int .i64 k.x.s, .int .i64 k.x.g, .bool k.x.t, .int .i64 k.n]) := by
  obtain ⟨cs, rfl, hsz⟩ := okWide_struct Try.underlying30 hv
  obtain ⟨fuel, hf⟩ := h
  obtain ⟨z, e⟩ := act_cells hf
  exact ⟨z, by rw [agg_of e]; rfl⟩
theorem open_port {v : Value} {d : DataW H} {ps : List MemPlace} {b0 : Nat} (hv : Value.okWide Try.prog w .any b0 24 v) (h : DataW.Trod enc Try.prog w 0 (fun _ => true) true 24 v d ps) : ∃ (p : Pt) (y : Hd), v = (.agg #[.int .i64 p.k, .int .i64 p.w, .slice y.o y.n y.c]) ∧ HasQ w y p.l := by
  obtain ⟨cs, rfl, hsz⟩ := okWide_struct Try.underlying24 hv
  obtain ⟨fuel, hf⟩ := h
  obtain ⟨xs, n, _, hx, hl, hlen, hall⟩ := DataW.trod_struct Try.underlying24 hf
  rw [cellsPort] at hl
  obtain ⟨c0, c1, c2, hc⟩ := list3 hl
  obtain ⟨y0, y1, y2, rfl⟩ := list3 hlen
  have h0 := hall 0 _ rfl
  have h1 := hall 1 _ rfl
  have h2 := hall 2 _ rfl
  rw [hc] at h0 h1 h2
  simp [cellsInt, cellsI64, cellsWaiters] at h0 h1 h2
  obtain ⟨x0, e0, _, _⟩ := DataW.trod_int Try.underlying3 h0
  obtain ⟨x1, e1, _, _⟩ := DataW.trod_int Try.underlying2 h1
  obtain ⟨ao, l, m, c, e2, H2⟩ := wts_cells h2
  cases e0; cases e1; cases e2
  exact ⟨⟨x0, x1, l⟩, ⟨ao, m, c⟩, by rw [agg_of hc], H2⟩
end
end Go.Proofs.Ytpcdjpcdmnjdfaa.Po
