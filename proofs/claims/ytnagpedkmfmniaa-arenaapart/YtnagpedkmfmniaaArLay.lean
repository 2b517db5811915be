/- What every law of this seat shares: numbers, things, arenas and lists of what is done, that come in. -/
import Derived.Test.YtnagpedkmfmniaaRows
import Derived.Test.YtnagpedkmfmniaaArActs
import Derived.ProofKit
import Derived.OpenShut
import Derived.ChangeSlices
namespace Go.Proofs.Ytnagpedkmfmniaa.Ar
open Go.ChangeShapes Go.WideShapes Go.ChangeAt Go.RowKit Go.Proofs.Ytnagpedkmfmniaa.Ha

theorem own : ownKnob Try.prog.godebug = none := by kernel_rfl
theorem laidOut : laidOutB Try.prog = true := by kernel_rfl
theorem cellsInt : Try.prog.cellsOf 3 = 1 := by kernel_rfl
theorem cellsI64 : Try.prog.cellsOf 2 = 1 := by kernel_rfl
theorem cellsInts : Try.prog.cellsOf 49 = 1 := by kernel_rfl
theorem cellsThings : Try.prog.cellsOf 22 = 1 := by kernel_rfl
theorem cellsIntss : Try.prog.cellsOf 23 = 1 := by kernel_rfl
theorem cellsThing : Try.prog.cellsOf 40 = 8 := by kernel_rfl
theorem cellsArena : Try.prog.cellsOf 25 = 2 := by kernel_rfl
theorem cellsAct : Try.prog.cellsOf 42 = 12 := by kernel_rfl
theorem list2 {α : Type} {l : List α} (h : l.length = 2) : ∃ a b, l = [a, b] := by
  match l, h with
  | [a, b], _ => exact ⟨a, b, rfl⟩
theorem list5 {α : Type} {l : List α} (h : l.length = 5) : ∃ a b c d e, l = [a, b, c, d, e] := by
  match l, h with
  | [a, b, c, d, e], _ => exact ⟨a, b, c, d, e, rfl⟩
theorem list8 {α : Type} {l : List α} (h : l.length = 8) : ∃ a b c d e f g i, l = [a, b, c, d, e, f, g, i] := by
  match l, h with
  | [a, b, c, d, e, f, g, i], _ => exact ⟨a, b, c, d, e, f, g, i, rfl⟩
theorem list12 {α : Type} {l : List α} (h : l.length = 12) : ∃ a b c d e f g i j k m n, l = [a, b, c, d, e, f, g, i, j, k, m, n] := by
  match l, h with
  | [a, b, c, d, e, f, g, i, j, k, m, n], _ => exact ⟨a, b, c, d, e, f, g, i, j, k, m, n, rfl⟩
section
variable {H : Type} {enc : TypeId × Value → H} {w : World}
theorem cells?_get {b n : Nat} {a : Addr} {cs : List Value} (h : w.cells? b a n = some cs) {i : Nat} {u : Value} (hu : cs[i]? = some u) : w.cell? (a.add i) = some u := by
  obtain ⟨_, hlen, hcell⟩ := World.cells?_some h
  have hi := (List.getElem?_eq_some_iff.1 hu).1
  rw [hcell i (by omega), hu]
theorem ints_cells {fuel : Nat} {cs : List Value} {x : DataW H × List MemPlace} (hf : DataW.trod enc Try.prog w 0 (fun _ => true) true fuel 49 cs = some x) :
    ∃ ao l n cap, cs = [.slice ao n cap] ∧ n ≤ 9223372036854775807 ∧ Has w ao n cap l := by
  rcases open_ints Try.underlying49 Try.underlying3 cellsInt hf with ⟨rfl, hx⟩ | ⟨a, len', cap', zs, rfl, _, hl, hm, hz, hx, hcell, hwz⟩
  · exact ⟨none, [], 0, 0, rfl, by omega, has_nil w⟩
  · simp only [if_true] at hz
    refine ⟨some a, zs.take len', len', cap', rfl, by unfold maxLen at hm; omega, ⟨by simp; omega, (fun h => by cases h), hl, ⟨fun j u hu => ⟨a, rfl, ?_⟩⟩⟩⟩
    have hj : j < len' := by have := (List.getElem?_eq_some_iff.1 hu).1; simp at this; omega
    rw [hcell j (by omega)]
    rw [vals_at _ j (by simp; omega)] at hu
    rw [← hu]
    simp [List.getD, hj]
/-- A list of numbers that came in. -/
theorem open_nums {v : Value} {d : DataW H} {ps : List MemPlace} {b0 : Nat} (hv : Value.okWide Try.prog w .any b0 49 v) (h : DataW.Trod enc Try.prog w 0 (fun _ => true) true 49 v d ps) :
    ∃ ao l n cap, v = .slice ao n cap ∧ n ≤ 9223372036854775807 ∧ Has w ao n cap l := by
  obtain ⟨a0, len, cap, rfl⟩ := okWide_slice Try.underlying49 hv
  obtain ⟨fuel, hf⟩ := h
  obtain ⟨ao, l, n, c, e, h1, h2⟩ := ints_cells hf
  simp [Value.cells] at e
  obtain ⟨rfl, rfl, rfl⟩ := e
  exact ⟨_, l, _, _, rfl, h1, h2⟩
theorem thing_cells {fuel : Nat} {cs : List Value} {x : DataW H × List MemPlace} (hf : DataW.trod enc Try.prog w 0 (fun _ => true) true fuel 40 cs = some x) : ∃ t : Th, cs = thC t := by
  obtain ⟨xs, n, _, hx, hl, hlen, hall⟩ := DataW.trod_struct Try.underlying40 hf
  rw [cellsThing] at hl
  obtain ⟨c0, c1, c2, c3, c4, c5, c6, c7, rfl⟩ := list8 hl
  obtain ⟨y0, y1, y2, y3, y4, y5, y6, y7, rfl⟩ := list8 hlen
  have h0 := hall 0 _ rfl
  have h1 := hall 1 _ rfl
  have h2 := hall 2 _ rfl
  have h3 := hall 3 _ rfl
  have h4 := hall 4 _ rfl
  have h5 := hall 5 _ rfl
  have h6 := hall 6 _ rfl
  have h7 := hall 7 _ rfl
  simp [cellsInt, cellsI64] at h0 h1 h2 h3 h4 h5 h6 h7
  obtain ⟨x0, e0, _, _⟩ := DataW.trod_int Try.underlying3 h0
  obtain ⟨x1, e1, _, _⟩ := DataW.trod_int Try.underlying3 h1
  obtain ⟨x2, e2, _, _⟩ := DataW.trod_int Try.underlying3 h2
  obtain ⟨x3, e3, _, _⟩ := DataW.trod_int Try.underlying3 h3
  obtain ⟨x4, e4, _, _⟩ := DataW.trod_int Try.underlying3 h4
  obtain ⟨x5, e5, _, _⟩ := DataW.trod_int Try.underlying3 h5
  obtain ⟨x6, e6, _, _⟩ := DataW.trod_int Try.underlying3 h6
  obtain ⟨x7, e7, _, _⟩ := DataW.trod_int Try.underlying2 h7
  cases e0; cases e1; cases e2; cases e3; cases e4; cases e5; cases e6; cases e7
  exact ⟨⟨x0, x1, x2, x3, x4, x5, x6, x7⟩, rfl⟩
theorem agg_of {cs : Array Value} {l : List Value} (h : (Value.agg cs).cells.toList = l) : cs = l.toArray := by
  simp only [Value.cells] at h
  rw [← h]
/-- A thing that came in. -/
theorem open_thing {v : Value} {d : DataW H} {ps : List MemPlace} {b0 : Nat} (hv : Value.okWide Try.prog w .any b0 40 v) (h : DataW.Trod enc Try.prog w 0 (fun _ => true) true 40 v d ps) :
    ∃ t : Th, v = (.agg #[.int .i64 t.ty, .int .i64 t.gen, .int .i64 t.refs, .int .i64 t.st, .int .i64 t.sz, .int .i64 t.wa, .int .i64 t.fm, .int .i64 t.va]) := by
  obtain ⟨cs, rfl, hsz⟩ := okWide_struct Try.underlying40 hv
  obtain ⟨fuel, hf⟩ := h
  obtain ⟨t, e⟩ := thing_cells hf
  exact ⟨t, by rw [agg_of e]; rfl⟩
theorem things_cells {fuel : Nat} {cs : List Value} {x : DataW H × List MemPlace} (hf : DataW.trod enc Try.prog w 0 (fun _ => true) true fuel 22 cs = some x) :
    ∃ ao l n cap, cs = [.slice ao n cap] ∧ HasT w ao n cap l := by
  rcases DataW.trod_slice Try.underlying22 hf with ⟨hcs, hx⟩ | ⟨a, len', cap', elems, rest, n, _, hcs, _, hb, hl, hm, hlen, hel, _, _⟩
  · exact ⟨none, [], 0, 0, hcs, ⟨rfl, fun _ => rfl, Nat.le_refl _, row_nil _ _⟩⟩
  · have each : ∀ i, i < len' → ∃ t : Th, ∀ j u, (thC t)[j]? = some u → w.cell? (a.add (i * 8 + j)) = some u := by
      intro i hi
      have h := hel i hi
      rw [cellsThing, List.getElem?_eq_getElem (by omega), Option.bind_eq_some_iff] at h
      obtain ⟨cs, h1, h2⟩ := h
      obtain ⟨t, rfl⟩ := thing_cells h2
      refine ⟨t, fun j u hu => ?_⟩
      have k0 := cells?_get h1 hu
      rwa [add_add] at k0
    obtain ⟨f, hf⟩ : ∃ f : Nat → Th, ∀ i, i < len' → ∀ j u, (thC (f i))[j]? = some u → w.cell? (a.add (i * 8 + j)) = some u :=
      ⟨fun i => if h : i < len' then (each i h).choose else Th.zero, fun i hi => by simp only [dif_pos hi]; exact (each i hi).choose_spec⟩
    refine ⟨some a, (List.range len').map f, len', cap', hcs, ⟨by simp, (fun h => by cases h), hl, ⟨fun j u hu => ⟨a, rfl, ?_⟩⟩⟩⟩
    have hj := (List.getElem?_eq_some_iff.1 hu).1
    rw [len_ths] at hj
    simp only [List.length_map, List.length_range] at hj
    have hq : j / 8 < len' := by omega
    have e : j = (j / 8) * 8 + j % 8 := by omega
    have e2 := ths_at ((List.range len').map f) (j / 8) (j % 8) (by omega) (by simpa using hq)
    rw [← e, hu, show ((List.range len').map f).getD (j / 8) Th.zero = f (j / 8) by simp [List.getD, hq]] at e2
    have := hf (j / 8) hq (j % 8) u e2.symm
    rwa [← e] at this
theorem lists_cells {fuel : Nat} {cs : List Value} {x : DataW H × List MemPlace} (hf : DataW.trod enc Try.prog w 0 (fun _ => true) true fuel 23 cs = some x) :
    ∃ ao hs fr n cap, cs = [.slice ao n cap] ∧ HasF w ao n cap hs fr := by
  rcases DataW.trod_slice Try.underlying23 hf with ⟨hcs, hx⟩ | ⟨a, len', cap', elems, rest, n, _, hcs, _, hb, hl, hm, hlen, hel, _, _⟩
  · exact ⟨none, [], [], 0, 0, hcs, ⟨rfl, rfl, fun _ => rfl, Nat.le_refl _, row_nil _ _, fun i hi => by simp at hi⟩⟩
  · have each : ∀ i, i < len' → ∃ p : Hd × List Int, w.cell? (a.add i) = some p.1.v ∧ Has w p.1.o p.1.n p.1.c p.2 := by
      intro i hi
      have h := hel i hi
      rw [cellsInts, List.getElem?_eq_getElem (by omega), Option.bind_eq_some_iff] at h
      obtain ⟨cs, h1, h2⟩ := h
      obtain ⟨ao, l, n, cap, rfl, _, hh⟩ := ints_cells h2
      have k0 := cells?_get h1 (i := 0) rfl
      rw [add_add] at k0
      exact ⟨(⟨ao, n, cap⟩, l), by simpa [Hd.v] using k0, hh⟩
    obtain ⟨f, hf⟩ : ∃ f : Nat → Hd × List Int, ∀ i, i < len' → w.cell? (a.add i) = some (f i).1.v ∧ Has w (f i).1.o (f i).1.n (f i).1.c (f i).2 :=
      ⟨fun i => if h : i < len' then (each i h).choose else (Hd.zero, []), fun i hi => by simp only [dif_pos hi]; exact (each i hi).choose_spec⟩
    refine ⟨some a, (List.range len').map (fun i => (f i).1), (List.range len').map (fun i => (f i).2), len', cap', hcs, ⟨by simp, by simp, (fun h => by cases h), hl, ⟨fun j u hu => ⟨a, rfl, ?_⟩⟩, fun i hi => ?_⟩⟩
    · have hj := (List.getElem?_eq_some_iff.1 hu).1
      rw [len_hds] at hj
      have hj2 : j < len' := by simpa using hj
      rw [hds_at _ j hj, show ((List.range len').map (fun i => (f i).1)).getD j Hd.zero = (f j).1 by simp [List.getD, hj2]] at hu
      cases hu
      exact (hf j hj2).1
    · have hi2 : i < len' := by simpa using hi
      rw [show ((List.range len').map (fun i => (f i).1)).getD i Hd.zero = (f i).1 by simp [List.getD, hi2], show ((List.range len').map (fun i => (f i).2)).getD i [] = (f i).2 by simp [List.getD, hi2]]
      exact (hf i hi2).2
/-- An arena that came in. -/
theorem open_arena {v : Value} {d : DataW H} {ps : List MemPlace} {b0 : Nat} (hv : Value.okWide Try.prog w .any b0 25 v) (h : DataW.Trod enc Try.prog w 0 (fun _ => true) true 25 v d ps) :
    ∃ (x : Wh) (a : Ar), v = (.agg #[.slice x.t.o x.t.n x.t.c, .slice x.f.o x.f.n x.f.c]) ∧ HasA w x a := by
  obtain ⟨cs, rfl, hsz⟩ := okWide_struct Try.underlying25 hv
  obtain ⟨fuel, hf⟩ := h
  obtain ⟨xs, n, _, hx, hl, hlen, hall⟩ := DataW.trod_struct Try.underlying25 hf
  rw [cellsArena] at hl
  obtain ⟨c0, c1, hcs⟩ := list2 hl
  obtain ⟨y0, y1, rfl⟩ := list2 hlen
  rw [hcs] at hall
  have h0 := hall 0 _ rfl
  have h1 := hall 1 _ rfl
  simp [cellsThings, cellsIntss] at h0 h1
  obtain ⟨ao, l, m, cap, e0, hT⟩ := things_cells h0
  obtain ⟨fo, hs, fr, fm, fcap, e1, hF⟩ := lists_cells h1
  cases e0
  cases e1
  exact ⟨⟨⟨ao, m, cap⟩, ⟨fo, fm, fcap⟩⟩, ⟨l, fr⟩, by rw [agg_of hcs], ⟨hT, hs, hF⟩⟩
def acC (x : Ac) : List Value := [.int .i64 x.kind, .int .i64 x.core, .int .i64 x.obj, .int .i64 x.by_] ++ thC x.t
theorem act_cells {fuel : Nat} {cs : List Value} {x : DataW H × List MemPlace} (hf : DataW.trod enc Try.prog w 0 (fun _ => true) true fuel 42 cs = some x) : ∃ z : Ac, cs = acC z := by
  obtain ⟨xs, n, _, hx, hl, hlen, hall⟩ := DataW.trod_struct Try.underlying42 hf
  rw [cellsAct] at hl
  obtain ⟨c0, c1, c2, c3, c4, c5, c6, c7, c8, c9, ca, cb, rfl⟩ := list12 hl
  obtain ⟨y0, y1, y2, y3, y4, rfl⟩ := list5 hlen
  have h0 := hall 0 _ rfl
  have h1 := hall 1 _ rfl
  have h2 := hall 2 _ rfl
  have h3 := hall 3 _ rfl
  have h4 := hall 4 _ rfl
  simp [cellsInt, cellsThing] at h0 h1 h2 h3 h4
  obtain ⟨x0, e0, _, _⟩ := DataW.trod_int Try.underlying3 h0
  obtain ⟨x1, e1, _, _⟩ := DataW.trod_int Try.underlying3 h1
  obtain ⟨x2, e2, _, _⟩ := DataW.trod_int Try.underlying3 h2
  obtain ⟨x3, e3, _, _⟩ := DataW.trod_int Try.underlying3 h3
  obtain ⟨t, e4⟩ := thing_cells h4
  cases e0; cases e1; cases e2; cases e3
  refine ⟨⟨x0, x1, x2, x3, t⟩, ?_⟩
  unfold acC
  rw [← e4]
  rfl
/-- What is done, that came in. -/
theorem open_act {v : Value} {d : DataW H} {ps : List MemPlace} {b0 : Nat} (hv : Value.okWide Try.prog w .any b0 42 v) (h : DataW.Trod enc Try.prog w 0 (fun _ => true) true 42 v d ps) :
    ∃ z : Ac, v = (.agg #[.int .i64 z.kind, .int .i64 z.core, .int .i64 z.obj, .int .i64 z.by_, .int .i64 z.t.ty, .int .i64 z.t.gen, .int .i64 z.t.refs, .int .i64 z.t.st, .int .i64 z.t.sz, .int .i64 z.t.wa, .int .i64 z.t.fm, .int .i64 z.t.va]) := by
  obtain ⟨cs, rfl, hsz⟩ := okWide_struct Try.underlying42 hv
  obtain ⟨fuel, hf⟩ := h
  obtain ⟨z, e⟩ := act_cells hf
  exact ⟨z, by rw [agg_of e]; rfl⟩
/-- A list of what is done, that came in. -/
theorem open_acts {v : Value} {d : DataW H} {ps : List MemPlace} {b0 : Nat} (hv : Value.okWide Try.prog w .any b0 46 v) (h : DataW.Trod enc Try.prog w 0 (fun _ => true) true 46 v d ps) :
    ∃ ao l n cap, v = .slice ao n cap ∧ n ≤ 9223372036854775807 ∧ HasC w ao n l := by
  obtain ⟨a0, len, cap, rfl⟩ := okWide_slice Try.underlying46 hv
  obtain ⟨fuel, hf⟩ := h
  rcases DataW.trod_slice Try.underlying46 hf with ⟨hcs, hx⟩ | ⟨a, len', cap', elems, rest, n, _, hcs, _, hb, hl, hm, hlen, hel, _, _⟩
  · simp [Value.cells] at hcs
    obtain ⟨rfl, rfl, rfl⟩ := hcs
    exact ⟨none, [], 0, 0, rfl, by omega, ⟨rfl, fun i hi => absurd hi (by omega)⟩⟩
  · simp [Value.cells] at hcs
    obtain ⟨rfl, rfl, rfl⟩ := hcs
    have each : ∀ i, i < len → ∃ z : Ac, AtC (a.add (i * 12)) z w := by
      intro i hi
      have h := hel i hi
      rw [cellsAct, List.getElem?_eq_getElem (by omega), Option.bind_eq_some_iff] at h
      obtain ⟨cs, h1, h2⟩ := h
      obtain ⟨z, rfl⟩ := act_cells h2
      have k := fun (j : Nat) (u : Value) (hu : (acC z)[j]? = some u) => cells?_get h1 hu
      refine ⟨z, by simpa [Addr.add] using k 0 _ rfl, ?_, ?_, ?_, ?_, ?_, ?_, ?_, ?_, ?_, ?_, ?_⟩
      all_goals rw [add_off _ _ (by decide)]
      · exact k 1 _ rfl
      · exact k 2 _ rfl
      · exact k 3 _ rfl
      · exact k 4 _ rfl
      · exact k 5 _ rfl
      · exact k 6 _ rfl
      · exact k 7 _ rfl
      · exact k 8 _ rfl
      · exact k 9 _ rfl
      · exact k 10 _ rfl
      · exact k 11 _ rfl
    obtain ⟨f, hf⟩ : ∃ f : Nat → Ac, ∀ i, i < len → AtC (a.add (i * 12)) (f i) w :=
      ⟨fun i => if h : i < len then (each i h).choose else Ac.zero, fun i hi => by simp only [dif_pos hi]; exact (each i hi).choose_spec⟩
    refine ⟨some a, (List.range len).map f, len, cap, rfl, by unfold maxLen at hm; omega, ⟨by simp, fun i hi => ⟨a, rfl, ?_⟩⟩⟩
    rw [show ((List.range len).map f).getD i Ac.zero = f i by simp [List.getD, hi]]
    exact hf i hi
end
end Go.Proofs.Ytnagpedkmfmniaa.Ar
