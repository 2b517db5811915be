/- What every law of this seat shares: lists of numbers and of truths, grabs, and wants, that come in. -/
import Derived.Test.YtaihabkacjbfjaaRows
import Derived.Test.YtaihabkacjbfjaaGrBools
import Derived.Test.YtaihabkacjbfjaaGrCut
import Derived.ProofKit
import Derived.OpenShut
import Derived.ChangeSlices
namespace Go.Proofs.Ytaihabkacjbfjaa.Gr
open Go.ChangeShapes Go.WideShapes Go.ChangeAt Go.RowKit Go.Proofs.Ytaihabkacjbfjaa.Ce

theorem own : ownKnob Try.prog.godebug = none := by kernel_rfl
theorem laidOut : laidOutB Try.prog = true := by kernel_rfl
theorem cellsInt : Try.prog.cellsOf 3 = 1 := by kernel_rfl
theorem cellsBool : Try.prog.cellsOf 4 = 1 := by kernel_rfl
theorem cellsInts : Try.prog.cellsOf 22 = 1 := by kernel_rfl
theorem cellsGrab : Try.prog.cellsOf 25 = 6 := by kernel_rfl
theorem cellsWant : Try.prog.cellsOf 60 = 2 := by kernel_rfl

/-- Who takes what, as it lies: whether it waits, and the cells. -/
structure HasW (w : World) (ao : Option Addr) (n : Nat) (ws : List (Bool × List Int)) : Prop where
  len : n = ws.length
  at_ : ∀ i, i < n → ∃ a, ao = some a ∧ w.cell? (a.add (i * 2)) = some (.bool (ws.getD i (false, [])).1) ∧ ∃ xo m c, w.cell? (a.add (i * 2 + 1)) = some (.slice xo m c) ∧ m ≤ 9223372036854775807 ∧ Has w xo m c (ws.getD i (false, [])).2
section
variable {H : Type} {enc : TypeId × Value → H} {w : World}
theorem list1 {α : Type} {l : List α} (h : l.length = 1) : ∃ a, l = [a] := by
  match l, h with
  | [a], _ => exact ⟨a, rfl⟩
theorem list2 {α : Type} {l : List α} (h : l.length = 2) : ∃ a b, l = [a, b] := by
  match l, h with
  | [a, b], _ => exact ⟨a, b, rfl⟩
theorem list6 {α : Type} {l : List α} (h : l.length = 6) : ∃ a b c d e f, l = [a, b, c, d, e, f] := by
  match l, h with
  | [a, b, c, d, e, f], _ => exact ⟨a, b, c, d, e, f, rfl⟩
theorem array6 {α : Type} {cs : Array α} (h : cs.size = 6) : ∃ a b c d e f, cs = #[a, b, c, d, e, f] := by
  obtain ⟨l⟩ := cs
  match l, h with
  | [a, b, c, d, e, f], _ => exact ⟨a, b, c, d, e, f, rfl⟩
theorem ints_cells {fuel : Nat} {cs : List Value} {x : DataW H × List MemPlace} (hf : DataW.trod enc Try.prog w 0 (fun _ => true) true fuel 22 cs = some x) :
    ∃ ao l n cap, cs = [.slice ao n cap] ∧ n ≤ 9223372036854775807 ∧ Has w ao n cap l := by
  rcases open_ints Try.underlying22 Try.underlying3 cellsInt hf with ⟨rfl, hx⟩ | ⟨a, len', cap', zs, rfl, _, hl, hm, hz, hx, hcell, hwz⟩
  · exact ⟨none, [], 0, 0, rfl, by omega, has_nil w⟩
  · simp only [if_true] at hz
    refine ⟨some a, zs.take len', len', cap', rfl, by unfold maxLen at hm; omega, ⟨by simp; omega, (fun h => by cases h), hl, ⟨fun j u hu => ⟨a, rfl, ?_⟩⟩⟩⟩
    have hj : j < len' := by have := (List.getElem?_eq_some_iff.1 hu).1; simp at this; omega
    rw [hcell j (by omega)]
    rw [vals_at _ j (by simp; omega)] at hu
    rw [← hu]
    simp [List.getD, hj]
/-- A list of numbers that came in. -/
theorem open_nums {v : Value} {d : DataW H} {ps : List MemPlace} {b0 : Nat} (hv : Value.okWide Try.prog w .any b0 22 v) (h : DataW.Trod enc Try.prog w 0 (fun _ => true) true 22 v d ps) :
    ∃ ao l n cap, v = .slice ao n cap ∧ n ≤ 9223372036854775807 ∧ Has w ao n cap l := by
  obtain ⟨a0, len, cap, rfl⟩ := okWide_slice Try.underlying22 hv
  obtain ⟨fuel, hf⟩ := h
  obtain ⟨ao, l, n, c, e, h1, h2⟩ := ints_cells hf
  simp [Value.cells] at e
  obtain ⟨rfl, rfl, rfl⟩ := e
  exact ⟨_, l, _, _, rfl, h1, h2⟩
theorem cells?_get {b n : Nat} {a : Addr} {cs : List Value} (h : w.cells? b a n = some cs) {i : Nat} {u : Value} (hu : cs[i]? = some u) : w.cell? (a.add i) = some u := by
  obtain ⟨_, hlen, hcell⟩ := World.cells?_some h
  have hi := (List.getElem?_eq_some_iff.1 hu).1
  rw [hcell i (by omega), hu]
/-- A list of truths that came in. -/
theorem open_bools {v : Value} {d : DataW H} {ps : List MemPlace} {b0 : Nat} (hv : Value.okWide Try.prog w .any b0 55 v) (h : DataW.Trod enc Try.prog w 0 (fun _ => true) true 55 v d ps) :
    ∃ ao l n cap, v = .slice ao n cap ∧ n ≤ 9223372036854775807 ∧ HasB w ao n l := by
  obtain ⟨a0, len, cap, rfl⟩ := okWide_slice Try.underlying55 hv
  obtain ⟨fuel, hf⟩ := h
  rcases DataW.trod_slice Try.underlying55 hf with ⟨hcs, hx⟩ | ⟨a, len', cap', elems, rest, n, _, hcs, _, hb, hl, hm, hlen, hel, _, _⟩
  · simp [Value.cells] at hcs
    obtain ⟨rfl, rfl, rfl⟩ := hcs
    exact ⟨none, [], 0, 0, rfl, by omega, ⟨rfl, row_nil _ _⟩⟩
  · simp [Value.cells] at hcs
    obtain ⟨rfl, rfl, rfl⟩ := hcs
    have each : ∀ i, i < len → ∃ b : Bool, w.cell? (a.add i) = some (.bool b) := by
      intro i hi
      have h := hel i hi
      rw [cellsBool, List.getElem?_eq_getElem (by omega), Option.bind_eq_some_iff] at h
      obtain ⟨cs, h1, h2⟩ := h
      obtain ⟨b, rfl, _⟩ := DataW.trod_bool Try.underlying4 h2
      have := cells?_get h1 (i := 0) rfl
      rw [add_add] at this
      exact ⟨b, by simpa using this⟩
    obtain ⟨f, hf⟩ : ∃ f : Nat → Bool, ∀ i, i < len → w.cell? (a.add i) = some (.bool (f i)) :=
      ⟨fun i => if h : i < len then (each i h).choose else false, fun i hi => by simp only [dif_pos hi]; exact (each i hi).choose_spec⟩
    refine ⟨some a, (List.range len).map f, len, cap, rfl, by unfold maxLen at hm; omega, ⟨by simp, ⟨fun j u hu => ⟨a, rfl, ?_⟩⟩⟩⟩
    simp only [bvals, List.map_map, List.getElem?_map, Option.map_eq_some_iff] at hu
    obtain ⟨i, h3, rfl⟩ := hu
    have h4 := List.getElem?_eq_some_iff.1 h3
    simp at h4
    obtain ⟨h5, rfl⟩ := h4
    exact hf _ h5
/-- A grab that came in. -/
theorem open_grab {v : Value} {d : DataW H} {ps : List MemPlace} {b0 : Nat} (hv : Value.okWide Try.prog w .any b0 25 v) (h : DataW.Trod enc Try.prog w 0 (fun _ => true) true 25 v d ps) :
    ∃ (g : G) (ao : Option Addr) (n cap : Nat), v = (.agg #[.int .i64 g.w, .slice ao n cap, .int .i64 g.p, .int .i64 g.a, .int .i64 g.t, .bool g.b]) ∧ Has w ao n cap g.cs := by
  obtain ⟨cs, rfl, hsz⟩ := okWide_struct Try.underlying25 hv
  obtain ⟨c0, c1, c2, c3, c4, c5, rfl⟩ := array6 (hsz.trans cellsGrab)
  obtain ⟨fuel, hf⟩ := h
  obtain ⟨xs, n, _, hx, hl, hlen, hall⟩ := DataW.trod_struct Try.underlying25 hf
  obtain ⟨y0, y1, y2, y3, y4, y5, rfl⟩ := list6 hlen
  have h0 := hall 0 _ rfl
  have h1 := hall 1 _ rfl
  have h2 := hall 2 _ rfl
  have h3 := hall 3 _ rfl
  have h4 := hall 4 _ rfl
  have h5 := hall 5 _ rfl
  simp [cellsInt, cellsInts, cellsBool, Value.cells] at h0 h1 h2 h3 h4 h5
  obtain ⟨x0, e0, _, _⟩ := DataW.trod_int Try.underlying3 h0
  obtain ⟨ao, l, m, cap, e1, _, hh⟩ := ints_cells h1
  obtain ⟨x2, e2, _, _⟩ := DataW.trod_int Try.underlying3 h2
  obtain ⟨x3, e3, _, _⟩ := DataW.trod_int Try.underlying3 h3
  obtain ⟨x4, e4, _, _⟩ := DataW.trod_int Try.underlying3 h4
  obtain ⟨x5, e5, _⟩ := DataW.trod_bool Try.underlying4 h5
  cases e0
  cases e1
  cases e2
  cases e3
  cases e4
  cases e5
  exact ⟨⟨x0, l, x2, x3, x4, x5⟩, ao, m, cap, rfl, hh⟩
theorem want_cells {fuel : Nat} {cs : List Value} {x : DataW H × List MemPlace} (hf : DataW.trod enc Try.prog w 0 (fun _ => true) true fuel 60 cs = some x) :
    ∃ (b : Bool) (ao : Option Addr) (l : List Int) (n cap : Nat), cs = [.bool b, .slice ao n cap] ∧ n ≤ 9223372036854775807 ∧ Has w ao n cap l := by
  obtain ⟨xs, n, _, hx, hl, hlen, hall⟩ := DataW.trod_struct Try.underlying60 hf
  rw [cellsWant] at hl
  obtain ⟨c0, c1, rfl⟩ := list2 hl
  obtain ⟨y0, y1, rfl⟩ := list2 hlen
  have h0 := hall 0 _ rfl
  have h1 := hall 1 _ rfl
  simp [cellsInts, cellsBool] at h0 h1
  obtain ⟨x0, e0, _⟩ := DataW.trod_bool Try.underlying4 h0
  obtain ⟨ao, l, m, cap, e1, hm, hh⟩ := ints_cells h1
  cases e0
  cases e1
  exact ⟨x0, ao, l, m, cap, rfl, hm, hh⟩
/-- Who takes what, that came in. -/
theorem open_wants {v : Value} {d : DataW H} {ps : List MemPlace} {b0 : Nat} (hv : Value.okWide Try.prog w .any b0 43 v) (h : DataW.Trod enc Try.prog w 0 (fun _ => true) true 43 v d ps) :
    ∃ ao ws n cap, v = .slice ao n cap ∧ n ≤ 9223372036854775807 ∧ HasW w ao n ws := by
  obtain ⟨a0, len, cap, rfl⟩ := okWide_slice Try.underlying43 hv
  obtain ⟨fuel, hf⟩ := h
  rcases DataW.trod_slice Try.underlying43 hf with ⟨hcs, hx⟩ | ⟨a, len', cap', elems, rest, n, _, hcs, _, hb, hl, hm, hlen, hel, _, _⟩
  · simp [Value.cells] at hcs
    obtain ⟨rfl, rfl, rfl⟩ := hcs
    exact ⟨none, [], 0, 0, rfl, by omega, ⟨rfl, fun i hi => absurd hi (by omega)⟩⟩
  · simp [Value.cells] at hcs
    obtain ⟨rfl, rfl, rfl⟩ := hcs
    have each : ∀ i, i < len → ∃ bl : Bool × List Int, w.cell? (a.add (i * 2)) = some (.bool bl.1) ∧ ∃ xo m c, w.cell? (a.add (i * 2 + 1)) = some (.slice xo m c) ∧ m ≤ 9223372036854775807 ∧ Has w xo m c bl.2 := by
      intro i hi
      have h := hel i hi
      rw [cellsWant, List.getElem?_eq_getElem (by omega), Option.bind_eq_some_iff] at h
      obtain ⟨cs, h1, h2⟩ := h
      obtain ⟨b, xo, l, m, c, rfl, hm, hh⟩ := want_cells h2
      have k0 := cells?_get h1 (i := 0) rfl
      have k1 := cells?_get h1 (i := 1) rfl
      rw [add_add] at k0 k1
      exact ⟨(b, l), by simpa using k0, xo, m, c, k1, hm, hh⟩
    obtain ⟨f, hf⟩ : ∃ f : Nat → Bool × List Int, ∀ i, i < len → w.cell? (a.add (i * 2)) = some (.bool (f i).1) ∧ ∃ xo m c, w.cell? (a.add (i * 2 + 1)) = some (.slice xo m c) ∧ m ≤ 9223372036854775807 ∧ Has w xo m c (f i).2 :=
      ⟨fun i => if h : i < len then (each i h).choose else (false, []), fun i hi => by simp only [dif_pos hi]; exact (each i hi).choose_spec⟩
    refine ⟨some a, (List.range len).map f, len, cap, rfl, by unfold maxLen at hm; omega, ⟨by simp, fun i hi => ⟨a, rfl, ?_⟩⟩⟩
    have e : ((List.range len).map f).getD i (false, []) = f i := by simp [List.getD, hi]
    rw [e]
    exact hf i hi
end
end Go.Proofs.Ytaihabkacjbfjaa.Gr
