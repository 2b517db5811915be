/- What every law of this seat shares: exts, and lists of exts, that come in. -/
import Derived.Test.YteohoipkdjhllaaRows
import Derived.Test.YteohoipkdjhllaaCaLive
import Derived.ProofKit
import Derived.OpenShut
import Derived.ChangeSlices
namespace Go.Proofs.Yteohoipkdjhllaa.Ca
open Go.ChangeShapes Go.WideShapes Go.ChangeAt Go.RowKit

theorem own : ownKnob Try.prog.godebug = none := by kernel_rfl
theorem laidOut : laidOutB Try.prog = true := by kernel_rfl
theorem cellsInt : Try.prog.cellsOf 3 = 1 := by kernel_rfl
theorem cellsExt : Try.prog.cellsOf 23 = 2 := by kernel_rfl
section
variable {H : Type} {enc : TypeId × Value → H} {w : World} {base : Nat} {spare : Nat → Bool} {held : Bool}
theorem array2 {α : Type} {cs : Array α} (h : cs.size = 2) : ∃ c0 c1, cs = #[c0, c1] := by
  obtain ⟨l⟩ := cs
  match l, h with
  | [c0, c1], _ => exact ⟨c0, c1, rfl⟩
theorem list2 {α : Type} {l : List α} (h : l.length = 2) : ∃ a b, l = [a, b] := by
  match l, h with
  | [a, b], _ => exact ⟨a, b, rfl⟩
/-- The two numbers as data. -/
def dataX (c : X) : DataW H := .agg [.lit (.int .i64 c.1), .lit (.int .i64 c.2)]
/-- Two numbers that an int holds. -/
structure WfX (x : X) : Prop where
  o : (Lit.int .i64 x.1).wf = true
  s : (Lit.int .i64 x.2).wf = true
theorem ext_cells {fuel : Nat} {cs : List Value} {x : DataW H × List MemPlace} (hf : DataW.trod enc Try.prog w base spare held fuel 23 cs = some x) : ∃ c : X, cs = xC c ∧ x = (dataX c, []) ∧ WfX c := by
  obtain ⟨xs, n, _, hx, hl, hlen, hall⟩ := DataW.trod_struct Try.underlying23 hf
  rw [cellsExt] at hl
  obtain ⟨c0, c1, rfl⟩ := list2 hl
  obtain ⟨y0, y1, rfl⟩ := list2 hlen
  have h0 := hall 0 _ rfl
  have h1 := hall 1 _ rfl
  simp [cellsInt] at h0 h1
  obtain ⟨x0, e0, rfl, w0⟩ := DataW.trod_int Try.underlying3 h0
  obtain ⟨x1, e1, rfl, w1⟩ := DataW.trod_int Try.underlying3 h1
  cases e0
  cases e1
  exact ⟨(x0, x1), rfl, by simpa [dataX] using hx, ⟨w0, w1⟩⟩
theorem open_ext {v : Value} {d : DataW H} {p : List MemPlace} {r0 : Reach} {b0 : Nat} (hv : Value.okWide Try.prog w r0 b0 23 v) (h : DataW.Trod enc Try.prog w base spare held 23 v d p) :
    ∃ c : X, v = (.agg #[.int .i64 c.1, .int .i64 c.2]) ∧ d = dataX c ∧ p = [] ∧ WfX c := by
  obtain ⟨cs, rfl, hsz⟩ := okWide_struct Try.underlying23 hv
  obtain ⟨c0, c1, rfl⟩ := array2 (hsz.trans cellsExt)
  obtain ⟨fuel, hf⟩ := h
  obtain ⟨c, e, hx, hw⟩ := ext_cells hf
  simp [Value.cells, xC] at e
  obtain ⟨rfl, rfl⟩ := e
  simp only [Prod.mk.injEq] at hx
  exact ⟨c, rfl, hx.1, hx.2, hw⟩
theorem shut_ext {c : X} (h : WfX c) : DataW.Trod enc Try.prog w base spare held 23 (.agg #[.int .i64 c.1, .int .i64 c.2]) (dataX c) [] := by
  obtain ⟨h0, h1⟩ := h
  have ts := trod_struct_mk (enc := enc) (w := w) (base := base) (spare := spare) (held := held) (n := 1) (cs := [.int .i64 c.1, .int .i64 c.2]) (xs := [(.lit (.int .i64 c.1), []), (.lit (.int .i64 c.2), [])]) Try.underlying23 (by simp [cellsExt])
    (by simp [DataW.trod, Try.underlying3, cellsInt, h0, h1])
  exact ⟨_, by simpa [Value.cells, dataX] using ts⟩
theorem cells?_get {b n : Nat} {a : Addr} {cs : List Value} (h : w.cells? b a n = some cs) {i : Nat} {u : Value} (hu : cs[i]? = some u) : w.cell? (a.add i) = some u := by
  obtain ⟨_, hlen, hcell⟩ := World.cells?_some h
  have hi := (List.getElem?_eq_some_iff.1 hu).1
  rw [hcell i (by omega), hu]
/-- A list of exts that came in. -/
theorem open_exts {v : Value} {d : DataW H} {ps : List MemPlace} {b0 : Nat} (hv : Value.okWide Try.prog w .any b0 37 v) (h : DataW.Trod enc Try.prog w 0 (fun _ => true) true 37 v d ps) :
    ∃ ao l n cap, v = .slice ao n cap ∧ n ≤ 9223372036854775807 ∧ HasX w ao n cap l := by
  obtain ⟨a0, len, cap, rfl⟩ := okWide_slice Try.underlying37 hv
  obtain ⟨fuel, hf⟩ := h
  rcases DataW.trod_slice Try.underlying37 hf with ⟨hcs, hx⟩ | ⟨a, len', cap', elems, rest, n, _, hcs, _, hb, hl, hm, hlen, hel, _, _⟩
  · simp [Value.cells] at hcs
    obtain ⟨rfl, rfl, rfl⟩ := hcs
    exact ⟨none, [], 0, 0, rfl, by omega, ⟨rfl, fun _ => rfl, Nat.le_refl _, row_nil _ _⟩⟩
  · simp [Value.cells] at hcs
    obtain ⟨rfl, rfl, rfl⟩ := hcs
    have each : ∀ i, i < len → ∃ c : X, ∀ k u, (xC c)[k]? = some u → w.cell? (a.add (i * 2 + k)) = some u := by
      intro i hi
      have h := hel i hi
      rw [cellsExt, List.getElem?_eq_getElem (by omega), Option.bind_eq_some_iff] at h
      obtain ⟨cs, h1, h2⟩ := h
      obtain ⟨c, rfl, _, _⟩ := ext_cells h2
      refine ⟨c, fun k u hu => ?_⟩
      rw [← add_add]
      exact cells?_get h1 hu
    obtain ⟨f, hf⟩ : ∃ f : Nat → X, ∀ i, i < len → ∀ k u, (xC (f i))[k]? = some u → w.cell? (a.add (i * 2 + k)) = some u :=
      ⟨fun i => if h : i < len then (each i h).choose else (0, 0), fun i hi => by simp only [dif_pos hi]; exact (each i hi).choose_spec⟩
    refine ⟨some a, (List.range len).map f, len, cap, rfl, by unfold maxLen at hm; omega, ⟨by simp, (fun h => by cases h), by omega, ⟨fun j u hu => ⟨a, rfl, ?_⟩⟩⟩⟩
    obtain ⟨c, h1, h2⟩ := exts_get hu
    rw [List.getElem?_map, Option.map_eq_some_iff] at h1
    obtain ⟨i, h3, rfl⟩ := h1
    have h4 := List.getElem?_eq_some_iff.1 h3
    simp at h4
    obtain ⟨h5, rfl⟩ := h4
    have := hf _ h5 _ _ h2
    rwa [show j / 2 * 2 + j % 2 = j by omega] at this
theorem ints_cells {fuel : Nat} {cs : List Value} {x : DataW H × List MemPlace} (hf : DataW.trod enc Try.prog w 0 (fun _ => true) true fuel 36 cs = some x) :
    ∃ ao l n cap, cs = [.slice ao n cap] ∧ n ≤ 9223372036854775807 ∧ Has w ao n cap l := by
  rcases open_ints Try.underlying36 Try.underlying3 cellsInt hf with ⟨rfl, hx⟩ | ⟨a, len', cap', zs, rfl, _, hl, hm, hz, hx, hcell, hwz⟩
  · exact ⟨none, [], 0, 0, rfl, by omega, has_nil w⟩
  · simp only [if_true] at hz
    refine ⟨some a, zs.take len', len', cap', rfl, by unfold maxLen at hm; omega, ⟨by simp; omega, (fun h => by cases h), hl, ⟨fun j u hu => ⟨a, rfl, ?_⟩⟩⟩⟩
    have hj : j < len' := by have := (List.getElem?_eq_some_iff.1 hu).1; simp at this; omega
    rw [hcell j (by omega)]
    rw [vals_at _ j (by simp; omega)] at hu
    rw [← hu]
    simp [List.getD, hj]
/-- A list of numbers that came in. -/
theorem open_nums {v : Value} {d : DataW H} {ps : List MemPlace} {b0 : Nat} (hv : Value.okWide Try.prog w .any b0 36 v) (h : DataW.Trod enc Try.prog w 0 (fun _ => true) true 36 v d ps) :
    ∃ ao l n cap, v = .slice ao n cap ∧ n ≤ 9223372036854775807 ∧ Has w ao n cap l := by
  obtain ⟨a0, len, cap, rfl⟩ := okWide_slice Try.underlying36 hv
  obtain ⟨fuel, hf⟩ := h
  obtain ⟨ao, l, n, c, e, h1, h2⟩ := ints_cells hf
  simp [Value.cells] at e
  obtain ⟨rfl, rfl, rfl⟩ := e
  exact ⟨_, l, _, _, rfl, h1, h2⟩
end
end Go.Proofs.Yteohoipkdjhllaa.Ca
