/- What every law of this seat shares: steps, and lists of numbers and of steps, that come in. -/
import Derived.Test.YtadobkecdcnjkabRows
import Derived.Test.YtadobkecdcnjkabCeLive
import Derived.ProofKit
import Derived.OpenShut
import Derived.ChangeSlices
namespace Go.Proofs.Ytadobkecdcnjkab.Ce
open Go.ChangeShapes Go.WideShapes Go.ChangeAt Go.RowKit

theorem own : ownKnob Try.prog.godebug = none := by kernel_rfl
theorem laidOut : laidOutB Try.prog = true := by kernel_rfl
theorem cellsInt : Try.prog.cellsOf 3 = 1 := by kernel_rfl
theorem cellsI64 : Try.prog.cellsOf 2 = 1 := by kernel_rfl
theorem cellsOp : Try.prog.cellsOf 24 = 5 := by kernel_rfl

section
variable {H : Type} {enc : TypeId × Value → H} {w : World} {base : Nat} {spare : Nat → Bool} {held : Bool}
theorem array5 {α : Type} {cs : Array α} (h : cs.size = 5) : ∃ c0 c1 c2 c3 c4, cs = #[c0, c1, c2, c3, c4] := by
  obtain ⟨l⟩ := cs
  match l, h with
  | [c0, c1, c2, c3, c4], _ => exact ⟨c0, c1, c2, c3, c4, rfl⟩
theorem list5 {α : Type} {l : List α} (h : l.length = 5) : ∃ a b c d e, l = [a, b, c, d, e] := by
  match l, h with
  | [a, b, c, d, e], _ => exact ⟨a, b, c, d, e, rfl⟩
/-- The five numbers as data. -/
def dataO (c : O) : DataW H := .agg [.lit (.int .i64 c.k), .lit (.int .i64 c.c), .lit (.int .i64 c.a), .lit (.int .i64 c.v), .lit (.int .i64 c.w)]
/-- Five numbers that an int holds. -/
structure WfO (x : O) : Prop where
  k : (Lit.int .i64 x.k).wf = true
  c : (Lit.int .i64 x.c).wf = true
  a : (Lit.int .i64 x.a).wf = true
  v : (Lit.int .i64 x.v).wf = true
  w : (Lit.int .i64 x.w).wf = true
theorem op_cells {fuel : Nat} {cs : List Value} {x : DataW H × List MemPlace} (hf : DataW.trod enc Try.prog w base spare held fuel 24 cs = some x) : ∃ c : O, cs = opC c ∧ x = (dataO c, []) ∧ WfO c := by
  obtain ⟨xs, n, _, hx, hl, hlen, hall⟩ := DataW.trod_struct Try.underlying24 hf
  rw [cellsOp] at hl
  obtain ⟨c0, c1, c2, c3, c4, rfl⟩ := list5 hl
  obtain ⟨y0, y1, y2, y3, y4, rfl⟩ := list5 hlen
  have h0 := hall 0 _ rfl
  have h1 := hall 1 _ rfl
  have h2 := hall 2 _ rfl
  have h3 := hall 3 _ rfl
  have h4 := hall 4 _ rfl
  simp [cellsInt, cellsI64] at h0 h1 h2 h3 h4
  obtain ⟨x0, e0, rfl, w0⟩ := DataW.trod_int Try.underlying3 h0
  obtain ⟨x1, e1, rfl, w1⟩ := DataW.trod_int Try.underlying3 h1
  obtain ⟨x2, e2, rfl, w2⟩ := DataW.trod_int Try.underlying2 h2
  obtain ⟨x3, e3, rfl, w3⟩ := DataW.trod_int Try.underlying2 h3
  obtain ⟨x4, e4, rfl, w4⟩ := DataW.trod_int Try.underlying3 h4
  cases e0
  cases e1
  cases e2
  cases e3
  cases e4
  exact ⟨⟨x0, x1, x2, x3, x4⟩, rfl, by simpa [dataO] using hx, ⟨w0, w1, w2, w3, w4⟩⟩
theorem open_op {v : Value} {d : DataW H} {p : List MemPlace} {r0 : Reach} {b0 : Nat} (hv : Value.okWide Try.prog w r0 b0 24 v) (h : DataW.Trod enc Try.prog w base spare held 24 v d p) :
    ∃ c : O, v = (.agg #[.int .i64 c.k, .int .i64 c.c, .int .i64 c.a, .int .i64 c.v, .int .i64 c.w]) ∧ d = dataO c ∧ p = [] ∧ WfO c := by
  obtain ⟨cs, rfl, hsz⟩ := okWide_struct Try.underlying24 hv
  obtain ⟨c0, c1, c2, c3, c4, rfl⟩ := array5 (hsz.trans cellsOp)
  obtain ⟨fuel, hf⟩ := h
  obtain ⟨c, e, hx, hw⟩ := op_cells hf
  simp [Value.cells, opC] at e
  obtain ⟨rfl, rfl, rfl, rfl, rfl⟩ := e
  simp only [Prod.mk.injEq] at hx
  exact ⟨c, rfl, hx.1, hx.2, hw⟩
theorem shut_op {c : O} (h : WfO c) : DataW.Trod enc Try.prog w base spare held 24 (.agg #[.int .i64 c.k, .int .i64 c.c, .int .i64 c.a, .int .i64 c.v, .int .i64 c.w]) (dataO c) [] := by
  obtain ⟨h0, h1, h2, h3, h4⟩ := h
  have ts := trod_struct_mk (enc := enc) (w := w) (base := base) (spare := spare) (held := held) (n := 1) (cs := [.int .i64 c.k, .int .i64 c.c, .int .i64 c.a, .int .i64 c.v, .int .i64 c.w]) (xs := [(.lit (.int .i64 c.k), []), (.lit (.int .i64 c.c), []), (.lit (.int .i64 c.a), []), (.lit (.int .i64 c.v), []), (.lit (.int .i64 c.w), [])]) Try.underlying24 (by simp [cellsOp])
    (by simp [DataW.trod, Try.underlying3, Try.underlying2, cellsInt, cellsI64, h0, h1, h2, h3, h4])
  exact ⟨_, by simpa [Value.cells, dataO] using ts⟩
/-- A list of numbers that came in: it lies where the slice points. -/
theorem open_is {v : Value} {d : DataW H} {ps : List MemPlace} {b0 : Nat} (hv : Value.okWide Try.prog w .any b0 22 v) (h : DataW.Trod enc Try.prog w 0 (fun _ => true) true 22 v d ps) :
    ∃ ao l n cap, v = .slice ao n cap ∧ n = l.length ∧ n ≤ 9223372036854775807 ∧ (ao = none → cap = 0) ∧ Row w ao (vals l) := by
  obtain ⟨a0, len, cap, rfl⟩ := okWide_slice Try.underlying22 hv
  obtain ⟨fuel, hf⟩ := h
  rcases open_ints Try.underlying22 Try.underlying2 cellsI64 hf with ⟨hcs, hx⟩ | ⟨a, len', cap', zs, hcs, _, hl, hm, hz, hx, hcell, hwz⟩
  · simp [Value.cells] at hcs
    obtain ⟨rfl, rfl, rfl⟩ := hcs
    exact ⟨none, [], 0, 0, rfl, rfl, by omega, fun _ => rfl, row_nil _ _⟩
  · simp [Value.cells] at hcs
    obtain ⟨rfl, rfl, rfl⟩ := hcs
    simp only [if_true] at hz
    refine ⟨some a, zs.take len, len, cap, rfl, by simp; omega, by unfold maxLen at hm; omega, (fun h => by cases h), ⟨fun j u hu => ⟨a, rfl, ?_⟩⟩⟩
    have hj : j < len := by have := (List.getElem?_eq_some_iff.1 hu).1; simp at this; omega
    rw [hcell j (by omega)]
    rw [vals_at _ j (by simp; omega)] at hu
    rw [← hu]
    simp [List.getD, hj]
theorem ops_get {l : List O} {j : Nat} {u : Value} (h : (ops l)[j]? = some u) : ∃ c, l[j / 5]? = some c ∧ (opC c)[j % 5]? = some u := by
  have hj := (List.getElem?_eq_some_iff.1 h).1
  rw [len_ops] at hj
  have hd : j / 5 < l.length := by omega
  have := ops_at l (j / 5) (j % 5) (by omega) hd
  rw [show j / 5 * 5 + j % 5 = j by omega, h] at this
  exact ⟨l[j / 5], by simp, by rw [this]; simp [List.getD, hd]⟩
theorem cells?_get {b n : Nat} {a : Addr} {cs : List Value} (h : w.cells? b a n = some cs) {i : Nat} {u : Value} (hu : cs[i]? = some u) : w.cell? (a.add i) = some u := by
  obtain ⟨_, hlen, hcell⟩ := World.cells?_some h
  have hi := (List.getElem?_eq_some_iff.1 hu).1
  rw [hcell i (by omega), hu]
/-- A list of steps that came in. -/
theorem open_ops {v : Value} {d : DataW H} {ps : List MemPlace} {b0 : Nat} (hv : Value.okWide Try.prog w .any b0 32 v) (h : DataW.Trod enc Try.prog w 0 (fun _ => true) true 32 v d ps) :
    ∃ ao l n cap, v = .slice ao n cap ∧ n = l.length ∧ n ≤ 9223372036854775807 ∧ (ao = none → cap = 0) ∧ Row w ao (ops l) := by
  obtain ⟨a0, len, cap, rfl⟩ := okWide_slice Try.underlying32 hv
  obtain ⟨fuel, hf⟩ := h
  rcases DataW.trod_slice Try.underlying32 hf with ⟨hcs, hx⟩ | ⟨a, len', cap', elems, rest, n, _, hcs, _, hb, hl, hm, hlen, hel, _, _⟩
  · simp [Value.cells] at hcs
    obtain ⟨rfl, rfl, rfl⟩ := hcs
    exact ⟨none, [], 0, 0, rfl, rfl, by omega, fun _ => rfl, row_nil _ _⟩
  · simp [Value.cells] at hcs
    obtain ⟨rfl, rfl, rfl⟩ := hcs
    have each : ∀ i, i < len → ∃ c : O, ∀ k u, (opC c)[k]? = some u → w.cell? (a.add (i * 5 + k)) = some u := by
      intro i hi
      have h := hel i hi
      rw [cellsOp, List.getElem?_eq_getElem (by omega), Option.bind_eq_some_iff] at h
      obtain ⟨cs, h1, h2⟩ := h
      obtain ⟨c, rfl, _, _⟩ := op_cells h2
      refine ⟨c, fun k u hu => ?_⟩
      rw [← add_add]
      exact cells?_get h1 hu
    obtain ⟨f, hf⟩ : ∃ f : Nat → O, ∀ i, i < len → ∀ k u, (opC (f i))[k]? = some u → w.cell? (a.add (i * 5 + k)) = some u :=
      ⟨fun i => if h : i < len then (each i h).choose else O.zero, fun i hi => by simp only [dif_pos hi]; exact (each i hi).choose_spec⟩
    refine ⟨some a, (List.range len).map f, len, cap, rfl, by simp, by unfold maxLen at hm; omega, (fun h => by cases h), ⟨fun j u hu => ⟨a, rfl, ?_⟩⟩⟩
    obtain ⟨c, h1, h2⟩ := ops_get hu
    rw [List.getElem?_map, Option.map_eq_some_iff] at h1
    obtain ⟨i, h3, rfl⟩ := h1
    have h4 := List.getElem?_eq_some_iff.1 h3
    simp at h4
    obtain ⟨h5, rfl⟩ := h4
    have := hf _ h5 _ _ h2
    rwa [show j / 5 * 5 + j % 5 = j by omega] at this
end
end Go.Proofs.Ytadobkecdcnjkab.Ce
