/- What every law of this seat shares: the listed tables, opened; calls and words that come in. -/
import Derived.Test.YtilannincbcgkaaDoorCards
import Derived.Test.YtilannincbcgkaaDoorTie
import Derived.Test.YtilannincbcgkaaDoorKlMem
import Derived.ProofKit
import Derived.OpenShut
import Derived.ChangeSlices
import Derived.Deep.DeepHandedRow
import Derived.Lib.LaidTab
import Derived.Lib.LaidU8
import Derived.LaidLaws
import Derived.LaidMore
import Derived.Lay
namespace Go.Proofs.YtilannincbcgkaaDoor.Kl
open Go.ChangeShapes Go.WideShapes Go.ChangeAt Go.RowKit

theorem own : ownKnob Tryd.prog.godebug = none := by kernel_rfl
theorem laidOut : laidOutB Tryd.prog = true := by kernel_rfl
theorem cellsInt : Tryd.prog.cellsOf 3 = 1 := by kernel_rfl
theorem cellsI64 : Tryd.prog.cellsOf 2 = 1 := by kernel_rfl
theorem cellsU64 : Tryd.prog.cellsOf 22 = 1 := by kernel_rfl
theorem cellsStr : Tryd.prog.cellsOf 9 = 1 := by kernel_rfl
theorem cellsCall : Tryd.prog.cellsOf 24 = 8 := by kernel_rfl
theorem cellsArr2 : Tryd.prog.cellsOf 49 = 2 := by kernel_rfl
theorem cellsArr52 : Tryd.prog.cellsOf 50 = 10 := by kernel_rfl
theorem cellsNames : Tryd.prog.cellsOf 58 = 13 := by kernel_rfl
theorem gF : Tryd.prog.globalNamed "garrison/call.fields" = some 0 := by kernel_rfl
theorem gN : Tryd.prog.globalNamed "garrison/call.names" = some 1 := by kernel_rfl
theorem yF : (Tryd.prog.globals[0]?).map (·.type) = some 50 := by kernel_rfl
theorem yN : (Tryd.prog.globals[1]?).map (·.type) = some 58 := by kernel_rfl
theorem u64_wf {x : Int} (h : (Lit.int .u64 x).wf = true) : U64 x := by
  have := bounds_u64 h
  exact ⟨by omega, by omega⟩
theorem block_of {W : World} {name : String} {g : Nat} {cs : Array Value} (hg : Tryd.prog.globalNamed name = some g) (h : W.var? Tryd.prog name = some cs) : ∃ (t : TypeId) (fr : Nat × Nat), W.heap[g]? = some (.cells cs t fr) := by
  unfold World.var? at h
  rw [hg, Option.bind_some] at h
  split at h
  · rename_i xs t fr hh
    have : xs = cs := Option.some.inj h
    subst this
    exact ⟨t, fr, hh⟩
  · cases h
theorem list10 {α : Type} {l : List α} (h : l.length = 10) : ∃ a b c d e f g i j k, l = [a, b, c, d, e, f, g, i, j, k] := by
  match l, h with
  | [a, b, c, d, e, f, g, i, j, k], _ => exact ⟨a, b, c, d, e, f, g, i, j, k, rfl⟩
theorem list13 {α : Type} {l : List α} (h : l.length = 13) : ∃ a b c d e f g h i j k m n, l = [a, b, c, d, e, f, g, h, i, j, k, m, n] := by
  match l, h with
  | [a, b, c, d, e, f, g, h, i, j, k, m, n], _ => exact ⟨a, b, c, d, e, f, g, h, i, j, k, m, n, rfl⟩
theorem two_at {W : World} {cs : List Value} {ds : List (DataW Unit)} {p : List MemPlace} {fuel : Nat} (h : DataW.trod (fun _ => ()) Tryd.prog W 0 (fun _ => true) false fuel 50 cs = some (.agg ds, p))
    (i : Nat) (hi : i < 5) (a b : Int) (hd : ds[i]? = some (.agg [.lit (.int .i64 a), .lit (.int .i64 b)])) : (cs.drop (i * 2)).take 2 = [.int .i64 a, .int .i64 b] := by
  obtain ⟨fuel', d, q, h1, h2⟩ := Lib.array_elem Tryd.underlying50 h i hi
  rw [hd] at h1
  obtain rfl := Option.some.inj h1
  rw [cellsArr2] at h2
  exact Lib.cells_of_tab (zs := [a, b]) Tryd.underlying49 Tryd.underlying3 cellsInt cellsArr2 h2
theorem str_at {W : World} {cs : List Value} {ds : List (DataW Unit)} {p : List MemPlace} {fuel : Nat} (h : DataW.trod (fun _ => ()) Tryd.prog W 0 (fun _ => true) false fuel 58 cs = some (.agg ds, p))
    (i : Nat) (hi : i < 13) (s : ByteArray) (hd : ds[i]? = some (.lit (.string s.data.toList))) : (cs.drop i).take 1 = [.string s] := by
  obtain ⟨fuel', d, q, h1, h2⟩ := Lib.array_elem Tryd.underlying58 h i hi
  rw [hd] at h1
  obtain rfl := Option.some.inj h1
  rw [cellsStr, Nat.mul_one] at h2
  obtain ⟨s', e, e2, _⟩ := DataW.trod_string Tryd.underlying9 h2
  rw [e]
  have : s'.data.toList = s.data.toList := by
    have := congrArg Prod.fst e2
    simpa using this.symm
  have hs : s' = s := by
    obtain ⟨⟨x⟩⟩ := s'
    obtain ⟨⟨y⟩⟩ := s
    simp at this
    rw [this]
  rw [hs]
theorem fields_of {W : World} (h : Lib.VarReads Tryd.prog W "garrison/call.fields" Rows.laid_garrison_call_fields) : ∃ (t : TypeId) (fr : Nat × Nat), W.heap[0]? = some (.cells fldCells t fr) := by
  obtain ⟨g', t', cs, fuel, p, hg', hy', hv, hd⟩ := h
  obtain rfl := Option.some.inj (gF.symm.trans hg')
  obtain rfl := Option.some.inj (yF.symm.trans hy')
  obtain ⟨xs, m, _, _, hl, _⟩ := DataW.trod_array Tryd.underlying50 hd
  rw [cellsArr52] at hl
  obtain ⟨x0, x1, x2, x3, x4, x5, x6, x7, x8, x9, hx⟩ := list10 hl
  have h0 := two_at hd 0 (by decide) 0 4 rfl
  have h1 := two_at hd 1 (by decide) 4 4 rfl
  have h2 := two_at hd 2 (by decide) 8 4 rfl
  have h3 := two_at hd 3 (by decide) 12 16 rfl
  have h4 := two_at hd 4 (by decide) 28 21 rfl
  rw [hx] at h0 h1 h2 h3 h4
  simp at h0 h1 h2 h3 h4
  have e : cs = fldCells := by
    apply Array.toList_inj.1
    rw [hx]
    simp [fldCells, h0, h1, h2, h3, h4]
  subst e
  exact block_of gF hv
theorem names_of {W : World} (h : Lib.VarReads Tryd.prog W "garrison/call.names" Rows.laid_garrison_call_names) : ∃ (t : TypeId) (fr : Nat × Nat), W.heap[1]? = some (.cells nmCells t fr) := by
  obtain ⟨g', t', cs, fuel, p, hg', hy', hv, hd⟩ := h
  obtain rfl := Option.some.inj (gN.symm.trans hg')
  obtain rfl := Option.some.inj (yN.symm.trans hy')
  obtain ⟨xs, m, _, _, hl, _⟩ := DataW.trod_array Tryd.underlying58 hd
  rw [cellsNames] at hl
  obtain ⟨x0, x1, x2, x3, x4, x5, x6, x7, x8, x9, x10, x11, x12, hx⟩ := list13 hl
  have h0 := str_at hd 0 (by decide) (nmS 0) rfl
  have h1 := str_at hd 1 (by decide) (nmS 1) rfl
  have h2 := str_at hd 2 (by decide) (nmS 2) rfl
  have h3 := str_at hd 3 (by decide) (nmS 3) rfl
  have h4 := str_at hd 4 (by decide) (nmS 4) rfl
  have h5 := str_at hd 5 (by decide) (nmS 5) rfl
  have h6 := str_at hd 6 (by decide) (nmS 6) rfl
  have h7 := str_at hd 7 (by decide) (nmS 7) rfl
  have h8 := str_at hd 8 (by decide) (nmS 8) rfl
  have h9 := str_at hd 9 (by decide) (nmS 9) rfl
  have h10 := str_at hd 10 (by decide) (nmS 10) rfl
  have h11 := str_at hd 11 (by decide) (nmS 11) rfl
  have h12 := str_at hd 12 (by decide) (nmS 12) rfl
  rw [hx] at h0 h1 h2 h3 h4 h5 h6 h7 h8 h9 h10 h11 h12
  simp at h0 h1 h2 h3 h4 h5 h6 h7 h8 h9 h10 h11 h12
  have e : cs = nmCells := by
    apply Array.toList_inj.1
    rw [hx]
    simp [nmCells, h0, h1, h2, h3, h4, h5, h6, h7, h8, h9, h10, h11, h12]
  subst e
  exact block_of gN hv
/-- WHAT A ROW's LIST GIVES: the tables lie as the program laid them. -/
theorem tabs_of {W : World} (h : laidMetH Tryd.prog [("garrison/call.fields", Rows.laid_garrison_call_fields), ("garrison/call.names", Rows.laid_garrison_call_names)] W) : Tabs W := {
  f := fields_of (Lib.laidMet.reads h (.head _))
  n := names_of (Lib.laidMet.reads h (.tail _ (.head _))) }

theorem list8 {α : Type} {l : List α} (h : l.length = 8) : ∃ a b c d e f g i, l = [a, b, c, d, e, f, g, i] := by
  match l, h with
  | [a, b, c, d, e, f, g, i], _ => exact ⟨a, b, c, d, e, f, g, i, rfl⟩
section
variable {H : Type} {enc : TypeId × Value → H} {w : World}
theorem call_cells {fuel : Nat} {cs : List Value} {x : DataW H × List MemPlace} (hf : DataW.trod enc Tryd.prog w 0 (fun _ => true) true fuel 24 cs = some x) : ∃ c : C, Wf c ∧ cs = [.int .i64 c.k, .int .u64 c.a, .int .u64 c.b, .int .i64 c.r, .int .i64 c.g, .int .i64 c.t, .int .i64 c.s, .int .i64 c.v] := by
  obtain ⟨xs, n, _, hx, hl, hlen, hall⟩ := DataW.trod_struct Tryd.underlying24 hf
  rw [cellsCall] at hl
  obtain ⟨c0, c1, c2, c3, c4, c5, c6, c7, rfl⟩ := list8 hl
  obtain ⟨y0, y1, y2, y3, y4, y5, y6, y7, rfl⟩ := list8 hlen
  have h0 := hall 0 _ rfl
  have h1 := hall 1 _ rfl
  have h2 := hall 2 _ rfl
  have h3 := hall 3 _ rfl
  have h4 := hall 4 _ rfl
  have h5 := hall 5 _ rfl
  have h6 := hall 6 _ rfl
  have h7 := hall 7 _ rfl
  simp [cellsInt] at h0 h3 h4 h5 h6
  simp [cellsU64] at h1 h2
  simp [cellsI64] at h7
  obtain ⟨x0, e0, _, _⟩ := DataW.trod_int Tryd.underlying3 h0
  obtain ⟨x1, e1, _, u1⟩ := DataW.trod_int Tryd.underlying22 h1
  obtain ⟨x2, e2, _, u2⟩ := DataW.trod_int Tryd.underlying22 h2
  obtain ⟨x3, e3, _, _⟩ := DataW.trod_int Tryd.underlying3 h3
  obtain ⟨x4, e4, _, _⟩ := DataW.trod_int Tryd.underlying3 h4
  obtain ⟨x5, e5, _, _⟩ := DataW.trod_int Tryd.underlying3 h5
  obtain ⟨x6, e6, _, _⟩ := DataW.trod_int Tryd.underlying3 h6
  obtain ⟨x7, e7, _, u7⟩ := DataW.trod_int Tryd.underlying2 h7
  cases e0; cases e1; cases e2; cases e3; cases e4; cases e5; cases e6; cases e7
  exact ⟨⟨x0, x1, x2, x3, x4, x5, x6, x7⟩, ⟨u64_wf u1, u64_wf u2, bounds_i64 u7⟩, rfl⟩
theorem agg_of {cs : Array Value} {l : List Value} (h : (Value.agg cs).cells.toList = l) : cs = l.toArray := by
  simp only [Value.cells] at h
  rw [← h]
/-- A call that came in. -/
theorem open_call {v : Value} {d : DataW H} {ps : List MemPlace} {b0 : Nat} (hv : Value.okWide Tryd.prog w .any b0 24 v) (h : DataW.Trod enc Tryd.prog w 0 (fun _ => true) true 24 v d ps) : ∃ c : C, Wf c ∧ v = (.agg #[.int .i64 c.k, .int .u64 c.a, .int .u64 c.b, .int .i64 c.r, .int .i64 c.g, .int .i64 c.t, .int .i64 c.s, .int .i64 c.v]) := by
  obtain ⟨cs, rfl, hsz⟩ := okWide_struct Tryd.underlying24 hv
  obtain ⟨fuel, hf⟩ := h
  obtain ⟨z, hz, e⟩ := call_cells hf
  exact ⟨z, hz, by rw [agg_of e]⟩
theorem words_cells {fuel : Nat} {cs : List Value} {x : DataW H × List MemPlace} (hf : DataW.trod enc Tryd.prog w 0 (fun _ => true) true fuel 25 cs = some x) :
    ∃ ao l n cap, cs = [.slice ao n cap] ∧ n ≤ 9223372036854775807 ∧ HasU w ao n cap l ∧ ∀ i ∈ l, U64 i := by
  rcases open_ints Tryd.underlying25 Tryd.underlying22 cellsU64 hf with ⟨rfl, hx⟩ | ⟨a, len', cap', zs, rfl, _, hl, hm, hz, hx, hcell, hwz⟩
  · exact ⟨none, [], 0, 0, rfl, by omega, hasU_nil w, fun i hi => by simp at hi⟩
  · simp only [if_true] at hz
    refine ⟨some a, zs.take len', len', cap', rfl, by unfold maxLen at hm; omega, ⟨by simp; omega, (fun h => by cases h), hl, ⟨fun j u hu => ⟨a, rfl, ?_⟩⟩⟩, fun i hi => u64_wf (hwz i (List.mem_of_mem_take hi))⟩
    have hj : j < len' := by have := (List.getElem?_eq_some_iff.1 hu).1; simp at this; omega
    rw [hcell j (by omega)]
    rw [vU_at _ j (by simp; omega)] at hu
    rw [← hu]
    simp [List.getD, hj]
/-- Words that came in. -/
theorem open_words {v : Value} {d : DataW H} {ps : List MemPlace} {b0 : Nat} (hv : Value.okWide Tryd.prog w .any b0 25 v) (h : DataW.Trod enc Tryd.prog w 0 (fun _ => true) true 25 v d ps) :
    ∃ ao n cap l, v = .slice ao n cap ∧ n ≤ 9223372036854775807 ∧ HasU w ao n cap l ∧ ∀ i ∈ l, U64 i := by
  obtain ⟨a0, len, cap, rfl⟩ := okWide_slice Tryd.underlying25 hv
  obtain ⟨fuel, hf⟩ := h
  obtain ⟨ao, l, n, c, e, h1, h2, h3⟩ := words_cells hf
  simp [Value.cells] at e
  obtain ⟨rfl, rfl, rfl⟩ := e
  exact ⟨_, _, _, l, rfl, h1, h2, h3⟩
end
end Go.Proofs.YtilannincbcgkaaDoor.Kl
