/- What every law of this seat shares: the listed tables, opened; a capability that comes in, opened and shut. -/
import Derived.Test.YtgjkocbfpcgccaaDoorCards
import Derived.Test.YtgjkocbfpcgccaaDoorTie
import Derived.Test.YtgjkocbfpcgccaaDoorCpW7
import Derived.ProofKit
import Derived.OpenShut
import Derived.Deep.DeepHandedRow
import Derived.Lib.LaidTab
import Derived.Lib.LaidU8
import Derived.Lib.SmallJoins
import Derived.LaidMore
namespace Go.Proofs.YtgjkocbfpcgccaaDoor.Cp
open Go.ChangeShapes Go.WideShapes Go.ChangeAt Go.RowKit

theorem own : ownKnob Tryd.prog.godebug = none := by kernel_rfl
theorem laidOut : laidOutB Tryd.prog = true := by kernel_rfl
theorem cells3 : Tryd.prog.cellsOf 3 = 1 := by kernel_rfl
theorem cells9 : Tryd.prog.cellsOf 9 = 1 := by kernel_rfl
theorem cellsU64 : Tryd.prog.cellsOf 24 = 1 := by kernel_rfl
theorem cellsArr2 : Tryd.prog.cellsOf 51 = 2 := by kernel_rfl
theorem cellsArr4 : Tryd.prog.cellsOf 69 = 4 := by kernel_rfl
theorem cellsArr6 : Tryd.prog.cellsOf 58 = 6 := by kernel_rfl
theorem cellsArr6s : Tryd.prog.cellsOf 59 = 6 := by kernel_rfl
theorem cellsArr52 : Tryd.prog.cellsOf 52 = 10 := by kernel_rfl
theorem cellsPow : Tryd.prog.cellsOf 78 = 20 := by kernel_rfl
theorem gF : Tryd.prog.globalNamed "garrison/cap.fields" = some 0 := by kernel_rfl
theorem gM : Tryd.prog.globalNamed "garrison/cap.maxBadge" = some 1 := by kernel_rfl
theorem gN : Tryd.prog.globalNamed "garrison/cap.typeNames" = some 2 := by kernel_rfl
theorem gR : Tryd.prog.globalNamed "garrison/rights.inText" = some 3 := by kernel_rfl
theorem yF : (Tryd.prog.globals[0]?).map (·.type) = some 52 := by kernel_rfl
theorem yM : (Tryd.prog.globals[1]?).map (·.type) = some 58 := by kernel_rfl
theorem yN : (Tryd.prog.globals[2]?).map (·.type) = some 59 := by kernel_rfl
theorem yR : (Tryd.prog.globals[3]?).map (·.type) = some 69 := by kernel_rfl
theorem yP : (Tryd.prog.globals[4]?).map (·.type) = some 78 := by kernel_rfl

theorem u64_wf {x : Int} (h : (Lit.int .u64 x).wf = true) : U64 x := by
  have := bounds_u64 h
  exact ⟨by omega, by omega⟩
theorem block_of {W : World} {name : String} {g : Nat} {cs : Array Value} (hg : Tryd.prog.globalNamed name = some g) (h : W.var? Tryd.prog name = some cs) : ∃ (t : TypeId) (fr : Nat × Nat), W.heap[g]? = some (.cells cs t fr) := by
  unfold World.var? at h
  rw [hg, Option.bind_some] at h
  split at h
  · rename_i xs t fr hh
    have : xs = cs := Option.some.inj h
    subst this
    exact ⟨t, fr, hh⟩
  · cases h
theorem ints_of {W : World} {name : String} {g n : Nat} {t e : TypeId} {k : IntKind} {zs : List Int} (hg : Tryd.prog.globalNamed name = some g) (hy : (Tryd.prog.globals[g]?).map (·.type) = some t)
    (ht : Tryd.prog.underlying t = some (.array n e)) (he : Tryd.prog.underlying e = some (.int k)) (hce : Tryd.prog.cellsOf e = 1) (hct : Tryd.prog.cellsOf t = n)
    (h : Lib.VarReads Tryd.prog W name (Lib.tabData k zs)) : ∃ (t : TypeId) (fr : Nat × Nat), W.heap[g]? = some (.cells (zs.map (Value.int k)).toArray t fr) := by
  obtain ⟨g', t', cs, fuel, p, hg', hy', hv, hd⟩ := h
  obtain rfl := Option.some.inj (hg.symm.trans hg')
  obtain rfl := Option.some.inj (hy.symm.trans hy')
  have hc := Lib.cells_of_tab ht he hce hct hd
  have e : cs = (zs.map (Value.int k)).toArray := by rw [← hc]
  subst e
  exact block_of hg hv
theorem list10 {α : Type} {l : List α} (h : l.length = 10) : ∃ a b c d e f g i j k, l = [a, b, c, d, e, f, g, i, j, k] := by
  match l, h with
  | [a, b, c, d, e, f, g, i, j, k], _ => exact ⟨a, b, c, d, e, f, g, i, j, k, rfl⟩
theorem list6 {α : Type} {l : List α} (h : l.length = 6) : ∃ a b c d e f, l = [a, b, c, d, e, f] := by
  match l, h with
  | [a, b, c, d, e, f], _ => exact ⟨a, b, c, d, e, f, rfl⟩
theorem two_at {W : World} {cs : List Value} {ds : List (DataW Unit)} {p : List MemPlace} {fuel : Nat} (h : DataW.trod (fun _ => ()) Tryd.prog W 0 (fun _ => true) false fuel 52 cs = some (.agg ds, p))
    (i : Nat) (hi : i < 5) (a b : Int) (hd : ds[i]? = some (.agg [.lit (.int .i64 a), .lit (.int .i64 b)])) : (cs.drop (i * 2)).take 2 = [.int .i64 a, .int .i64 b] := by
  obtain ⟨fuel', d, q, h1, h2⟩ := Lib.array_elem Tryd.underlying52 h i hi
  rw [hd] at h1
  obtain rfl := Option.some.inj h1
  rw [cellsArr2] at h2
  exact Lib.cells_of_tab (zs := [a, b]) Tryd.underlying51 Tryd.underlying3 cells3 cellsArr2 h2
theorem str_at {W : World} {cs : List Value} {ds : List (DataW Unit)} {p : List MemPlace} {fuel : Nat} (h : DataW.trod (fun _ => ()) Tryd.prog W 0 (fun _ => true) false fuel 59 cs = some (.agg ds, p))
    (i : Nat) (hi : i < 6) (s : ByteArray) (hd : ds[i]? = some (.lit (.string s.data.toList))) : (cs.drop i).take 1 = [.string s] := by
  obtain ⟨fuel', d, q, h1, h2⟩ := Lib.array_elem Tryd.underlying59 h i hi
  rw [hd] at h1
  obtain rfl := Option.some.inj h1
  rw [cells9, Nat.mul_one] at h2
  obtain ⟨s', e, e2, _⟩ := DataW.trod_string Tryd.underlying9 h2
  rw [e]
  have : s'.data.toList = s.data.toList := by
    have := congrArg Prod.fst e2
    simpa using this.symm
  have hs : s' = s := by
    obtain ⟨⟨x⟩⟩ := s'
    obtain ⟨⟨y⟩⟩ := s
    simp at this
    rw [this]
  rw [hs]
theorem fields_of {W : World} (h : Lib.VarReads Tryd.prog W "garrison/cap.fields" Rows.laid_garrison_cap_fields) : ∃ (t : TypeId) (fr : Nat × Nat), W.heap[0]? = some (.cells fldCells t fr) := by
  obtain ⟨g', t', cs, fuel, p, hg', hy', hv, hd⟩ := h
  obtain rfl := Option.some.inj (gF.symm.trans hg')
  obtain rfl := Option.some.inj (yF.symm.trans hy')
  obtain ⟨xs, m, _, _, hl, _⟩ := DataW.trod_array Tryd.underlying52 hd
  rw [cellsArr52] at hl
  obtain ⟨x0, x1, x2, x3, x4, x5, x6, x7, x8, x9, hx⟩ := list10 hl
  have h0 := two_at hd 0 (by decide) 0 4 rfl
  have h1 := two_at hd 1 (by decide) 4 4 rfl
  have h2 := two_at hd 2 (by decide) 8 16 rfl
  have h3 := two_at hd 3 (by decide) 24 10 rfl
  have h4 := two_at hd 4 (by decide) 34 12 rfl
  rw [hx] at h0 h1 h2 h3 h4
  simp at h0 h1 h2 h3 h4
  have e : cs = fldCells := by
    apply Array.toList_inj.1
    rw [hx]
    simp [fldCells, h0, h1, h2, h3, h4]
  subst e
  exact block_of gF hv
theorem names_of {W : World} (h : Lib.VarReads Tryd.prog W "garrison/cap.typeNames" Rows.laid_garrison_cap_typeNames) : ∃ (t : TypeId) (fr : Nat × Nat), W.heap[2]? = some (.cells tnCells t fr) := by
  obtain ⟨g', t', cs, fuel, p, hg', hy', hv, hd⟩ := h
  obtain rfl := Option.some.inj (gN.symm.trans hg')
  obtain rfl := Option.some.inj (yN.symm.trans hy')
  obtain ⟨xs, m, _, _, hl, _⟩ := DataW.trod_array Tryd.underlying59 hd
  rw [cellsArr6s] at hl
  obtain ⟨x0, x1, x2, x3, x4, x5, hx⟩ := list6 hl
  have h0 := str_at hd 0 (by decide) (tyName 0) rfl
  have h1 := str_at hd 1 (by decide) (tyName 1) rfl
  have h2 := str_at hd 2 (by decide) (tyName 2) rfl
  have h3 := str_at hd 3 (by decide) (tyName 3) rfl
  have h4 := str_at hd 4 (by decide) (tyName 4) rfl
  have h5 := str_at hd 5 (by decide) (tyName 5) rfl
  rw [hx] at h0 h1 h2 h3 h4 h5
  simp at h0 h1 h2 h3 h4 h5
  have e : cs = tnCells := by
    apply Array.toList_inj.1
    rw [hx]
    simp [tnCells, h0, h1, h2, h3, h4, h5]
  subst e
  exact block_of gN hv

/-- WHAT A ROW's LIST GIVES: the tables lie as the program laid them. -/
theorem tabs_of {W : World} (h : laidMetH Tryd.prog [("garrison/rights.inText", Rows.laid_garrison_rights_inText), ("math/bits.deBruijn32tab", Rows.laid_math_bits_deBruijn32tab), ("math/bits.deBruijn64tab", Rows.laid_math_bits_deBruijn64tab), ("internal/strconv.uint64pow10", Rows.laid_internal_strconv_uint64pow10), ("garrison/cap.fields", Rows.laid_garrison_cap_fields), ("garrison/cap.maxBadge", Rows.laid_garrison_cap_maxBadge), ("garrison/cap.typeNames", Rows.laid_garrison_cap_typeNames)] W) : Tabs W := {
  f := fields_of (Lib.laidMet.reads h (.tail _ (.tail _ (.tail _ (.tail _ (.head _))))))
  m := ints_of (zs := [0, 0, 7, 0, 65535, 65535]) gM yM Tryd.underlying58 Tryd.underlying3 cells3 cellsArr6 (Lib.laidMet.reads h (.tail _ (.tail _ (.tail _ (.tail _ (.tail _ (.head _)))))))
  n := names_of (Lib.laidMet.reads h (.tail _ (.tail _ (.tail _ (.tail _ (.tail _ (.tail _ (.head _))))))))
  r := ints_of (zs := [1, 2, 4, 8]) gR yR Tryd.underlying69 Tryd.underlying3 cells3 cellsArr4 (Lib.laidMet.reads h (.head _))
  p := ints_of (zs := Lib.pow10Tab) gPow yP Tryd.underlying78 Tryd.underlying24 cellsU64 cellsPow (Lib.laidMet.reads h (.tail _ (.tail _ (.tail _ (.head _))))) }

/-! ### A capability by value -/
section
variable {H : Type} {enc : TypeId × Value → H} {w : World} {base : Nat} {spare : Nat → Bool} {held : Bool}
theorem array5 {α : Type} {cs : Array α} (h : cs.size = 5) : ∃ c0 c1 c2 c3 c4, cs = #[c0, c1, c2, c3, c4] := by
  obtain ⟨l⟩ := cs
  match l, h with
  | [c0, c1, c2, c3, c4], _ => exact ⟨c0, c1, c2, c3, c4, rfl⟩
theorem cellsCap : Tryd.prog.cellsOf 23 = 5 := by kernel_rfl
/-- The five numbers as data. -/
def dataK (c : K) : DataW H := .agg [.lit (.int .i64 c.t), .lit (.int .i64 c.r), .lit (.int .i64 c.b), .lit (.int .i64 c.o), .lit (.int .i64 c.g)]
theorem list5 {α : Type} {l : List α} (h : l.length = 5) : ∃ a b c d e, l = [a, b, c, d, e] := by
  match l, h with
  | [a, b, c, d, e], _ => exact ⟨a, b, c, d, e, rfl⟩
/-- Five numbers that an int holds. -/
structure WfK (c : K) : Prop where
  t : (Lit.int .i64 c.t).wf = true
  r : (Lit.int .i64 c.r).wf = true
  b : (Lit.int .i64 c.b).wf = true
  o : (Lit.int .i64 c.o).wf = true
  g : (Lit.int .i64 c.g).wf = true
theorem open_cap {v : Value} {d : DataW H} {p : List MemPlace} {r0 : Reach} {b0 : Nat} (hv : Value.okWide Tryd.prog w r0 b0 23 v) (h : DataW.Trod enc Tryd.prog w base spare held 23 v d p) :
    ∃ c : K, v = (.agg #[.int .i64 c.t, .int .i64 c.r, .int .i64 c.b, .int .i64 c.o, .int .i64 c.g]) ∧ d = dataK c ∧ p = [] ∧ WfK c := by
  obtain ⟨cs, rfl, hsz⟩ := okWide_struct Tryd.underlying23 hv
  obtain ⟨c0, c1, c2, c3, c4, rfl⟩ := array5 (hsz.trans cellsCap)
  obtain ⟨fuel, hf⟩ := h
  obtain ⟨xs, n, _, hx, hl, hlen, hall⟩ := DataW.trod_struct Tryd.underlying23 hf
  obtain ⟨y0, y1, y2, y3, y4, rfl⟩ := list5 hlen
  have h0 := hall 0 _ rfl
  have h1 := hall 1 _ rfl
  have h2 := hall 2 _ rfl
  have h3 := hall 3 _ rfl
  have h4 := hall 4 _ rfl
  simp [Value.cells, cells3] at h0 h1 h2 h3 h4
  obtain ⟨x0, e0, rfl, w0⟩ := DataW.trod_int Tryd.underlying3 h0
  obtain ⟨x1, e1, rfl, w1⟩ := DataW.trod_int Tryd.underlying3 h1
  obtain ⟨x2, e2, rfl, w2⟩ := DataW.trod_int Tryd.underlying3 h2
  obtain ⟨x3, e3, rfl, w3⟩ := DataW.trod_int Tryd.underlying3 h3
  obtain ⟨x4, e4, rfl, w4⟩ := DataW.trod_int Tryd.underlying3 h4
  cases e0
  cases e1
  cases e2
  cases e3
  cases e4
  simp only [Prod.mk.injEq] at hx
  exact ⟨⟨x0, x1, x2, x3, x4⟩, rfl, hx.1, hx.2, ⟨w0, w1, w2, w3, w4⟩⟩
theorem shut_cap {c : K} (h : WfK c) : DataW.Trod enc Tryd.prog w base spare held 23 (.agg #[.int .i64 c.t, .int .i64 c.r, .int .i64 c.b, .int .i64 c.o, .int .i64 c.g]) (dataK c) [] := by
  obtain ⟨h0, h1, h2, h3, h4⟩ := h
  have ts := trod_struct_mk (enc := enc) (w := w) (base := base) (spare := spare) (held := held) (n := 1) (cs := [.int .i64 c.t, .int .i64 c.r, .int .i64 c.b, .int .i64 c.o, .int .i64 c.g]) (xs := [(.lit (.int .i64 c.t), []), (.lit (.int .i64 c.r), []), (.lit (.int .i64 c.b), []), (.lit (.int .i64 c.o), []), (.lit (.int .i64 c.g), [])]) Tryd.underlying23 (by simp [cellsCap])
    (by simp [DataW.trod, Tryd.underlying3, cells3, h0, h1, h2, h3, h4])
  exact ⟨_, by simpa [Value.cells, dataK] using ts⟩
end
end Go.Proofs.YtgjkocbfpcgccaaDoor.Cp
