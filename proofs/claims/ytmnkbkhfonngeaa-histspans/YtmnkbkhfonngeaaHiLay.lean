/- What every law of this seat shares: histories, acts, lists of acts, calls, replies, that come in (genlay18.py). -/
import Derived.Test.YtmnkbkhfonngeaaRows
import Derived.Test.YtmnkbkhfonngeaaHiMem
import Derived.ProofKit
import Derived.OpenShut
import Derived.ChangeSlices
namespace Go.Proofs.Ytmnkbkhfonngeaa.Hi
open Go.ChangeShapes Go.WideShapes Go.ChangeAt Go.RowKit

theorem own : ownKnob Try.prog.godebug = none := by kernel_rfl
theorem laidOut : laidOutB Try.prog = true := by kernel_rfl
theorem cellsInt : Try.prog.cellsOf 3 = 1 := by kernel_rfl
theorem cellsI64 : Try.prog.cellsOf 2 = 1 := by kernel_rfl
theorem cellsU64 : Try.prog.cellsOf 26 = 1 := by kernel_rfl
theorem cellsBool : Try.prog.cellsOf 4 = 1 := by kernel_rfl
theorem cellsErrno : Try.prog.cellsOf 29 = 1 := by kernel_rfl
theorem cellsCall : Try.prog.cellsOf 28 = 8 := by kernel_rfl
theorem cellsReply : Try.prog.cellsOf 31 = 4 := by kernel_rfl
theorem cellsSpan : Try.prog.cellsOf 50 = 15 := by kernel_rfl
theorem cellsDone : Try.prog.cellsOf 78 = 5 := by kernel_rfl
theorem cellsEvent : Try.prog.cellsOf 34 = 12 := by kernel_rfl
theorem cellsHist : Try.prog.cellsOf 25 = 2 := by kernel_rfl
theorem cellsAct : Try.prog.cellsOf 36 = 27 := by kernel_rfl
theorem cellsSpans : Try.prog.cellsOf 22 = 1 := by kernel_rfl
theorem cellsDones : Try.prog.cellsOf 32 = 1 := by kernel_rfl
theorem cellsEvents : Try.prog.cellsOf 23 = 1 := by kernel_rfl
theorem list2 {α : Type} {l : List α} (h : l.length = 2) : ∃ x0 x1, l = [x0, x1] := by
  match l, h with
  | [x0, x1], _ => exact ⟨x0, x1, rfl⟩
theorem list4 {α : Type} {l : List α} (h : l.length = 4) : ∃ x0 x1 x2 x3, l = [x0, x1, x2, x3] := by
  match l, h with
  | [x0, x1, x2, x3], _ => exact ⟨x0, x1, x2, x3, rfl⟩
theorem list5 {α : Type} {l : List α} (h : l.length = 5) : ∃ x0 x1 x2 x3 x4, l = [x0, x1, x2, x3, x4] := by
  match l, h with
  | [x0, x1, x2, x3, x4], _ => exact ⟨x0, x1, x2, x3, x4, rfl⟩
theorem list6 {α : Type} {l : List α} (h : l.length = 6) : ∃ x0 x1 x2 x3 x4 x5, l = [x0, x1, x2, x3, x4, x5] := by
  match l, h with
  | [x0, x1, x2, x3, x4, x5], _ => exact ⟨x0, x1, x2, x3, x4, x5, rfl⟩
theorem list8 {α : Type} {l : List α} (h : l.length = 8) : ∃ x0 x1 x2 x3 x4 x5 x6 x7, l = [x0, x1, x2, x3, x4, x5, x6, x7] := by
  match l, h with
  | [x0, x1, x2, x3, x4, x5, x6, x7], _ => exact ⟨x0, x1, x2, x3, x4, x5, x6, x7, rfl⟩
theorem list12 {α : Type} {l : List α} (h : l.length = 12) : ∃ x0 x1 x2 x3 x4 x5 x6 x7 x8 x9 x10 x11, l = [x0, x1, x2, x3, x4, x5, x6, x7, x8, x9, x10, x11] := by
  match l, h with
  | [x0, x1, x2, x3, x4, x5, x6, x7, x8, x9, x10, x11], _ => exact ⟨x0, x1, x2, x3, x4, x5, x6, x7, x8, x9, x10, x11, rfl⟩
theorem list15 {α : Type} {l : List α} (h : l.length = 15) : ∃ x0 x1 x2 x3 x4 x5 x6 x7 x8 x9 x10 x11 x12 x13 x14, l = [x0, x1, x2, x3, x4, x5, x6, x7, x8, x9, x10, x11, x12, x13, x14] := by
  match l, h with
  | [x0, x1, x2, x3, x4, x5, x6, x7, x8, x9, x10, x11, x12, x13, x14], _ => exact ⟨x0, x1, x2, x3, x4, x5, x6, x7, x8, x9, x10, x11, x12, x13, x14, rfl⟩
theorem list27 {α : Type} {l : List α} (h : l.length = 27) : ∃ x0 x1 x2 x3 x4 x5 x6 x7 x8 x9 x10 x11 x12 x13 x14 x15 x16 x17 x18 x19 x20 x21 x22 x23 x24 x25 x26, l = [x0, x1, x2, x3, x4, x5, x6, x7, x8, x9, x10, x11, x12, x13, x14, x15, x16, x17, x18, x19, x20, x21, x22, x23, x24, x25, x26] := by
  match l, h with
  | [x0, x1, x2, x3, x4, x5, x6, x7, x8, x9, x10, x11, x12, x13, x14, x15, x16, x17, x18, x19, x20, x21, x22, x23, x24, x25, x26], _ => exact ⟨x0, x1, x2, x3, x4, x5, x6, x7, x8, x9, x10, x11, x12, x13, x14, x15, x16, x17, x18, x19, x20, x21, x22, x23, x24, x25, x26, rfl⟩
section
variable {H : Type} {enc : TypeId × Value → H} {w : World}
theorem cells?_get {b n : Nat} {a : Addr} {cs : List Value} (h : w.cells? b a n = some cs) {i : Nat} {u : Value} (hu : cs[i]? = some u) : w.cell? (a.add i) = some u := by
  obtain ⟨_, hlen, hcell⟩ := World.cells?_some h
  have hi := (List.getElem?_eq_some_iff.1 hu).1
  rw [hcell i (by omega), hu]
/-- Parts that lie one behind the other are a row. -/
theorem rows_of {α : Type} {F : α → List Value} {m : Nat} (hF : ∀ a, (F a).length = m) (hm : 0 < m) (z : α) (P : α → Prop) {a : Addr} {len : Nat} (each : ∀ i, i < len → ∃ t, (∀ j u, (F t)[j]? = some u → w.cell? (a.add (i * m + j)) = some u) ∧ P t) :
    ∃ l : List α, l.length = len ∧ Row w (some a) (l.flatMap F) ∧ ∀ t ∈ l, P t := by
  obtain ⟨f, hf⟩ : ∃ f : Nat → α, ∀ i, i < len → (∀ j u, (F (f i))[j]? = some u → w.cell? (a.add (i * m + j)) = some u) ∧ P (f i) :=
    ⟨fun i => if h : i < len then (each i h).choose else z, fun i hi => by simp only [dif_pos hi]; exact (each i hi).choose_spec⟩
  refine ⟨(List.range len).map f, by simp, ⟨fun j u hu => ⟨a, rfl, ?_⟩⟩, fun t ht => ?_⟩
  · have hj := (List.getElem?_eq_some_iff.1 hu).1
    rw [fm_len F m hF] at hj
    simp only [List.length_map, List.length_range] at hj
    have hq : j / m < len := by
      rcases Nat.lt_or_ge (j / m) len with h | h
      · exact h
      · have h1 := Nat.div_mul_le_self j m
        have h2 := Nat.mul_le_mul_right m h
        omega
    have e : j = (j / m) * m + j % m := by rw [Nat.mul_comm]; exact (Nat.div_add_mod j m).symm
    have e2 := fm_at F m hF ((List.range len).map f) z (j / m) (j % m) (Nat.mod_lt _ hm) (by simpa using hq)
    rw [← e, hu, show ((List.range len).map f).getD (j / m) z = f (j / m) by simp [List.getD, hq]] at e2
    have := (hf (j / m) hq).1 (j % m) u e2.symm
    rwa [← e] at this
  · simp only [List.mem_map, List.mem_range] at ht
    obtain ⟨i, hi, rfl⟩ := ht
    exact (hf i hi).2
theorem call_cells {fuel : Nat} {cs : List Value} {x : DataW H × List MemPlace} (hf : DataW.trod enc Try.prog w 0 (fun _ => true) true fuel 28 cs = some x) : ∃ t : C, cs = cC t := by
  obtain ⟨xs, n, _, hx, hl, hlen, hall⟩ := DataW.trod_struct Try.underlying28 hf
  rw [cellsCall] at hl
  obtain ⟨c0, c1, c2, c3, c4, c5, c6, c7, rfl⟩ := list8 hl
  obtain ⟨y0, y1, y2, y3, y4, y5, y6, y7, rfl⟩ := list8 hlen
  have h0 := hall 0 _ rfl
  have h1 := hall 1 _ rfl
  have h2 := hall 2 _ rfl
  have h3 := hall 3 _ rfl
  have h4 := hall 4 _ rfl
  have h5 := hall 5 _ rfl
  have h6 := hall 6 _ rfl
  have h7 := hall 7 _ rfl
  simp [cellsI64, cellsInt, cellsU64] at h0 h1 h2 h3 h4 h5 h6 h7
  obtain ⟨x0, e0, _, _⟩ := DataW.trod_int Try.underlying3 h0
  obtain ⟨x1, e1, _, _⟩ := DataW.trod_int Try.underlying26 h1
  obtain ⟨x2, e2, _, _⟩ := DataW.trod_int Try.underlying26 h2
  obtain ⟨x3, e3, _, _⟩ := DataW.trod_int Try.underlying3 h3
  obtain ⟨x4, e4, _, _⟩ := DataW.trod_int Try.underlying3 h4
  obtain ⟨x5, e5, _, _⟩ := DataW.trod_int Try.underlying3 h5
  obtain ⟨x6, e6, _, _⟩ := DataW.trod_int Try.underlying3 h6
  obtain ⟨x7, e7, _, _⟩ := DataW.trod_int Try.underlying2 h7
  cases e0; cases e1; cases e2; cases e3; cases e4; cases e5; cases e6; cases e7
  exact ⟨⟨x0, x1, x2, x3, x4, x5, x6, x7⟩, rfl⟩
theorem reply_cells {fuel : Nat} {cs : List Value} {x : DataW H × List MemPlace} (hf : DataW.trod enc Try.prog w 0 (fun _ => true) true fuel 31 cs = some x) : ∃ t : Rp, cs = rC t := by
  obtain ⟨xs, n, _, hx, hl, hlen, hall⟩ := DataW.trod_struct Try.underlying31 hf
  rw [cellsReply] at hl
  obtain ⟨c0, c1, c2, c3, rfl⟩ := list4 hl
  obtain ⟨y0, y1, y2, y3, rfl⟩ := list4 hlen
  have h0 := hall 0 _ rfl
  have h1 := hall 1 _ rfl
  have h2 := hall 2 _ rfl
  have h3 := hall 3 _ rfl
  simp [cellsBool, cellsErrno, cellsI64, cellsInt] at h0 h1 h2 h3
  obtain ⟨x0, e0, _, _⟩ := DataW.trod_int Try.underlying29 h0
  obtain ⟨x1, e1, _, _⟩ := DataW.trod_int Try.underlying2 h1
  obtain ⟨x2, e2, _, _⟩ := DataW.trod_int Try.underlying3 h2
  obtain ⟨x3, e3, _⟩ := DataW.trod_bool Try.underlying4 h3
  cases e0; cases e1; cases e2; cases e3
  exact ⟨⟨x0, x1, x2, x3⟩, rfl⟩
theorem span_cells {fuel : Nat} {cs : List Value} {x : DataW H × List MemPlace} (hf : DataW.trod enc Try.prog w 0 (fun _ => true) true fuel 50 cs = some x) : ∃ t : Sp, cs = spC t := by
  obtain ⟨xs, n, _, hx, hl, hlen, hall⟩ := DataW.trod_struct Try.underlying50 hf
  rw [cellsSpan] at hl
  obtain ⟨c0, c1, c2, c3, c4, c5, c6, c7, c8, c9, c10, c11, c12, c13, c14, rfl⟩ := list15 hl
  obtain ⟨y0, y1, y2, y3, y4, rfl⟩ := list5 hlen
  have h0 := hall 0 _ rfl
  have h1 := hall 1 _ rfl
  have h2 := hall 2 _ rfl
  have h3 := hall 3 _ rfl
  have h4 := hall 4 _ rfl
  simp [cellsCall, cellsInt, cellsReply] at h0 h1 h2 h3 h4
  obtain ⟨x0, e0, _, _⟩ := DataW.trod_int Try.underlying3 h0
  obtain ⟨x1, e1⟩ := call_cells h1
  obtain ⟨x2, e2, _, _⟩ := DataW.trod_int Try.underlying3 h2
  obtain ⟨x3, e3, _, _⟩ := DataW.trod_int Try.underlying3 h3
  obtain ⟨x4, e4⟩ := reply_cells h4
  cases e0; cases e1; cases e2; cases e3; cases e4
  exact ⟨⟨x0, x1, x2, x3, x4⟩, rfl⟩
theorem done_cells {fuel : Nat} {cs : List Value} {x : DataW H × List MemPlace} (hf : DataW.trod enc Try.prog w 0 (fun _ => true) true fuel 78 cs = some x) : ∃ t : Dn, cs = dnC t := by
  obtain ⟨xs, n, _, hx, hl, hlen, hall⟩ := DataW.trod_struct Try.underlying78 hf
  rw [cellsDone] at hl
  obtain ⟨c0, c1, c2, c3, c4, rfl⟩ := list5 hl
  obtain ⟨y0, y1, rfl⟩ := list2 hlen
  have h0 := hall 0 _ rfl
  have h1 := hall 1 _ rfl
  simp [cellsInt, cellsReply] at h0 h1
  obtain ⟨x0, e0, _, _⟩ := DataW.trod_int Try.underlying3 h0
  obtain ⟨x1, e1⟩ := reply_cells h1
  cases e0; cases e1
  exact ⟨⟨x0, x1⟩, rfl⟩
theorem dones_cells {fuel : Nat} {cs : List Value} {x : DataW H × List MemPlace} (hf : DataW.trod enc Try.prog w 0 (fun _ => true) true fuel 32 cs = some x) : ∃ ao l n cap, cs = [.slice ao n cap] ∧ HasD w ⟨ao, n, cap⟩ l := by
  rcases DataW.trod_slice Try.underlying32 hf with ⟨hcs, hx⟩ | ⟨a, len', cap', elems, rest, n, _, hcs, _, hb, hl, hm, hlen, hel, _, _⟩
  · exact ⟨none, [], 0, 0, hcs, hasL_nil _ w⟩
  · have each : ∀ i, i < len' → ∃ t : Dn, (∀ j u, (dnC t)[j]? = some u → w.cell? (a.add (i * 5 + j)) = some u) ∧ True := by
      intro i hi
      have h := hel i hi
      rw [cellsDone, List.getElem?_eq_getElem (by omega), Option.bind_eq_some_iff] at h
      obtain ⟨cs, h1, h2⟩ := h
      obtain ⟨t, rfl⟩ := done_cells h2
      refine ⟨t, fun j u hu => ?_, trivial⟩
      have k0 := cells?_get h1 hu
      rwa [add_add] at k0
    obtain ⟨l, hll, hr, hp⟩ := rows_of dnC_len (by decide) d0 (fun t => True) each
    exact ⟨some a, l, len', cap', hcs, ⟨hll.symm, (fun h => by cases h), hl, hr⟩⟩
theorem spans_cells {fuel : Nat} {cs : List Value} {x : DataW H × List MemPlace} (hf : DataW.trod enc Try.prog w 0 (fun _ => true) true fuel 22 cs = some x) : ∃ ao l n cap, cs = [.slice ao n cap] ∧ HasS w ⟨ao, n, cap⟩ l := by
  rcases DataW.trod_slice Try.underlying22 hf with ⟨hcs, hx⟩ | ⟨a, len', cap', elems, rest, n, _, hcs, _, hb, hl, hm, hlen, hel, _, _⟩
  · exact ⟨none, [], 0, 0, hcs, hasL_nil _ w⟩
  · have each : ∀ i, i < len' → ∃ t : Sp, (∀ j u, (spC t)[j]? = some u → w.cell? (a.add (i * 15 + j)) = some u) ∧ True := by
      intro i hi
      have h := hel i hi
      rw [cellsSpan, List.getElem?_eq_getElem (by omega), Option.bind_eq_some_iff] at h
      obtain ⟨cs, h1, h2⟩ := h
      obtain ⟨t, rfl⟩ := span_cells h2
      refine ⟨t, fun j u hu => ?_, trivial⟩
      have k0 := cells?_get h1 hu
      rwa [add_add] at k0
    obtain ⟨l, hll, hr, hp⟩ := rows_of spC_len (by decide) s0 (fun t => True) each
    exact ⟨some a, l, len', cap', hcs, ⟨hll.symm, (fun h => by cases h), hl, hr⟩⟩
theorem event_cells {fuel : Nat} {cs : List Value} {x : DataW H × List MemPlace} (hf : DataW.trod enc Try.prog w 0 (fun _ => true) true fuel 34 cs = some x) : ∃ (t : Ev) (u : Hd), cs = evC (t, u) ∧ HasD w u t.l := by
  obtain ⟨xs, n, _, hx, hl, hlen, hall⟩ := DataW.trod_struct Try.underlying34 hf
  rw [cellsEvent] at hl
  obtain ⟨c0, c1, c2, c3, c4, c5, c6, c7, c8, c9, c10, c11, rfl⟩ := list12 hl
  obtain ⟨y0, y1, y2, y3, y4, rfl⟩ := list5 hlen
  have h0 := hall 0 _ rfl
  have h1 := hall 1 _ rfl
  have h2 := hall 2 _ rfl
  have h3 := hall 3 _ rfl
  have h4 := hall 4 _ rfl
  simp [cellsCall, cellsDones, cellsInt] at h0 h1 h2 h3 h4
  obtain ⟨x0, e0, _, _⟩ := DataW.trod_int Try.underlying3 h0
  obtain ⟨x1, e1, _, _⟩ := DataW.trod_int Try.underlying3 h1
  obtain ⟨x2, e2⟩ := call_cells h2
  obtain ⟨x3, e3, _, _⟩ := DataW.trod_int Try.underlying3 h3
  obtain ⟨ao, x4, m, cp, e4, HH⟩ := dones_cells h4
  cases e0; cases e1; cases e2; cases e3; cases e4
  exact ⟨⟨x0, x1, x2, x3, x4⟩, ⟨ao, m, cp⟩, rfl, HH⟩
theorem events_cells {fuel : Nat} {cs : List Value} {x : DataW H × List MemPlace} (hf : DataW.trod enc Try.prog w 0 (fun _ => true) true fuel 23 cs = some x) : ∃ ao l n cap, cs = [.slice ao n cap] ∧ HasX w ⟨ao, n, cap⟩ l := by
  rcases DataW.trod_slice Try.underlying23 hf with ⟨hcs, hx⟩ | ⟨a, len', cap', elems, rest, n, _, hcs, _, hb, hl, hm, hlen, hel, _, _⟩
  · exact ⟨none, [], 0, 0, hcs, ⟨hasL_nil _ w, fun x hx => by cases hx⟩⟩
  · have each : ∀ i, i < len' → ∃ t : Ev × Hd, (∀ j u, (evC t)[j]? = some u → w.cell? (a.add (i * 12 + j)) = some u) ∧ HasD w t.2 t.1.l := by
      intro i hi
      have h := hel i hi
      rw [cellsEvent, List.getElem?_eq_getElem (by omega), Option.bind_eq_some_iff] at h
      obtain ⟨cs, h1, h2⟩ := h
      obtain ⟨t, u9, rfl, hp9⟩ := event_cells h2
      refine ⟨(t, u9), fun j u hu => ?_, hp9⟩
      have k0 := cells?_get h1 hu
      rwa [add_add] at k0
    obtain ⟨l, hll, hr, hp⟩ := rows_of evC_len (by decide) (e0, nilH) (fun t => HasD w t.2 t.1.l) each
    exact ⟨some a, l, len', cap', hcs, ⟨⟨hll.symm, (fun h => by cases h), hl, hr⟩, hp⟩⟩
theorem act_cells {fuel : Nat} {cs : List Value} {x : DataW H × List MemPlace} (hf : DataW.trod enc Try.prog w 0 (fun _ => true) true fuel 36 cs = some x) : ∃ (t : Ac) (u : Hd), cs = acC (t, u) ∧ HasD w u t.e.l := by
  obtain ⟨xs, n, _, hx, hl, hlen, hall⟩ := DataW.trod_struct Try.underlying36 hf
  rw [cellsAct] at hl
  obtain ⟨c0, c1, c2, c3, c4, c5, c6, c7, c8, c9, c10, c11, c12, c13, c14, c15, c16, c17, c18, c19, c20, c21, c22, c23, c24, c25, c26, rfl⟩ := list27 hl
  obtain ⟨y0, y1, y2, y3, y4, y5, rfl⟩ := list6 hlen
  have h0 := hall 0 _ rfl
  have h1 := hall 1 _ rfl
  have h2 := hall 2 _ rfl
  have h3 := hall 3 _ rfl
  have h4 := hall 4 _ rfl
  have h5 := hall 5 _ rfl
  simp [cellsCall, cellsEvent, cellsInt, cellsReply] at h0 h1 h2 h3 h4 h5
  obtain ⟨x0, e0, _, _⟩ := DataW.trod_int Try.underlying3 h0
  obtain ⟨x1, e1, _, _⟩ := DataW.trod_int Try.underlying3 h1
  obtain ⟨x2, e2, _, _⟩ := DataW.trod_int Try.underlying3 h2
  obtain ⟨x3, e3⟩ := call_cells h3
  obtain ⟨x4, e4⟩ := reply_cells h4
  obtain ⟨x5, u, e5, HH⟩ := event_cells h5
  cases e0; cases e1; cases e2; cases e3; cases e4; cases e5
  exact ⟨⟨x0, x1, x2, x3, x4, x5⟩, u, rfl, HH⟩
/-- A list of acts that lies somewhere, and all their replies. -/
structure HasZ (w : World) (y : Hd) (l : List (Ac × Hd)) : Prop where
  has : HasL acC w y l
  each : ∀ x ∈ l, HasD w x.2 x.1.e.l
theorem HasZ.below {w w' : World} {y : Hd} {l : List (Ac × Hd)} (h : HasZ w y l) (b : Below w.heap.size w w') : HasZ w' y l := ⟨h.has.below b, fun x hx => (h.each x hx).below b⟩
theorem acts_cells {fuel : Nat} {cs : List Value} {x : DataW H × List MemPlace} (hf : DataW.trod enc Try.prog w 0 (fun _ => true) true fuel 47 cs = some x) : ∃ ao l n cap, cs = [.slice ao n cap] ∧ HasZ w ⟨ao, n, cap⟩ l := by
  rcases DataW.trod_slice Try.underlying47 hf with ⟨hcs, hx⟩ | ⟨a, len', cap', elems, rest, n, _, hcs, _, hb, hl, hm, hlen, hel, _, _⟩
  · exact ⟨none, [], 0, 0, hcs, ⟨hasL_nil _ w, fun x hx => by cases hx⟩⟩
  · have each : ∀ i, i < len' → ∃ t : Ac × Hd, (∀ j u, (acC t)[j]? = some u → w.cell? (a.add (i * 27 + j)) = some u) ∧ HasD w t.2 t.1.e.l := by
      intro i hi
      have h := hel i hi
      rw [cellsAct, List.getElem?_eq_getElem (by omega), Option.bind_eq_some_iff] at h
      obtain ⟨cs, h1, h2⟩ := h
      obtain ⟨t, u9, rfl, hp9⟩ := act_cells h2
      refine ⟨(t, u9), fun j u hu => ?_, hp9⟩
      have k0 := cells?_get h1 hu
      rwa [add_add] at k0
    obtain ⟨l, hll, hr, hp⟩ := rows_of acC_len (by decide) (a0, nilH) (fun t => HasD w t.2 t.1.e.l) each
    exact ⟨some a, l, len', cap', hcs, ⟨⟨hll.symm, (fun h => by cases h), hl, hr⟩, hp⟩⟩
theorem agg_of {cs : Array Value} {l : List Value} (h : (Value.agg cs).cells.toList = l) : cs = l.toArray := by
  simp only [Value.cells] at h
  rw [← h]
theorem slice_of {a0 : Option Addr} {len cap : Nat} {l : List Value} (h : (Value.slice a0 len cap).cells.toList = l) : l = [.slice a0 len cap] := by
  rw [← h]; rfl
theorem open_acts {v : Value} {d : DataW H} {ps : List MemPlace} {b0 : Nat} (hv : Value.okWide Try.prog w .any b0 47 v) (h : DataW.Trod enc Try.prog w 0 (fun _ => true) true 47 v d ps) :
    ∃ (y : Hd) (l : List (Ac × Hd)), v = .slice y.o y.n y.c ∧ HasZ w y l := by
  obtain ⟨a0, len, cap, rfl⟩ := okWide_slice Try.underlying47 hv
  obtain ⟨fuel, hf⟩ := h
  obtain ⟨ao, l, n, c, e, hh⟩ := acts_cells hf
  rw [slice_of rfl] at e
  cases e
  exact ⟨⟨_, _, _⟩, l, rfl, hh⟩
theorem open_call {v : Value} {d : DataW H} {ps : List MemPlace} {b0 : Nat} (hv : Value.okWide Try.prog w .any b0 28 v) (h : DataW.Trod enc Try.prog w 0 (fun _ => true) true 28 v d ps) : ∃ k : C, v = (.agg #[.int .i64 k.k, .int .u64 k.a, .int .u64 k.b, .int .i64 k.r, .int .i64 k.g, .int .i64 k.t, .int .i64 k.s, .int .i64 k.v]) := by
  obtain ⟨cs, rfl, hsz⟩ := okWide_struct Try.underlying28 hv
  obtain ⟨fuel, hf⟩ := h
  obtain ⟨z, e⟩ := call_cells hf
  exact ⟨z, by rw [agg_of e]; rfl⟩
theorem open_reply {v : Value} {d : DataW H} {ps : List MemPlace} {b0 : Nat} (hv : Value.okWide Try.prog w .any b0 31 v) (h : DataW.Trod enc Try.prog w 0 (fun _ => true) true 31 v d ps) : ∃ k : Rp, v = (.agg #[.int .i64 k.e, .int .i64 k.v, .int .i64 k.b, .bool k.t]) := by
  obtain ⟨cs, rfl, hsz⟩ := okWide_struct Try.underlying31 hv
  obtain ⟨fuel, hf⟩ := h
  obtain ⟨z, e⟩ := reply_cells hf
  exact ⟨z, by rw [agg_of e]; rfl⟩
theorem open_hact {v : Value} {d : DataW H} {ps : List MemPlace} {b0 : Nat} (hv : Value.okWide Try.prog w .any b0 36 v) (h : DataW.Trod enc Try.prog w 0 (fun _ => true) true 36 v d ps) : ∃ (k : Ac) (u : Hd), v = (.agg #[.int .i64 k.k, .int .i64 k.co, .int .i64 k.now, .int .i64 k.c.k, .int .u64 k.c.a, .int .u64 k.c.b, .int .i64 k.c.r, .int .i64 k.c.g, .int .i64 k.c.t, .int .i64 k.c.s, .int .i64 k.c.v, .int .i64 k.r.e, .int .i64 k.r.v, .int .i64 k.r.b, .bool k.r.t, .int .i64 k.e.k, .int .i64 k.e.co, .int .i64 k.e.c.k, .int .u64 k.e.c.a, .int .u64 k.e.c.b, .int .i64 k.e.c.r, .int .i64 k.e.c.g, .int .i64 k.e.c.t, .int .i64 k.e.c.s, .int .i64 k.e.c.v, .int .i64 k.e.sp, .slice u.o u.n u.c]) ∧ HasD w u k.e.l := by
  obtain ⟨cs, rfl, hsz⟩ := okWide_struct Try.underlying36 hv
  obtain ⟨fuel, hf⟩ := h
  obtain ⟨z, u, e, hp⟩ := act_cells hf
  exact ⟨z, u, by rw [agg_of e]; rfl, hp⟩
theorem open_history {v : Value} {d : DataW H} {ps : List MemPlace} {b0 : Nat} (hv : Value.okWide Try.prog w .any b0 25 v) (h : DataW.Trod enc Try.prog w 0 (fun _ => true) true 25 v d ps) : ∃ (x : Hh) (k : Hs), v = (.agg #[.slice x.s.o x.s.n x.s.c, .slice x.e.o x.e.n x.e.c]) ∧ HasH w x k := by
  obtain ⟨cs, rfl, hsz⟩ := okWide_struct Try.underlying25 hv
  obtain ⟨fuel, hf⟩ := h
  obtain ⟨xs, n, _, hx, hl, hlen, hall⟩ := DataW.trod_struct Try.underlying25 hf
  rw [cellsHist] at hl
  obtain ⟨c0, c1, hc⟩ := list2 hl
  obtain ⟨y0, y1, rfl⟩ := list2 hlen
  have h0 := hall 0 _ rfl
  have h1 := hall 1 _ rfl
  rw [hc] at h0 h1
  simp [cellsSpans, cellsEvents] at h0 h1
  obtain ⟨ao, l, m, cp, e0, H0⟩ := spans_cells h0
  obtain ⟨bo, l2, m2, cp2, e1, H1⟩ := events_cells h1
  cases e0; cases e1
  exact ⟨⟨⟨ao, m, cp⟩, ⟨bo, m2, cp2⟩⟩, ⟨l, l2.map (·.1)⟩, by rw [agg_of hc], ⟨H0, l2, rfl, H1⟩⟩
end
end Go.Proofs.Ytmnkbkhfonngeaa.Hi
