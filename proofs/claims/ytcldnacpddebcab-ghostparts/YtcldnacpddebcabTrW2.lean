/- What the program's Check does. -/
import Derived.Test.YtcldnacpddebcabTrW1
import Derived.Test.YtcldnacpddebcabTrBox
import Derived.Laws.MakeOwn
namespace Go.Proofs.Ytcldnacpddebcab.Tr
open Go.RowKit

/-- A list of 9216 bools that may be written. -/
structure Sn (w : World) (b : Nat) (s : Nat → Bool) : Prop where
  cell : ∀ c, c < 9216 → w.cell? ⟨b, c, none⟩ = some (.bool (s c))
  free : ∀ c, c < 9216 → w.frozen? ⟨b, c, none⟩ = false
theorem Sn.lt {w : World} {b : Nat} {s : Nat → Bool} (h : Sn w b s) : b < w.heap.size := World.block_lt_of_cell? w _ (h.cell 0 (by omega))
theorem Sn.below {w w' : World} {b : Nat} {s : Nat → Bool} (h : Sn w b s) (q : Below w.heap.size w w') : Sn w' b s :=
  ⟨fun c hc => (q.cell (p := ⟨b, c, none⟩) h.lt).trans (h.cell c hc), fun c hc => (q.frozen (p := ⟨b, c, none⟩) h.lt).trans (h.free c hc)⟩
theorem sn_set {w : World} {b c : Nat} {s : Nat → Bool} (h : Sn w b s) (hc : c < 9216) : Sn (w.setCell ⟨b, c, none⟩ (.bool true)) b (fun j => decide (j = c) || s j) := by
  refine ⟨fun j hj => ?_, fun j hj => by rw [World.frozen?_setCell]; exact h.free j hj⟩
  by_cases e : j = c
  · subst e
    rw [World.cell?_setCell_same' _ _ _ (by rw [h.cell j hc]; rfl)]
    simp
  · rw [World.cell?_setCell_other _ _ _ _ (far0 (.inr (Ne.symm e))), h.cell j hj]
    simp [e]
theorem made_one (u : Value) (m : Nat) : (madeCells #[u] m).toList = List.replicate m u := by
  apply List.ext_getElem
  · simp [madeCells]
  · intro i h1 h2
    simp only [madeCells, Array.toList_map, List.getElem_map, List.getElem_replicate]
    have : ∀ j, j < 1 → (#[u])[j]! = u := by
      intro j hj
      obtain rfl : j = 0 := by omega
      rfl
    exact this _ (Nat.mod_lt _ (by simp))
theorem infoT : (Try.prog.info? 4).map (fun i => (i.zero, i.size, i.bytes)) = some (some (.bool false), 1, 1) := by kernel_rfl
theorem make_N (N : Nat) (hN : N ≤ 10000) : ∃ C : Array Value, (∀ w : World, (Instr.makeSlice 56 (.int .i64 N) (.int .i64 N)).run Try.prog w = .ok (.slice (some ⟨w.heap.size, 0, none⟩) N N) (w.alloc (.cells C 4))) ∧ ∀ (w : World) (c : Nat), c < N → (w.alloc (.cells C 4)).cell? ⟨w.heap.size, c, none⟩ = some (.bool false) ∧ (w.alloc (.cells C 4)).frozen? ⟨w.heap.size, c, none⟩ = false := by
  obtain ⟨i0, hi, hz0, hz1, hz2⟩ := info_of infoT
  refine ⟨madeCells #[Value.bool false] N, fun w => ?_, fun w c hc => ⟨?_, ?_⟩⟩
  · have h := run_make (P := Try.prog) w 56 4 i0 _ Try.underlying56 hi hz0 .i64 .i64 N N (by omega) (by omega) (by rw [hz2]; omega) (by omega)
    rw [hz1] at h
    simpa [Value.cells] using h
  · have e := made_one (Value.bool false) N
    have e2 : (madeCells #[Value.bool false] N)[c]? = some (.bool false) := by rw [← Array.getElem?_toList, e, List.getElem?_replicate, if_pos hc]
    generalize madeCells #[Value.bool false] N = C at e2
    unfold World.cell?
    rw [show (w.alloc (.cells C 4)).heap[(⟨w.heap.size, c, none⟩ : Addr).block]? = some (.cells C 4) from heap_alloc_new w _]
    exact e2
  · generalize madeCells #[Value.bool false] N = C
    unfold World.frozen?
    rw [show (w.alloc (.cells C 4)).heap[(⟨w.heap.size, c, none⟩ : Addr).block]? = some (.cells C 4) from heap_alloc_new w _]
    simp
theorem make_S : ∃ C : Array Value, (∀ w : World, (Instr.makeSlice 56 (.int .i64 9216) (.int .i64 9216)).run Try.prog w = .ok (.slice (some ⟨w.heap.size, 0, none⟩) 9216 9216) (w.alloc (.cells C 4))) ∧ ∀ w : World, Sn (w.alloc (.cells C 4)) w.heap.size (fun _ => false) := by
  obtain ⟨N, hN⟩ : ∃ N : Nat, N = 9216 := ⟨_, rfl⟩
  obtain ⟨C, h1, h2⟩ := make_N N (by omega)
  have e : (N : Int) = 9216 := by omega
  rw [e] at h1
  rw [hN] at h1
  exact ⟨C, h1, fun w => ⟨fun c hc => (h2 w c (by omega)).1, fun c hc => (h2 w c (by omega)).2⟩⟩
def sn (t : List Br) (q : Nat) (c : Nat) : Bool := decide (∃ j, j < q ∧ cellK (Ky t j) = (c : Int))
theorem sn_zero (t : List Br) : sn t 0 = fun _ => false := by
  funext c
  simp [sn]
theorem sn_succ {t : List Br} {q c : Nat} (h : cellK (Ky t q) = (c : Int)) : sn t (q + 1) = fun j => decide (j = c) || sn t q j := by
  funext j
  rw [Bool.eq_iff_iff]
  simp only [sn, decide_eq_true_eq, Bool.or_eq_true]
  constructor
  · rintro ⟨m, hm, e⟩
    rcases Nat.lt_or_ge m q with y | y
    · exact .inr ⟨m, y, e⟩
    · obtain rfl : m = q := by omega
      left
      omega
  · rintro (rfl | ⟨m, hm, e⟩)
    · exact ⟨q, by omega, h⟩
    · exact ⟨m, by omega, e⟩
def ckE (t : List Br) : Int := if isB t then 0 else 2
theorem ck_no {t : List Br} (h : ¬ Tree t) : ckE t = 2 := by simp [ckE, isB_not.2 h]
theorem ck_yes {t : List Br} (h : Tree t) : ckE t = 0 := by simp [ckE, isB_iff.2 h]
/-- How deep the next one may be. -/
def dn (t : List Br) (q : Nat) : Int := if q = 0 then 0 else D t (q - 1) + 1
theorem dn_succ (t : List Br) (q : Nat) : dn t (q + 1) = D t q + 1 := by simp [dn]
theorem gd_dn {t : List Br} {q : Nat} (h : Gd t q) : D t q ≤ dn t q := by
  have := h.dep
  unfold dn
  split at this <;> simp_all
theorem no_key {t : List Br} {q : Nat} (hq : q < t.length) (h : okK (Ky t q) = false) : ¬ Tree t := fun g => by
  have := ((tree_gd.1 g).2 q hq).key
  rw [h] at this
  cases this
theorem no_two {t : List Br} {q c : Nat} (hq : q < t.length) (hk : cellK (Ky t q) = (c : Int)) (ho : okK (Ky t q) = true) (h : sn t q c = true) : ¬ Tree t := fun g => by
  simp only [sn, decide_eq_true_eq] at h
  obtain ⟨j, hj, e⟩ := h
  have h1 := (tree_gd.1 g).2 q hq
  have h2 := (tree_gd.1 g).2 j (by omega)
  exact (fd_some.1 h1.at').2.2 j hj (cell_inj h2.key ho (e.trans hk.symm))
theorem no_deep {t : List Br} {q : Nat} (hq : q < t.length) (h : D t q < 0 ∨ dn t q < D t q) : ¬ Tree t := fun g => by
  have h1 := (tree_gd.1 g).2 q hq
  have h2 := h1.pos
  have h3 := gd_dn h1
  omega
theorem gd_next {t : List Br} {q c : Nat} (hq : q < t.length) (hk : cellK (Ky t q) = (c : Int)) (ho : okK (Ky t q) = true) (hs : sn t q c = false) (h1 : ¬ D t q < 0) (h2 : ¬ dn t q < D t q) (h : ∀ j, j < q → Gd t j) : ∀ j, j < q + 1 → Gd t j := fun j hj => by
  rcases Nat.lt_or_ge j q with y | y
  · exact h j y
  · obtain rfl : j = q := by omega
    refine ⟨fd_go hq rfl (fun m hm e => ?_), ho, by omega, ?_⟩
    · simp only [sn, decide_eq_false_iff_not] at hs
      exact hs ⟨m, hm, by rw [e]; exact hk⟩
    · unfold dn at h2
      split <;> simp_all
end Go.Proofs.Ytcldnacpddebcab.Tr
