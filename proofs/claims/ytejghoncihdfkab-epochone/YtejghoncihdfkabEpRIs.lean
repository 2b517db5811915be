/- What the document's Is does. -/
import Derived.Test.YtejghoncihdfkabEpMem
import Derived.Deep.Cut
import Derived.Deep.CutRange
import Derived.Laws.NewBlocks
import Derived.Deep.RegionHeld3
namespace Go.Proofs.Ytejghoncihdfkab.Ep
open Go.RowKit

theorem beq_no {a b : Int} (h : ¬ a = b) : (a == b) = false := by simp [h]
theorem beq_yes {a b : Int} (h : a = b) : (a == b) = true := by simp [h]
theorem bne_no {a b : Int} (h : a = b) : (a != b) = false := by simp [h]
theorem bne_yes {a b : Int} (h : ¬ a = b) : (a != b) = true := by simp [h]
/-- No list is too long for what is asked. -/
structure Sm (e : E) : Prop where
  p : e.pins.length ≤ 70
  l : e.lim.length ≤ 70
  each : ∀ c, c < e.lim.length → (e.lim.getD c []).length ≤ 30
theorem sm_ok {e : E} (h : Ok e) : Sm e := by
  refine ⟨by have := h.most; omega, by have := h.most; have := h.len; omega, fun c hc => ?_⟩
  have := (okL_iff.1 (h.wait c (by rw [← h.len]; exact hc))).1
  omega
/-- What the loop knows: all ahead of k may be. -/
def UpTo (e : E) (k : Nat) : Prop := ∀ c, c < k → okP e.now (e.pins.getD c 0) = true ∧ okL e.now (e.lim.getD c []) = true
/-- .. of one list. -/
def UpL (now : Int) (l : List W) (i : Nat) : Prop := ∀ j, j < i → okW now (l.getD j (0, 0)) = true ∧ (0 < j → (l.getD (j - 1) (0, 0)).2 ≤ (l.getD j (0, 0)).2)
theorem upL_ok {now : Int} {l : List W} (h8 : l.length ≤ 8) (h : UpL now l l.length) : okL now l = true := by
  refine okL_iff.2 ⟨h8, fun a ha => ?_, nf_steps fun i hi => ?_⟩
  · obtain ⟨i, hi, rfl⟩ := List.getElem_of_mem ha
    have := (h i hi).1
    rwa [get_lt hi] at this
  · have := (h (i + 1) hi).2 (by omega)
    simpa using this
theorem upTo_step {e : E} {k : Nat} (h : UpTo e k) (h1 : okP e.now (e.pins.getD k 0) = true) (h2 : okL e.now (e.lim.getD k []) = true) : UpTo e (k + 1) := by
  intro c hc
  by_cases e1 : c = k
  · subst e1; exact ⟨h1, h2⟩
  · exact h c (by omega)
theorem upL_step {now : Int} {l : List W} {i : Nat} (h : UpL now l i) (h1 : okW now (l.getD i (0, 0)) = true) (h2 : 0 < i → (l.getD (i - 1) (0, 0)).2 ≤ (l.getD i (0, 0)).2) : UpL now l (i + 1) := by
  intro j hj
  by_cases e1 : j = i
  · subst e1; exact ⟨h1, h2⟩
  · exact h j (by omega)
theorem not_pin {e : E} {k : Nat} (hk : k < e.pins.length) (h : okP e.now (e.pins.getD k 0) = false) : okE e = false := by
  rw [ok_not]
  intro ho
  rw [ho.pin k hk] at h
  cases h
theorem not_lim {e : E} {k : Nat} (hk : k < e.pins.length) (h : okL e.now (e.lim.getD k []) = false) : okE e = false := by
  rw [ok_not]
  intro ho
  rw [ho.wait k hk] at h
  cases h
theorem okL_long {now : Int} {l : List W} (h : ¬ l.length ≤ 8) : okL now l = false := by
  cases hh : okL now l with
  | false => rfl
  | true => exact absurd (okL_iff.1 hh).1 h
theorem okL_bad {now : Int} {l : List W} {i : Nat} (hi : i < l.length) (h : okW now (l.getD i (0, 0)) = false) : okL now l = false := by
  cases hh : okL now l with
  | false => rfl
  | true =>
    rw [get_lt hi, (okL_iff.1 hh).2.1 _ (List.getElem_mem hi)] at h
    cases h
theorem okL_falls {now : Int} {l : List W} {i : Nat} (hi : i < l.length) (h : ¬ (l.getD (i - 1) (0, 0)).2 ≤ (l.getD i (0, 0)).2) : okL now l = false := by
  cases hh : okL now l with
  | false => rfl
  | true => exact absurd (nf_at (okL_iff.1 hh).2.2 (by omega) hi) h
/-- The box of the argument, in each world. -/
structure Bw (w wr : World) (n : Int) (y : WE) : Prop where
  low : Below w.heap.size w wr
  box : InE wr w.heap.size n y
theorem bw_start (w : World) (n : Int) (y : WE) (T : TypeId) : Bw w (w.alloc (.cells #[.int .i64 n, .slice y.p.o y.p.n y.p.c, .slice y.l.o y.l.n y.l.c] T)) n y := ⟨alloc_below _ _, inE_new w n y T⟩
theorem Bw.below {w wr w' : World} {n : Int} {y : WE} (h : Bw w wr n y) (k : Below wr.heap.size wr w') : Bw w w' n y := ⟨q_trans h.low k, h.box.below k⟩
theorem Bw.drewN {w wr : World} {n : Int} {y : WE} (h : Bw w wr n y) (k : Nat) : Bw w (wr.drewN k) n y := h.below (q_drewN (Below.refl _ _) k)
/-- Whether one that waits is bad, behind the one ahead of it. -/
def badW (n : Int) (z p : W) (i : Nat) : Bool := !(okW n z && (decide (i = 0) || decide (p.2 ≤ z.2)))
/-- Whether a core's row is bad. -/
def badC (n p : Int) (m : Nat) : Bool := !(okP n p && decide (m ≤ 8))
end Go.Proofs.Ytejghoncihdfkab.Ep
