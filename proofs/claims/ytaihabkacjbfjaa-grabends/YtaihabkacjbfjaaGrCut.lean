/- A slice of a list of numbers: from a place on, up to a place. -/
import Derived.Test.YtaihabkacjbfjaaGrMem
namespace Go.Proofs.Ytaihabkacjbfjaa.Gr
open Go.RowKit Go.Proofs.Ytaihabkacjbfjaa.Ce

theorem add_add (a : Addr) (i j : Nat) : (a.add i).add j = a.add (i + j) := by
  unfold Addr.add
  by_cases hi : i = 0
  · subst hi; simp
  · by_cases hj : j = 0
    · subst hj; simp [hi]
    · simp [hi, hj, Nat.add_assoc]
theorem run_from (ao : Option Addr) (k n cap : Nat) (hk : k ≤ n) (W : World) :
    (Instr.slice 22 (.slice ao n cap) (some (.int .i64 k)) none none).run Try.prog W = .ok (.slice (if cap = k then ao else ao.map (·.add k)) (n - k) (cap - k)) W := by
  have hb := fun code => run_sliceBound (P := Try.prog) (w := W) .i64 (k : Int) n code (by omega) (by omega)
  simp [Instr.slice, Instr.sliceBounds, run_underlying Try.underlying22, hb, Try.sizeOf3]
theorem run_to (ao : Option Addr) (k n cap : Nat) (hk : k ≤ cap) (W : World) :
    (Instr.slice 22 (.slice ao n cap) none (some (.int .i64 k)) none).run Try.prog W = .ok (.slice ao k cap) W := by
  have hb := fun code => run_sliceBound (P := Try.prog) (w := W) .i64 (k : Int) cap code (by omega) (by omega)
  have ha : ao.map (fun a => a.add 0) = ao := by cases ao <;> simp [Addr.add]
  simp [Instr.slice, Instr.sliceBounds, run_underlying Try.underlying22, hb, Try.sizeOf3, ha]
theorem Has.take {w : World} {ao : Option Addr} {n cap : Nat} {l : List Int} (h : Has w ao n cap l) (k : Nat) (hk : k ≤ n) : Has w ao k cap (l.take k) := by
  refine ⟨by have := h.len; simp; omega, h.nil, Nat.le_trans hk h.le, ⟨fun j u hu => ?_⟩⟩
  refine h.row.cell j u ?_
  have hj := (List.getElem?_eq_some_iff.1 hu).1
  rw [len_vals, List.length_take] at hj
  rw [← hu]
  simp only [vals, List.getElem?_map]
  rw [List.getElem?_take_of_lt (by omega)]
theorem Has.drop {w : World} {ao : Option Addr} {n cap : Nat} {l : List Int} (h : Has w ao n cap l) (k : Nat) (hk : k ≤ n) : Has w (if cap = k then ao else ao.map (·.add k)) (n - k) (cap - k) (l.drop k) := by
  have hl := h.len
  have hc := h.le
  refine ⟨by simp; omega, fun e => ?_, by omega, ⟨fun j u hu => ?_⟩⟩
  · by_cases e2 : cap = k
    · omega
    · rw [if_neg e2] at e
      have : ao = none := by cases ao with
        | none => rfl
        | some a => simp at e
      have := h.nil this
      omega
  · by_cases e2 : cap = k
    · have : l.drop k = [] := List.drop_of_length_le (by omega)
      rw [this] at hu
      simp at hu
    · rw [if_neg e2]
      simp only [vals, List.getElem?_map, List.getElem?_drop] at hu
      obtain ⟨a, rfl, hcell⟩ := h.row.cell (k + j) u (by simpa [vals] using hu)
      exact ⟨a.add k, rfl, by rw [add_add]; exact hcell⟩
/-- The slice from place k on. -/
theorem cut_from {w : World} {ao : Option Addr} {n cap : Nat} {l : List Int} (h : Has w ao n cap l) (k : Nat) (hk : k ≤ n) :
    ∃ ao', Has w ao' (n - k) (cap - k) (l.drop k) ∧ ∀ W, (Instr.slice 22 (.slice ao n cap) (some (.int .i64 k)) none none).run Try.prog W = .ok (.slice ao' (n - k) (cap - k)) W :=
  ⟨_, h.drop k hk, run_from ao k n cap hk⟩
end Go.Proofs.Ytaihabkacjbfjaa.Gr
