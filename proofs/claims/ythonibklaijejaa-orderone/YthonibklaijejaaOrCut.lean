/- A slice of a list of keys: from a place on, up to a place. -/
import Derived.Test.YthonibklaijejaaOrW1
namespace Go.Proofs.Ythonibklaijejaa.Or
open Go.RowKit

theorem run_from (ao : Option Addr) (k n cap : Nat) (hk : k ≤ n) (W : World) :
    (Instr.slice 36 (.slice ao n cap) (some (.int .i64 k)) none none).run Try.prog W = .ok (.slice (if cap = k then ao else ao.map (·.add (k * 2))) (n - k) (cap - k)) W := by
  have hb := fun code => run_sliceBound (P := Try.prog) (w := W) .i64 (k : Int) n code (by omega) (by omega)
  simp [Instr.slice, Instr.sliceBounds, run_underlying Try.underlying36, hb, Try.sizeOf23]
theorem run_to (ao : Option Addr) (k n cap : Nat) (hk : k ≤ cap) (W : World) :
    (Instr.slice 36 (.slice ao n cap) none (some (.int .i64 k)) none).run Try.prog W = .ok (.slice ao k cap) W := by
  have hb := fun code => run_sliceBound (P := Try.prog) (w := W) .i64 (k : Int) cap code (by omega) (by omega)
  have ha : ao.map (fun a => a.add 0) = ao := by cases ao <;> simp [Addr.add]
  simp [Instr.slice, Instr.sliceBounds, run_underlying Try.underlying36, hb, Try.sizeOf23, ha]
theorem Has.take {w : World} {ao : Option Addr} {n cap : Nat} {l : List K} (h : Has w ao n cap l) (k : Nat) (hk : k ≤ n) : Has w ao k cap (l.take k) := by
  refine ⟨by have := h.len; simp; omega, h.nil, Nat.le_trans hk h.cap, ⟨fun j u hu => ?_⟩⟩
  obtain ⟨c, h1, h2⟩ := keys_get hu
  refine h.row.cell j u ?_
  have hj := (List.getElem?_eq_some_iff.1 h1).1
  rw [List.length_take] at hj
  have hd : j / 2 < l.length := by omega
  rw [← h2, show j = j / 2 * 2 + j % 2 by omega, keys_at l (j / 2) (j % 2) (by omega) hd]
  rw [show (j / 2 * 2 + j % 2) % 2 = j % 2 by omega]
  rw [List.getElem?_take_of_lt (by omega), List.getElem?_eq_getElem hd] at h1
  cases h1
  rw [getD_lt hd]
theorem keys_drop (l : List K) (k j : Nat) : (keys (l.drop k))[j]? = (keys l)[k * 2 + j]? := by
  by_cases hk : k ≤ l.length
  · have e : keys l = keys (l.take k) ++ keys (l.drop k) := by rw [← keys_app, List.take_append_drop]
    rw [e, List.getElem?_append_right (by rw [len_keys, List.length_take]; omega)]
    congr 1
    rw [len_keys, List.length_take]
    omega
  · rw [List.drop_of_length_le (by omega), List.getElem?_eq_none (by simp [keys]), List.getElem?_eq_none (by rw [len_keys]; omega)]
theorem Has.drop {w : World} {ao : Option Addr} {n cap : Nat} {l : List K} (h : Has w ao n cap l) (k : Nat) (hk : k ≤ n) : Has w (if cap = k then ao else ao.map (·.add (k * 2))) (n - k) (cap - k) (l.drop k) := by
  have hl := h.len
  have hc := h.cap
  refine ⟨by simp; omega, fun e => ?_, by omega, ⟨fun j u hu => ?_⟩⟩
  · by_cases e2 : cap = k
    · omega
    · rw [if_neg e2] at e
      have : ao = none := by cases ao with
        | none => rfl
        | some a => simp at e
      have := h.nil this
      omega
  · by_cases e2 : cap = k
    · have : l.drop k = [] := List.drop_of_length_le (by omega)
      rw [this] at hu
      simp [keys] at hu
    · rw [if_neg e2]
      rw [keys_drop] at hu
      obtain ⟨a, rfl, hcell⟩ := h.row.cell _ u hu
      exact ⟨a.add (k * 2), rfl, by rw [add_add]; exact hcell⟩
/-- The slice from place k on. -/
theorem cut_from {w : World} {ao : Option Addr} {n cap : Nat} {l : List K} (h : Has w ao n cap l) (k : Nat) (hk : k ≤ n) :
    ∃ ao', Has w ao' (n - k) (cap - k) (l.drop k) ∧ ∀ W, (Instr.slice 36 (.slice ao n cap) (some (.int .i64 k)) none none).run Try.prog W = .ok (.slice ao' (n - k) (cap - k)) W :=
  ⟨_, h.drop k hk, run_from ao k n cap hk⟩
theorem cut_tail {w : World} {ao : Option Addr} {n cap : Nat} {x : K} {l : List K} (h : Has w ao n cap (x :: l)) :
    ∃ ao', Has w ao' (n - 1) (cap - 1) l ∧ ∀ W, (Instr.slice 36 (.slice ao n cap) (some (.int .i64 1)) none none).run Try.prog W = .ok (.slice ao' (n - 1) (cap - 1)) W :=
  cut_from h 1 (by have := h.len; simp at this; omega)
end Go.Proofs.Ythonibklaijejaa.Or
