/- A tree that is full (P13.3). Without any program. -/
import Derived.Test.YtdaakigofpehjabTrCount
namespace Go.Proofs.Ytdaakigofpehjab.Tr

/-- The i-th key of TreeMany. -/
def mk (i : Nat) : P := ((i / 8 : Nat), (i % 8 : Nat))
def mb (i : Nat) : Br := (mk i, ((i % 2 : Nat) : Int), false)
/-- The first n. -/
def fl : Nat → List Br
  | 0 => []
  | n + 1 => fl n ++ [mb n]
theorem fl_len (n : Nat) : (fl n).length = n := by
  induction n with
  | zero => rfl
  | succ n ih => simp [fl, ih]
theorem fl_get {n j : Nat} (h : j < n) : (fl n).getD j zB = mb j := by
  induction n with
  | zero => omega
  | succ n ih =>
    simp only [fl, List.getD]
    rcases Nat.lt_or_ge j n with q | q
    · rw [List.getElem?_append_left (by rw [fl_len]; exact q)]
      exact ih q
    · obtain rfl : j = n := by omega
      rw [List.getElem?_append_right (by rw [fl_len]; exact Nat.le_refl _), fl_len]
      simp
theorem mk_inj {i j : Nat} (h : mk i = mk j) : i = j := by
  simp only [mk, Prod.mk.injEq] at h
  have h1 := h.1
  have h2 := h.2
  omega
theorem mk_ok {i : Nat} (h : i ≤ 520) : okK (mk i) = true := okK_iff.2 ⟨by simp only [mk]; omega, by simp only [mk]; omega, by simp only [mk]; omega, by simp only [mk]; omega⟩
theorem fl_fd {n j : Nat} (h : j < n) : fd (mk j) (fl n) = some j := by
  refine fd_some.2 ⟨by rw [fl_len]; exact h, by unfold Ky; rw [fl_get h]; rfl, fun m hm e => ?_⟩
  unfold Ky at e
  rw [fl_get (by omega)] at e
  have := mk_inj e
  omega
theorem fl_no {n j : Nat} (h : n ≤ j) : fd (mk j) (fl n) = none := by
  refine fd_none.2 fun m hm e => ?_
  rw [fl_len] at hm
  unfold Ky at e
  rw [fl_get hm] at e
  have := mk_inj e
  omega
theorem fl_root {n : Nat} (h : Tree (fl n)) (hn : n < 512) (he : n % 2 = 0) : roE (fl n) (mk n) = 0 ∧ roA (fl n) (mk n) = fl (n + 1) := by
  have e : roE (fl n) (mk n) = 0 := by
    unfold roE
    rw [isB_iff.2 h, mk_ok (by omega)]
    simp only [hasK, fl_no (Nat.le_refl n), fl_len]
    simp
    omega
  refine ⟨e, ?_⟩
  unfold roA
  rw [if_pos e]
  simp [fl, mb, he]
theorem fl_ins {n : Nat} (h : Tree (fl n)) (hn : n < 512) (he : n % 2 = 1) : inE (fl n) (mk (n - 1)) (mk n) = 0 ∧ inA (fl n) (mk (n - 1)) (mk n) = fl (n + 1) := by
  have hf := fl_fd (n := n) (j := n - 1) (by omega)
  have e : inE (fl n) (mk (n - 1)) (mk n) = 0 := by
    unfold inE
    rw [isB_iff.2 h, mk_ok (by omega), mk_ok (by omega)]
    simp only [hasK, fl_no (Nat.le_refl n), hf, fl_len]
    simp
    omega
  refine ⟨e, ?_⟩
  unfold inA
  rw [if_pos e, plc_of hf, show n - 1 + 1 = n by omega]
  have hd : D (fl n) (n - 1) = 0 := by
    unfold D
    rw [fl_get (by omega)]
    simp only [mb]
    omega
  rw [hd]
  unfold ins
  rw [List.take_of_length_le (by rw [fl_len]; exact Nat.le_refl _), List.drop_eq_nil_of_le (by rw [fl_len]; exact Nat.le_refl _)]
  simp [fl, mb, he]
theorem fl_tree : ∀ n, n ≤ 512 → Tree (fl n) := by
  intro n
  induction n with
  | zero => exact fun _ => tree_nil
  | succ n ih =>
    intro hn
    have h := ih (by omega)
    rcases Nat.mod_two_eq_zero_or_one n with q | q
    · rw [← (fl_root h (by omega) q).2]
      exact ro_tree h
    · rw [← (fl_ins h (by omega) q).2]
      exact in_keep h
theorem fl_full {n : Nat} (h1 : 512 ≤ n) (h2 : n ≤ 520) : roE (fl 512) (mk n) = 6 ∧ roA (fl 512) (mk n) = fl 512 := by
  have e : roE (fl 512) (mk n) = 6 := by
    unfold roE
    rw [isB_iff.2 (fl_tree 512 (Nat.le_refl _)), mk_ok h2]
    simp only [hasK, fl_no h1, fl_len]
    simp
  refine ⟨e, ?_⟩
  unfold roA
  rw [if_neg (by rw [e]; decide)]
theorem fl_none {n : Nat} (h1 : 513 ≤ n) (h2 : n ≤ 520) : inE (fl 512) (mk (n - 1)) (mk n) = 7 ∧ inA (fl 512) (mk (n - 1)) (mk n) = fl 512 := by
  have e : inE (fl 512) (mk (n - 1)) (mk n) = 7 := by
    unfold inE
    rw [isB_iff.2 (fl_tree 512 (Nat.le_refl _)), mk_ok h2, mk_ok (by omega)]
    simp only [hasK, fl_no (show 512 ≤ n - 1 by omega)]
    simp
  refine ⟨e, ?_⟩
  unfold inA
  rw [if_neg (by rw [e]; decide)]
end Go.Proofs.Ytdaakigofpehjab.Tr
