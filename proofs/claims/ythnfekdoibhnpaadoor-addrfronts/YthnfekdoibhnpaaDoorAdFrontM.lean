/- What an address finds, and what its front finds. -/
import Derived.Test.YthnfekdoibhnpaaDoorAdMath
namespace Go.Proofs.YthnfekdoibhnpaaDoor.Ad
open Cp (K)

theorem last_get (l : List P) (j : Nat) (h : l.length = j + 1) : l.getLastD (0, 0) = l.getD j (0, 0) := by
  rw [List.getLastD_eq_getLast?, List.getLast?_eq_getElem?, h]
  simp [List.getD]
/-- All that AddrFronts asks. -/
structure Fr (t : List (List K)) (r : K) (l : List P) (i : Nat) (c : K) : Prop where
  e : fndE t r (l.take (i + 1)) = 0
  len : (fndL t r l).length = i + 2
  tk : (fndL t r l).take (i + 1) = fndL t r (l.take (i + 1))
  g1 : (fndL t r l).getD i (0, 0) = fndK t r (l.take (i + 1))
  g2 : (fndL t r l).getD (i + 1) (0, 0) = fndK t r l
  sl : slB t (fndK t r (l.take (i + 1))) = true
  gc : getC t (fndK t r (l.take (i + 1))) = c
  ct : c.t = 2
  cb : c.b = (l.getD (i + 1) (0, 0)).1
  cr : c.r.tmod 2 = 1
  k1 : (fndK t r l).1 = c.o
  k2 : (fndK t r l).2 = (l.getD (i + 1) (0, 0)).2
theorem fr_of {t : List (List K)} {r : K} {l : List P} {i : Nat} (hl : l.length = i + 2) (h : fndB t r l = true) : ∃ c, Fr t r l i c := by
  have hs : l = l.take (i + 1) ++ [l.getD (i + 1) (0, 0)] := by
    have h1 : l.getD (i + 1) (0, 0) = l[i + 1]'(by omega) := getD_get l (i + 1) (by omega)
    rw [h1]
    conv => lhs; rw [← List.take_append_drop (i + 1) l]
    rw [List.drop_eq_getElem_cons (by omega), List.drop_eq_nil_of_le (by omega)]
  have hlen : (l.take (i + 1)).length = i + 1 := by simp; omega
  have hf := h
  rw [hs] at hf
  obtain ⟨f1, f2, f3⟩ := front hf (by omega)
  rw [← hs] at f3
  have y1 := fnd_yes f1
  have y2 := fnd_yes h
  have w1 : (wayL t r (l.take (i + 1))).length = i + 1 := by rw [wayL_len, hlen]
  have k1 : fndK t r (l.take (i + 1)) = (wayL t r (l.take (i + 1))).getD i (0, 0) := by rw [y1.2.1, last_get _ i w1]
  have hc : wayC t r (l.take (i + 1)) = slC t (fndK t r (l.take (i + 1))) := by rw [wayC_last t r _ (by omega), y1.2.1]
  have hsl : slB t (fndK t r (l.take (i + 1))) = true := by
    refine way_slots (fndB_iff.1 f1).2 _ ?_
    rw [k1, getD_get _ i (by omega)]
    exact List.getElem_mem _
  have k2 : fndK t r l = ((wayC t r (l.take (i + 1))).o, (l.getD (i + 1) (0, 0)).2) := by rw [y2.2.1, f3]; simp
  simp only [goB, Bool.and_eq_true, beq_iff_eq] at f2
  refine ⟨wayC t r (l.take (i + 1)), y1.2.2, by rw [y2.1, wayL_len, hl], by rw [y2.1, y1.1, f3, List.take_append_of_le_length (by omega), List.take_of_length_le (by omega)], ?_, ?_, hsl, by rw [hc]; simp [getC, hsl], f2.1, f2.2.2.1, may_odd f2.2.1, by rw [k2], by rw [k2]⟩
  · rw [y2.1, f3, k1]
    simp only [List.getD]
    rw [List.getElem?_append_left (by omega)]
  · rw [y2.1, f3, k2]
    simp only [List.getD]
    rw [List.getElem?_append_right (by omega), w1]
    simp
end Go.Proofs.YthnfekdoibhnpaaDoor.Ad
