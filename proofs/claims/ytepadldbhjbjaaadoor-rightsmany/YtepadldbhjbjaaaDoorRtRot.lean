/- What meets and what is joined hangs on what is there alone: not on the order, nor on what comes twice. -/
import Derived.Test.YtepadldbhjbjaaaDoorRtRefB
namespace Go.Proofs.YtepadldbhjbjaaaDoor.Rt

theorem mem_rot (l : List Int) (k : Nat) (hk : k < l.length) (y : Int) : y ∈ l.drop k ++ l.take k ++ [l.getD k 0] ↔ y ∈ l := by
  have hx : l.getD k 0 ∈ l := by
    have : l.getD k 0 = l[k] := by simp [List.getD, hk]
    rw [this]
    exact List.getElem_mem hk
  constructor
  · intro h
    simp only [List.mem_append, List.mem_singleton] at h
    rcases h with (h | h) | h
    · exact List.mem_of_mem_drop h
    · exact List.mem_of_mem_take h
    · rw [h]; exact hx
  · intro h
    rw [← List.take_append_drop k l] at h
    simp only [List.mem_append] at h ⊢
    rcases h with h | h
    · exact .inl (.inr h)
    · exact .inl (.inl h)
theorem all_same {l m : List Int} (h : ∀ y, y ∈ l ↔ y ∈ m) (p : Int → Bool) : l.all p = m.all p := by
  rw [Bool.eq_iff_iff, List.all_eq_true, List.all_eq_true]
  exact ⟨fun g y hy => g y ((h y).2 hy), fun g y hy => g y ((h y).1 hy)⟩
theorem any_same {l m : List Int} (h : ∀ y, y ∈ l ↔ y ∈ m) (p : Int → Bool) : l.any p = m.any p := by
  rw [Bool.eq_iff_iff, List.any_eq_true, List.any_eq_true]
  exact ⟨fun ⟨y, hy, g⟩ => ⟨y, (h y).1 hy, g⟩, fun ⟨y, hy, g⟩ => ⟨y, (h y).2 hy, g⟩⟩
theorem meet_same {l m : List Int} (h : ∀ y, y ∈ l ↔ y ∈ m) : meetT l = meetT m := by
  have hA := all_same h isR
  cases ha : m.all isR with
  | false => rw [ha] at hA; simp [meetT, hA, ha]
  | true =>
    rw [ha] at hA
    rw [meetT_sum hA, meetT_sum ha]
    exact congrArg _ (bsum_congr _ _ _ fun j _ => all_same h _)
theorem join_same {l m : List Int} (h : ∀ y, y ∈ l ↔ y ∈ m) : joinT l = joinT m := by
  have hA := all_same h isR
  cases ha : m.all isR with
  | false => rw [ha] at hA; simp [joinT, hA, ha]
  | true =>
    rw [ha] at hA
    rw [joinT_sum hA, joinT_sum ha]
    exact congrArg _ (bsum_congr _ _ _ fun j _ => any_same h _)
theorem E_same {l m : List Int} (h : ∀ y, y ∈ l ↔ y ∈ m) : listE l = listE m := by
  unfold listE
  rw [all_same h isR]
end Go.Proofs.YtepadldbhjbjaaaDoor.Rt
