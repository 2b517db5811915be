/- What the document's put and out do. -/
import Derived.Test.YtcldnacpddebcabTrRCnt
import Derived.Deep.RegionHeld3
namespace Go.Proofs.Ytcldnacpddebcab.Tr
open Go.RowKit

theorem brs_drop (l : List Br) (k j : Nat) : (brs (l.drop k))[j]? = (brs l)[k * 4 + j]? := by
  by_cases hk : k ≤ l.length
  · have e : brs l = brs (l.take k) ++ brs (l.drop k) := by rw [← brs_app, List.take_append_drop]
    rw [e, List.getElem?_append_right (by rw [len_brs, List.length_take]; omega)]
    congr 1
    rw [len_brs, List.length_take, Nat.min_eq_left hk]
    omega
  · rw [List.drop_eq_nil_of_le (by omega), List.getElem?_eq_none (by simp [brs]), List.getElem?_eq_none (by rw [len_brs]; omega)]
theorem HasB.drop {w : World} {ao : Option Addr} {n cap : Nat} {l : List Br} (h : HasB w ao n cap l) (k : Nat) (hk : k ≤ n) : HasB w (if cap = k then ao else ao.map (·.add (k * 4))) (n - k) (cap - k) (l.drop k) := by
  have hl := h.len
  have hc := h.cap
  refine ⟨by simp; omega, ?_, by omega, ⟨fun j u hu => ?_⟩⟩
  · intro e
    split at e
    · omega
    · cases ao with
      | none => have := h.nil rfl; omega
      | some a => cases e
  · have hj := (List.getElem?_eq_some_iff.1 hu).1
    rw [len_brs, List.length_drop] at hj
    rw [brs_drop] at hu
    obtain ⟨a, rfl, hcell⟩ := h.row.cell _ u hu
    refine ⟨a.add (k * 4), by rw [if_neg (by omega)]; rfl, ?_⟩
    rw [add_add]
    exact hcell
theorem row_grown {w w' : World} {b r n c : Nat} {cs : List Value} (h : Row w (some ⟨b, 0, none⟩) cs) (hg : w.grownBy w' (Value.ownBlock (.slice (some ⟨r, 0, none⟩) n c))) (hne : b ≠ r) : Row w' (some ⟨b, 0, none⟩) cs :=
  h.kept (kept_grown hg) (fun _ a e => by cases e; intro e2; exact hne (Option.some.inj e2))
theorem grow_below {w W w3 : World} {g n c : Nat} (hb : Below w.heap.size w W) (hg : W.grownBy w3 (Value.ownBlock (.slice (some ⟨g, 0, none⟩) n c))) (h : w.heap.size ≤ g) : Below w.heap.size w w3 :=
  hb.grown hg hb.size (fun k e => by cases e; exact h)
/-- A branch's box. -/
abbrev SB (c : Nat) (b : Br) (w : World) : Prop := w.cell? ⟨c, 0, none⟩ = some (.int .i64 b.1.1) ∧ w.cell? ⟨c, 1, none⟩ = some (.int .i64 b.1.2) ∧ w.cell? ⟨c, 2, none⟩ = some (.int .i64 b.2.1) ∧ w.cell? ⟨c, 3, none⟩ = some (.bool b.2.2)
theorem sb_keep {c : Nat} {b : Br} {w w' : World} (h : SB c b w) (q : Below w.heap.size w w') : SB c b w' :=
  ⟨(q.cell (World.block_lt_of_cell? w _ h.1)).trans h.1, (q.cell (World.block_lt_of_cell? w _ h.2.1)).trans h.2.1, (q.cell (World.block_lt_of_cell? w _ h.2.2.1)).trans h.2.2.1, (q.cell (World.block_lt_of_cell? w _ h.2.2.2)).trans h.2.2.2⟩
theorem sb_drew {c : Nat} {b : Br} {w : World} (h : SB c b w) : SB c b w.drew := h
theorem sb_alloc {c : Nat} {b : Br} {w : World} (h : SB c b w) (o : Obj) : SB c b (w.alloc o) := sb_keep h (alloc_below w o)
end Go.Proofs.Ytcldnacpddebcab.Tr
