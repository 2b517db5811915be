/- What the program's below, leaf, Descends do. -/
import Derived.Test.YtcldnacpddebcabTrW5
namespace Go.Proofs.Ytcldnacpddebcab.Tr
open Go.RowKit Go.Shelf
attribute [local go_sem] Oper.semAt_some

theorem own_b1 {β : Type} (b : Nat) (v : Value) : Own (fun (_ : β) W => B1 W b v) := fun _ _ _ _ hs hg hr => ⟨cell_kept hs.c hg hr, (frozen_kept hs.c hg hr).trans hs.f⟩
theorem atP_grown {W W' : World} {row : Option Nat} {a : Addr} {k : P} (h : AtP W a k) (hg : W.grownBy W' row) (hr : ∀ r, row = some r → ∃ o : Obj, W.heap[r]? = some o ∧ o.isCells = false) : AtP W' a k := ⟨cell_kept h.c0 hg hr, cell_kept h.c1 hg hr⟩
theorem AtP.other {w : World} {b c j : Nat} {k : P} (h : AtP w ⟨b, 0, none⟩ k) (u : Value) (hne : b ≠ c) : AtP (w.setCell ⟨c, j, none⟩ u) ⟨b, 0, none⟩ k :=
  ⟨(World.cell?_setCell_other _ _ _ _ (far0 (.inl (Ne.symm hne)))).trans h.c0, (World.cell?_setCell_other _ _ _ _ (far0 (.inl (Ne.symm hne)))).trans h.c1⟩
def lfE (t : List Br) (k : P) : Int := if (blL t k).length = 0 then 0 else 130
theorem lf_no {t : List Br} {k : P} (h : [] = blL t k) : lfE t k = 0 := by simp [lfE, ← h]
theorem lf_yes {t : List Br} {k : P} {pre : List P} (h : pre <+: blL t k) (hp : pre ≠ []) : lfE t k = 130 := by
  have h1 := h.length_le
  have h2 : pre.length ≠ 0 := fun e => hp (List.eq_nil_of_length_eq_zero e)
  rw [lfE, if_neg (by omega)]
end Go.Proofs.Ytcldnacpddebcab.Tr
