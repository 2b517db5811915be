/- Lists of truths that lie in memory. -/
import Derived.Test.YtaihabkacjbfjaaGrMem
namespace Go.Proofs.Ytaihabkacjbfjaa.Gr
open Go.RowKit Go.Proofs.Ytaihabkacjbfjaa.Ce

/-- Truths as cells. -/
abbrev bvals (l : List Bool) : List Value := l.map Value.bool
structure HasB (w : World) (ao : Option Addr) (n : Nat) (l : List Bool) : Prop where
  len : n = l.length
  row : Row w ao (bvals l)
theorem HasB.below {w w' : World} {ao : Option Addr} {n : Nat} {l : List Bool} (h : HasB w ao n l) (hb : Below w.heap.size w w') : HasB w' ao n l := ⟨h.len, h.row.below hb⟩
theorem HasB.cell {w : World} {ao : Option Addr} {n : Nat} {l : List Bool} (h : HasB w ao n l) (j : Nat) (hj : j < n) : ∃ a, ao = some a ∧ w.cell? (a.add j) = some (.bool (l.getD j false)) :=
  h.row.cell j _ (by simp [bvals, List.getD, show j < l.length by have := h.len; omega])
end Go.Proofs.Ytaihabkacjbfjaa.Gr
