/- What the document's Same (of branches, of keys) and Has do. -/
import Derived.Test.YtdaakigofpehjabTrMem
namespace Go.Proofs.Ytdaakigofpehjab.Tr
open Go.RowKit

theorem drewN_below (w : World) (n : Nat) : Below w.heap.size w (w.drewN n) := ⟨rfl, rfl, rfl, Nat.le_refl _, fun _ _ => rfl⟩
theorem drewN_add (w : World) (a b : Nat) : (w.drewN a).drewN b = w.drewN (a + b) := by simp [World.drewN, Nat.add_assoc]
theorem btake_snoc (l : List Br) (k : Nat) (h : k < l.length) : l.take (k + 1) = l.take k ++ [l.getD k zB] := by
  rw [List.take_add_one]
  simp [List.getD, h]
theorem btake_full {a b : List Br} (h : a.length = b.length) (e : a.take a.length = b.take a.length) : a = b := by
  rwa [List.take_length, h, List.take_length] at e
end Go.Proofs.Ytdaakigofpehjab.Tr
