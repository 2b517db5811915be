/- Lists of what is done, in memory. -/
import Derived.Test.YtejghoncihdfkaaEpFull
namespace Go.Proofs.Ytejghoncihdfkaa.Ep
open Go.RowKit

def Ac.zero : Ac := ⟨0, 0, 0⟩
/-- What is done, at an address: three cells. -/
abbrev AtC (a : Addr) (x : Ac) (w : World) : Prop :=
  w.cell? a = some (.int .i64 x.kind) ∧ w.cell? ⟨a.block, a.off + 1, none⟩ = some (.int .i64 x.core) ∧ w.cell? ⟨a.block, a.off + 2, none⟩ = some (.int .i64 x.obj)
theorem atC_kept {S : Nat → Prop} {w w' : World} {a : Addr} {x : Ac} (k : Kept S w w') (h : AtC a x w) (hs : ¬ S a.block) : AtC a x w' := by
  obtain ⟨h0, h1, h2⟩ := h
  exact ⟨k.cell h0 hs, k.cell h1 hs, k.cell h2 hs⟩
theorem atC_below {w w' : World} {a : Addr} {x : Ac} (h : AtC a x w) (b : Below w.heap.size w w') : AtC a x w' := atC_kept (S := fun _ => False) (kept_below b) h (fun e => e)
/-- A list of what is done. -/
structure HasC (w : World) (ao : Option Addr) (n : Nat) (l : List Ac) : Prop where
  len : n = l.length
  at_ : ∀ i, i < n → ∃ a, ao = some a ∧ AtC (a.add (i * 3)) (l.getD i Ac.zero) w
theorem HasC.below {w w' : World} {ao : Option Addr} {n : Nat} {l : List Ac} (h : HasC w ao n l) (b : Below w.heap.size w w') : HasC w' ao n l :=
  ⟨h.len, fun i hi => by obtain ⟨a, e, hc⟩ := h.at_ i hi; exact ⟨a, e, atC_below hc b⟩⟩
/-- The box of epochs, and what is done: what holds at every moment of a region. -/
abbrev SX (b : Nat) (n : Int) (y : WE) (a : Addr) (z : Ac) (w : World) : Prop := SB b n y w ∧ AtC a z w
theorem sx_keep {w w' : World} {b : Nat} {n : Int} {y : WE} {a : Addr} {z : Ac} (k : Below w.heap.size w w') (h : SX b n y a z w) : SX b n y a z w' := ⟨sb_keep k h.1, atC_below h.2 k⟩
theorem sx_drew {w : World} {b : Nat} {n : Int} {y : WE} {a : Addr} {z : Ac} (h : SX b n y a z w) : SX b n y a z w.drew := sx_keep (Below.refl _ _).drew h
theorem sx_alloc {w : World} {b : Nat} {n : Int} {y : WE} {a : Addr} {z : Ac} {o : Obj} (h : SX b n y a z w) : SX b n y a z (w.alloc o) := sx_keep (alloc_below _ _) h
theorem sx_three {w : World} {b c : Nat} {n : Int} {y : WE} {a : Addr} {z : Ac} {u v x : Value} (h : SX b n y a z w) (hb : b ≠ c ∧ a.block ≠ c) : SX b n y a z (((w.setCell ⟨c, 0, none⟩ u).setCell ⟨c, 1, none⟩ v).setCell ⟨c, 2, none⟩ x) :=
  ⟨sb_three h.1 hb.1, atC_kept (kept_store w c u v x) h.2 hb.2⟩
/-- The zero epochs in a block. -/
def Ze (w : World) (c : Nat) : Prop := w.heap[c]? = some (.cells #[.int .i64 0, .slice none 0 0, .slice none 0 0] 25 (0, 0))
end Go.Proofs.Ytejghoncihdfkaa.Ep
