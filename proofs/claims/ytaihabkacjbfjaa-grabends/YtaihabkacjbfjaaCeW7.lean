/- What Recs does. -/
import Derived.Test.YtaihabkacjbfjaaCeW6
namespace Go.Proofs.Ytaihabkacjbfjaa.Ce
open Go.RowKit

/-- A record lies at an address. -/
structure AtR (w : World) (a : Addr) (r : Rc) : Prop where
  c0 : w.cell? a = some (.int .i64 r.o.k)
  c1 : w.cell? ⟨a.block, a.off + 1, none⟩ = some (.int .i64 r.o.c)
  c2 : w.cell? ⟨a.block, a.off + 2, none⟩ = some (.int .i64 r.o.a)
  c3 : w.cell? ⟨a.block, a.off + 3, none⟩ = some (.int .i64 r.o.v)
  c4 : w.cell? ⟨a.block, a.off + 4, none⟩ = some (.int .i64 r.o.w)
  c5 : w.cell? ⟨a.block, a.off + 5, none⟩ = some (.int .i64 r.got)
  c6 : w.cell? ⟨a.block, a.off + 6, none⟩ = some (.bool r.ok)
theorem add_add (a : Addr) (i j : Nat) : (a.add i).add j = a.add (i + j) := by
  unfold Addr.add
  by_cases h1 : i = 0 <;> by_cases h2 : j = 0 <;> simp [h1, h2, Nat.add_assoc]
theorem add_off (a : Addr) (i : Nat) (h : i ≠ 0) : (⟨a.block, a.off + i, none⟩ : Addr) = a.add i := by simp [Addr.add, h]
theorem atR_of {w : World} {ao : Option Addr} {l : List Rc} (h : Row w ao (recs l)) (k : Nat) (hk : k < l.length) : ∃ a, ao = some a ∧ AtR w (a.add (k * 7)) (l.getD k Rc.zero) := by
  have g := fun (i : Nat) (hi : i < 7) (u : Value) (hu : (rcC (l.getD k Rc.zero))[i]? = some u) => h.cell (k * 7 + i) u ((recs_at l k i hi hk).trans hu)
  obtain ⟨a, rfl, h0⟩ := g 0 (by omega) _ rfl
  refine ⟨a, rfl, h0, ?_, ?_, ?_, ?_, ?_, ?_⟩
  all_goals rw [add_off _ _ (by decide), add_add]
  · obtain ⟨_, e, h⟩ := g 1 (by omega) _ rfl; cases e; exact h
  · obtain ⟨_, e, h⟩ := g 2 (by omega) _ rfl; cases e; exact h
  · obtain ⟨_, e, h⟩ := g 3 (by omega) _ rfl; cases e; exact h
  · obtain ⟨_, e, h⟩ := g 4 (by omega) _ rfl; cases e; exact h
  · obtain ⟨_, e, h⟩ := g 5 (by omega) _ rfl; cases e; exact h
  · obtain ⟨_, e, h⟩ := g 6 (by omega) _ rfl; cases e; exact h

end Go.Proofs.Ytaihabkacjbfjaa.Ce
