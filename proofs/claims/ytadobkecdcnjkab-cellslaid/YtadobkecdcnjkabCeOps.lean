/- Steps of a list that came in; a step in a law. -/
import Derived.Test.YtadobkecdcnjkabCeLive
namespace Go.Proofs.Ytadobkecdcnjkab.Ce
open Go.RowKit

/-- A step lies at an address. -/
structure AtO (w : World) (a : Addr) (o : O) : Prop where
  c0 : w.cell? a = some (.int .i64 o.k)
  c1 : w.cell? ⟨a.block, a.off + 1, none⟩ = some (.int .i64 o.c)
  c2 : w.cell? ⟨a.block, a.off + 2, none⟩ = some (.int .i64 o.a)
  c3 : w.cell? ⟨a.block, a.off + 3, none⟩ = some (.int .i64 o.v)
  c4 : w.cell? ⟨a.block, a.off + 4, none⟩ = some (.int .i64 o.w)
theorem atO_of {w : World} {ao : Option Addr} {l : List O} (h : Row w ao (ops l)) (k : Nat) (hk : k < l.length) : ∃ a, ao = some a ∧ AtO w (a.add (k * 5)) (l.getD k O.zero) := by
  have g := fun (i : Nat) (hi : i < 5) (u : Value) (hu : (opC (l.getD k O.zero))[i]? = some u) => h.cell (k * 5 + i) u ((ops_at l k i hi hk).trans hu)
  obtain ⟨a, rfl, h0⟩ := g 0 (by omega) _ rfl
  refine ⟨a, rfl, h0, ?_, ?_, ?_, ?_⟩
  all_goals rw [add_off _ _ (by decide), add_add]
  · obtain ⟨_, e, h⟩ := g 1 (by omega) _ rfl; cases e; exact h
  · obtain ⟨_, e, h⟩ := g 2 (by omega) _ rfl; cases e; exact h
  · obtain ⟨_, e, h⟩ := g 3 (by omega) _ rfl; cases e; exact h
  · obtain ⟨_, e, h⟩ := g 4 (by omega) _ rfl; cases e; exact h
theorem AtO.lt {w : World} {a : Addr} {o : O} (h : AtO w a o) : a.block < w.heap.size := World.block_lt_of_cell? w _ h.c0
theorem AtO.block_lt {w : World} {a : Addr} {k : Nat} {o : O} (h : AtO w (a.add k) o) : a.block < w.heap.size := by have := h.lt; rwa [add_block] at this
/-- Steps and records bear on cells where they lie: what a step of Do leaves. -/
theorem Cel.foot_below {w w' W0 : World} {B p g vcap : Nat} {tao : Option Addr} {tcap : Nat} {s : S} (h : Cel w B p g vcap tao tcap s) (k : Kept (foot p g tao) w w') (hb : Below B W0 w) (hB : B ≤ W0.heap.size) : Below B W0 w' :=
  hb.trans (k.below B (Nat.le_trans hB hb.size) (fun i e => (h.lt i e).1))
theorem Cel.not_foot {w : World} {B p g vcap : Nat} {tao : Option Addr} {tcap : Nat} {s : S} (h : Cel w B p g vcap tao tcap s) {i : Nat} (hi : w.heap.size ≤ i) : ¬ foot p g tao i := fun e => by have := (h.lt i e).2; omega
end Go.Proofs.Ytadobkecdcnjkab.Ce
