/- What the document's Pin, Unpin do. -/
import Derived.Test.YtejghoncihdfkabEpRSet
namespace Go.Proofs.Ytejghoncihdfkab.Ep
open Go.RowKit

/-- Epochs apart from the result's box: they are as they were when it is written. -/
theorem fin_has {w W : World} {Av : Nat → Prop} {z : WE} {f : E} (h : HasE W (fun i => Av i ∨ i = w.heap.size + 1) z f) (u v x : Value) : HasE (((W.setCell ⟨w.heap.size + 1, 0, none⟩ u).setCell ⟨w.heap.size + 1, 1, none⟩ v).setCell ⟨w.heap.size + 1, 2, none⟩ x) Av z f :=
  (h.kept (kept_store W _ u v x) (fun _ s => .inr s)).less (fun _ s => .inl s)
theorem fin_low {w W : World} (h : Below w.heap.size w W) (u v x : Value) : Below w.heap.size w (((W.setCell ⟨w.heap.size + 1, 0, none⟩ u).setCell ⟨w.heap.size + 1, 1, none⟩ v).setCell ⟨w.heap.size + 1, 2, none⟩ x) :=
  q_set (q_set (q_set h (Nat.le_succ _) _) (Nat.le_succ _) _) (Nat.le_succ _) _
/-- What is handed in lies apart from the boxes. -/
theorem arg_has {w W : World} {Av : Nat → Prop} {y : WE} {e : E} (h : HasE w Av y e) (hb : Below w.heap.size w W) : HasE W (fun i => Av i ∨ i = w.heap.size + 1) y e :=
  (h.new.less (fun i s => by rcases s with s | s; exact .inl s; exact .inr (by omega))).below hb
theorem arg_lt {w W : World} {Av : Nat → Prop} (hA : ∀ i, Av i → i < w.heap.size) (hb : w.heap.size + 1 < W.heap.size) : ∀ i, (Av i ∨ i = w.heap.size + 1) → i < W.heap.size := by
  intro i s
  rcases s with s | s
  · have := hA i s; omega
  · omega
theorem ret_ep {v : Value} {a b : Int} (h : a = b) : Ending.returned (.tuple #[v, .int .i64 a]) = .returned (.tuple #[v, .int .i64 b]) := by rw [h]
end Go.Proofs.Ytejghoncihdfkab.Ep
