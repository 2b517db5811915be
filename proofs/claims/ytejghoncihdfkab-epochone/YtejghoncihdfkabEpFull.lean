/- What EpochFull does, over the program's contracts. -/
import Derived.Test.YtejghoncihdfkabEpOne
namespace Go.Proofs.Ytejghoncihdfkab.Ep
open Go.RowKit

/-- Epochs in their box, behind a function's door. -/
structure Fl (w wr : World) (B : Nat) (z : WE) (f : E) : Prop where
  low : Below w.heap.size w wr
  be : Be wr No B z f
  b : w.heap.size ≤ B
theorem Fl.below {w wr W : World} {B : Nat} {z : WE} {f : E} (h : Fl w wr B z f) (hb : Below wr.heap.size wr W) : Fl w W B z f := ⟨q_trans h.low hb, h.be.below hb, h.b⟩
theorem Fl.put {w wr : World} {B : Nat} {y z : WE} {e f : E} {n : Int} (h : Fl w wr B y e) (hn : f.now = n) (hz : HasE wr (fun i => False ∨ i = B) z f) : Fl w (((wr.setCell ⟨B, 0, none⟩ (.int .i64 n)).setCell ⟨B, 1, none⟩ (.slice z.p.o z.p.n z.p.c)).setCell ⟨B, 2, none⟩ (.slice z.l.o z.l.n z.l.c)) B z f :=
  ⟨fin_lowR h.low h.b _ _ _, put_at hn h.be hz, h.b⟩
end Go.Proofs.Ytejghoncihdfkab.Ep
