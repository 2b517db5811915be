/- PortMany: the port's box, and what lies below it. -/
import Derived.Test.YtpcdjpcdmnjdfabPoMany
namespace Go.Proofs.Ytpcdjpcdmnjdfab.Po
open Go.RowKit

structure Ms (w wr : World) (p : Pt) (y : Hd) : Prop where
  sp : Hp wr w.heap.size p y
  low : Below w.heap.size w wr
theorem Ms.below {w wr w' : World} {p : Pt} {y : Hd} (h : Ms w wr p y) (b : Below wr.heap.size wr w') : Ms w w' p y := ⟨h.sp.below b, q_trans h.low b⟩
theorem Ms.put {w wr : World} {p d : Pt} {y u : Hd} (h : Ms w wr p y) (hu : HasQ wr u d.l) : Ms w (put3 wr w.heap.size d u) d u := ⟨hp_put h.sp.pb hu, put3_low h.low (Nat.le_refl _)⟩
/-- The answer is stored into q's box. -/
theorem ms_q {w W1 X w9 : World} {b : Nat} {p q d : Pt} {y u z : Hd} (h : Ms w W1 p y) (hb : Pb W1 b q u) (hl : w.heap.size < b) (hX : Below W1.heap.size W1 X) (hz : Ans X w9 z d.l) :
    Ms w (put3 w9 b d z) p y ∧ Hp (put3 w9 b d z) b d z := by
  have g := (h.below hX).below hz.low
  have gb := (hb.below hX).below hz.low
  exact ⟨⟨g.sp.beside gb (by omega), put3_low g.low (by omega)⟩, hp_put gb hz.has⟩
/-- The answers are stored into q's box and w's, which lie above all that there was. -/
theorem ms_qw {w V W1 X w9 : World} {b : Nat} {p q d : Pt} {y u z : Hd} {x v : Wt} (h : Ms w V p y) (hV : Below V.heap.size V W1) (hv : V.heap.size ≤ b) (hb : Pb W1 b q u) (hc : Wb W1 (b + 1) x) (hX : Below W1.heap.size W1 X) (hz : Ans X w9 z d.l) :
    Ms w (put8 (put3 w9 b d z) (b + 1) v) p y ∧ Hp (put8 (put3 w9 b d z) (b + 1) v) b d z ∧ Wb (put8 (put3 w9 b d z) (b + 1) v) (b + 1) v := by
  have g := ((h.below hV).below hX).below hz.low
  have gb := (hb.below hX).below hz.low
  have gc := (hc.below hX).below hz.low
  have hl := h.sp.pb.lt
  have hcl : b + 1 < X.heap.size := (hc.below hX).lt
  have k8 := kept_put8 (put3 w9 b d z) (b + 1) v
  have g3 := g.sp.beside gb (q' := d) (z' := z) (by omega)
  have ho := h.sp.has.old
  refine ⟨⟨⟨g3.pb.kept k8 (by omega), g3.has.kept k8 (fun h0 a e s => ho h0 a e ?_)⟩, put8_low (put3_low g.low (by omega)) (by omega)⟩, ⟨(gb.put (p' := d) (y' := z)).kept k8 (by omega), (hz.has.put gb).kept k8 (fun h0 a e s => hz.new h0 a e ?_)⟩, (gc.kept (kept_put3 w9 b d z) (by omega)).put⟩
  · have s : a.block = b + 1 := s
    show V.heap.size ≤ a.block
    omega
  · have s : a.block = b + 1 := s
    show a.block < _
    omega
theorem ms_two (V : World) (p : Pt) (y : Hd) : Pb ((V.alloc (.cells #[.int .i64 p.k, .int .i64 p.w, .slice y.o y.n y.c] 25)).alloc (.cells #[.int .i64 z0.c, .int .i64 z0.v, .int .i64 z0.b, .bool z0.h, .int .i64 z0.o, .int .i64 z0.s, .int .i64 z0.g, .bool z0.t] 30)) V.heap.size p y ∧ Wb ((V.alloc (.cells #[.int .i64 p.k, .int .i64 p.w, .slice y.o y.n y.c] 25)).alloc (.cells #[.int .i64 z0.c, .int .i64 z0.v, .int .i64 z0.b, .bool z0.h, .int .i64 z0.o, .int .i64 z0.s, .int .i64 z0.g, .bool z0.t] 30)) (V.heap.size + 1) z0 ∧ Below V.heap.size V ((V.alloc (.cells #[.int .i64 p.k, .int .i64 p.w, .slice y.o y.n y.c] 25)).alloc (.cells #[.int .i64 z0.c, .int .i64 z0.v, .int .i64 z0.b, .bool z0.h, .int .i64 z0.o, .int .i64 z0.s, .int .i64 z0.g, .bool z0.t] 30)) := by
  have h := wb_new (V.alloc (.cells #[.int .i64 p.k, .int .i64 p.w, .slice y.o y.n y.c] 25)) z0
  rw [show (V.alloc (.cells #[.int .i64 p.k, .int .i64 p.w, .slice y.o y.n y.c] 25)).heap.size = V.heap.size + 1 by simp] at h
  exact ⟨(pb_new V p y).below (alloc_below _ _), h, q_alloc (alloc_below _ _) _⟩
end Go.Proofs.Ytpcdjpcdmnjdfab.Po
