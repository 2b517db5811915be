/- What the document's meet does. -/
import Derived.Test.YtpcdjpcdmnjdfaaPoR1
import Derived.Test.YtpcdjpcdmnjdfaaPoR3
import Derived.Test.YtpcdjpcdmnjdfaaPoW6
namespace Go.Proofs.Ytpcdjpcdmnjdfaa.Po
open Go.RowKit

/-- What a call of the document's says of its answer. -/
structure AnsR (w w' : World) (y : Hd) (k : List Wt) (z : Hd) (l : List Wt) : Prop where
  has : HasQ w' z l
  off : ∀ S : Nat → Prop, (∀ i, S i → i < w.heap.size) → Off S y.o (wts k) → Off S z.o (wts l)
  low : Below w.heap.size w w'
theorem Ans.plain {w w' : World} {y z : Hd} {k l : List Wt} (h : Ans w w' z l) : AnsR w w' y k z l := ⟨h.has, fun _ hS _ h0 a e s => h.new h0 a e (hS _ s), h.low⟩
theorem HasQ.old {w : World} {y : Hd} {l : List Wt} (h : HasQ w y l) : Off (fun i => w.heap.size ≤ i) y.o (wts l) := fun h0 a e s => by
  obtain ⟨a', e', hl⟩ := h.row.lt h0
  rw [e] at e'
  cases e'
  have s : w.heap.size ≤ a.block := s
  omega
/-- A call within a call: its boxes are not where the list lies. -/
theorem AnsR.boxes {w W w2 : World} {y z : Hd} {k l : List Wt} (h : AnsR W w2 y k z l) (hy : HasQ w y k) : Off (fun i => w.heap.size ≤ i ∧ i < W.heap.size) z.o (wts l) := h.off _ (fun _ s => s.2) (fun h0 a e s => hy.old h0 a e s.1)
theorem AnsR.up {w W w2 w' : World} {y z : Hd} {k l : List Wt} (h : AnsR W w2 y k z l) (b : Below w.heap.size w W) (hq : HasQ w' z l) (q : Below w.heap.size w w') : AnsR w w' y k z l := ⟨hq, fun S hS => h.off S (fun i s => Nat.lt_of_lt_of_le (hS i s) b.size), q⟩
theorem HasQ.put38 {w : World} {z : Hd} {l : List Wt} {b c : Nat} {q : Pt} {u : Hd} {v : Wt} {S : Nat → Prop} (h : HasQ w z l) (hn : Off S z.o (wts l)) (hb : S b) (hc : S c) : HasQ (put8 (put3 w b q u) c v) z l :=
  (h.kept (kept_put3 w b q u) (fun h0 a e s => hn h0 a e (by have s : a.block = b := s; rw [s]; exact hb))).kept (kept_put8 _ c v) (fun h0 a e s => hn h0 a e (by have s : a.block = c := s; rw [s]; exact hc))
theorem app_below2 {w w1 : World} {o : Obj} {E : TypeId} {n c : Nat} (h : ((w.alloc o).alloc (.cells #[] E)).grownBy w1 (Value.ownBlock (.slice (some ⟨w.heap.size + 1, 0, none⟩) n c))) : Below w.heap.size w w1 :=
  (((Below.refl _ w).alloc (Nat.le_refl _) _).alloc (by simp) _).grown h (by simp; omega) (fun k e => by cases e; exact Nat.le_succ _)
theorem app_below3 {w w1 : World} {o : Obj} {E : TypeId} {n c : Nat} (h : ((w.alloc (.cells #[] E)).alloc o).grownBy w1 (Value.ownBlock (.slice (some ⟨w.heap.size, 0, none⟩) n c))) : Below w.heap.size w w1 :=
  (((Below.refl _ w).alloc (Nat.le_refl _) _).alloc (by simp) _).grown h (by simp; omega) (fun k e => by cases e; exact Nat.le_refl _)
theorem row_off {X w5 : World} {b c n m : Nat} {cs : List Value} (h : Row X (some ⟨b, 0, none⟩) cs) (g : X.grownBy w5 (Value.ownBlock (.slice (some ⟨c, 0, none⟩) n m))) (hne : b ≠ c) : Row w5 (some ⟨b, 0, none⟩) cs :=
  h.kept (kept_grown g) (fun _ a e s => by
    cases e
    cases s
    exact hne rfl)
theorem own1W (x : Wt) (w : World) : ((w.alloc (.cells #[.int .i64 x.c, .int .i64 x.v, .int .i64 x.b, .bool x.h, .int .i64 x.o, .int .i64 x.s, .int .i64 x.g, .bool x.t] 28)).alloc (.cells #[] 28)).ownsRow w.heap.size 28 8 (.slice (some ⟨w.heap.size + 1, 0, none⟩) 0 0) 0 (wts []) := by
  have := World.ownsRow_made (base := w.heap.size) (e := 28) (size := 8) (w.alloc (.cells #[.int .i64 x.c, .int .i64 x.v, .int .i64 x.b, .bool x.h, .int .i64 x.o, .int .i64 x.s, .int .i64 x.g, .bool x.t] 28)) #[] 0 (by simp) (by decide) (by simp)
  rw [wts_nil]
  simpa using this
theorem wt_at1 (x : Wt) (w : World) : Row ((w.alloc (.cells #[] 28)).alloc (.cells #[.int .i64 x.c, .int .i64 x.v, .int .i64 x.b, .bool x.h, .int .i64 x.o, .int .i64 x.s, .int .i64 x.g, .bool x.t] 28)) (some ⟨w.heap.size + 1, 0, none⟩) (wts [x]) := by
  have := one_wt (w.alloc (.cells #[] 28)) x 28
  simpa using this
theorem B4.fin {w wr : World} {p q : Pt} {y z : Hd} {x v : Wt} (h : B4 w wr p q y z x v) (p' : Pt) (y' : Hd) (v' : Wt) : Below w.heap.size w (put8 (put3 wr (w.heap.size + 2) p' y') (w.heap.size + 3) v') := put8_low (put3_low h.low (Nat.le_add_right _ 2)) (Nat.le_add_right _ 3)
theorem B4.setK {w wx : World} {p q : Pt} {y z : Hd} {x v : Wt} (h : B4 w wx p q y z x v) (k : Int) : B4 w (wx.setCell ⟨w.heap.size, 0, none⟩ (.int .i64 k)) ⟨k, p.w, p.l⟩ q y z x v :=
  have kp : Kept (fun i => i = w.heap.size) wx (wx.setCell ⟨w.heap.size, 0, none⟩ (.int .i64 k)) := kept_set (fun i => i = w.heap.size) wx ⟨w.heap.size, 0, none⟩ _ rfl
  ⟨h.a.setK k, h.b.kept kp (by omega), h.r.kept kp (by omega), h.s.kept kp (by omega), q_set h.low (Nat.le_refl _) _⟩
theorem B4.setQ {w wx : World} {p q : Pt} {y z : Hd} {x v : Wt} (h : B4 w wx p q y z x v) (l : List Wt) (u : Hd) : B4 w (wx.setCell ⟨w.heap.size, 2, none⟩ (.slice u.o u.n u.c)) ⟨p.k, p.w, l⟩ q u z x v :=
  have kp : Kept (fun i => i = w.heap.size) wx (wx.setCell ⟨w.heap.size, 2, none⟩ (.slice u.o u.n u.c)) := kept_set (fun i => i = w.heap.size) wx ⟨w.heap.size, 2, none⟩ _ rfl
  ⟨h.a.setQ l u, h.b.kept kp (by omega), h.r.kept kp (by omega), h.s.kept kp (by omega), q_set h.low (Nat.le_refl _) _⟩
end Go.Proofs.Ytpcdjpcdmnjdfaa.Po
