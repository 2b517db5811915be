/- What the document's Find does. -/
import Derived.Test.YthnfekdoibhnpaaDoorAdRGet
import Derived.Test.YthnfekdoibhnpaaDoorAdCap
namespace Go.Proofs.YthnfekdoibhnpaaDoor.Ad
open Go.RowKit
open Cp (K)

/-- A pair's box that may be written. -/
structure Bp (w : World) (b : Nat) (k : P) : Prop where
  c0 : w.cell? ⟨b, 0, none⟩ = some (.int .i64 k.1)
  c1 : w.cell? ⟨b, 1, none⟩ = some (.int .i64 k.2)
  f0 : w.frozen? ⟨b, 0, none⟩ = false
  f1 : w.frozen? ⟨b, 1, none⟩ = false
theorem Bp.lt {w : World} {b : Nat} {k : P} (h : Bp w b k) : b < w.heap.size := World.block_lt_of_cell? w _ h.c0
theorem Bp.below {w w' : World} {b : Nat} {k : P} (h : Bp w b k) (q : Below w.heap.size w w') : Bp w' b k :=
  ⟨(q.cell (p := ⟨b, 0, none⟩) h.lt).trans h.c0, (q.cell (p := ⟨b, 1, none⟩) h.lt).trans h.c1, (q.frozen (p := ⟨b, 0, none⟩) h.lt).trans h.f0, (q.frozen (p := ⟨b, 1, none⟩) h.lt).trans h.f1⟩
theorem bp_new (w : World) (x : P) (t : TypeId) : Bp (w.alloc (.cells #[.int .i64 x.1, .int .i64 x.2] t)) w.heap.size x := by constructor <;> simp
theorem bp_two (w : World) (o : Obj) (x : P) (t : TypeId) : Bp ((w.alloc o).alloc (.cells #[.int .i64 x.1, .int .i64 x.2] t)) (w.heap.size + 1) x := by
  have := bp_new (w.alloc o) x t
  simpa using this
set_option maxRecDepth 100000 in
set_option maxHeartbeats 1000000 in
theorem rFind_no (to ao : Option Addr) (m n cap cap' : Nat) (t : List (List K)) (r : K) (l : List P) (w : World) (h : okA l = false) (HL : Hid (HasP w ao n cap l)) :
    Calls Tryd.prog 20 #[.slice to m cap', (.agg #[.int .i64 r.t, .int .i64 r.r, .int .i64 r.b, .int .i64 r.o, .int .i64 r.g]), .slice ao n cap] w fun e w' => ∃ ko kn kc, e = .returned (.tuple #[(.agg #[.int .i64 (fndK t r l).1, .int .i64 (fndK t r l).2]), .slice ko kn kc, .int .i64 (fndE t r l)]) ∧ HasP w' ko kn kc (fndL t r l) ∧ Below w.heap.size w w' := by
  have HF := hid (fnd_no (t := t) (c := r) (l := l) (by simp [fndB, h]))
  have HI : Hid (∀ W : World, HasP W ao n cap l → Calls Tryd.prog 16 #[.slice ao n cap] W fun e w' => e = .returned (.bool false) ∧ Below W.heap.size W w') := by
    intro W hW
    have := ris_any ao n cap l W hW
    rwa [h] at this
  clear h
  go_enter Tryd.func20, Tryd.ntmps20
  go_wp2_with fail
  have B0 := hid (q_alloc (alloc_below w (.cells #[.int .i64 r.t, .int .i64 r.r, .int .i64 r.b, .int .i64 r.o, .int .i64 r.g] 41)) (.cells #[.int .i64 0, .int .i64 0] 43))
  have A0 : Hid (Bp ((w.alloc (.cells #[.int .i64 r.t, .int .i64 r.r, .int .i64 r.b, .int .i64 r.o, .int .i64 r.g] 41)).alloc (.cells #[.int .i64 0, .int .i64 0] 43)) (w.heap.size + 1) (0, 0)) := bp_two w _ (0, 0) 43
  refine (HI.out _ (HL.out.below B0.out)).mono ?_
  rintro e w1 ⟨rfl, b1⟩
  have A1 := hid (A0.out.below b1)
  have B1 := hid (q_trans B0.out b1)
  clear b1 A0 B0
  obtain ⟨p0, p1, p2, p3⟩ := A1.out
  go_wp2_with fail
  refine bodyPost_ret (v := .tuple #[.agg #[.int .i64 0, .int .i64 0], .slice none 0 0, .int .i64 120]) (by simp [results, Tryd.results20, go_sem, *]) rfl ⟨none, 0, 0, by rw [HF.out.2.1, HF.out.2.2], by rw [HF.out.1]; exact hasP_nil _, ?_⟩
  exact q_set (q_set B1.out (Nat.le_succ _) _) (Nat.le_succ _) _
end Go.Proofs.YthnfekdoibhnpaaDoor.Ad
