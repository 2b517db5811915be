/- A slice of a list of steps, of keys, up to a place; the root's box while others are laid. -/
import Derived.Test.YthnfekdoibhnpaaDoorAdBox
import Derived.Deep.RegionHeld3
namespace Go.Proofs.YthnfekdoibhnpaaDoor.Ad
open Go.RowKit
open Cp (K)

theorem run_toS (ao : Option Addr) (k n cap : Nat) (hk : k ≤ cap) (W : World) :
    (Instr.slice 22 (.slice ao n cap) none (some (.int .i64 k)) none).run Tryd.prog W = .ok (.slice ao k cap) W := by
  have hb := fun code => run_sliceBound (P := Tryd.prog) (w := W) .i64 (k : Int) cap code (by omega) (by omega)
  have ha : ao.map (fun a => a.add 0) = ao := by cases ao <;> simp [Addr.add]
  simp [Instr.slice, Instr.sliceBounds, run_underlying Tryd.underlying22, hb, Tryd.sizeOf56, ha]
theorem run_toK (ao : Option Addr) (k n cap : Nat) (hk : k ≤ cap) (W : World) :
    (Instr.slice 45 (.slice ao n cap) none (some (.int .i64 k)) none).run Tryd.prog W = .ok (.slice ao k cap) W := by
  have hb := fun code => run_sliceBound (P := Tryd.prog) (w := W) .i64 (k : Int) cap code (by omega) (by omega)
  have ha : ao.map (fun a => a.add 0) = ao := by cases ao <;> simp [Addr.add]
  simp [Instr.slice, Instr.sliceBounds, run_underlying Tryd.underlying45, hb, Tryd.sizeOf43, ha]
theorem HasP.take {w : World} {ao : Option Addr} {n cap : Nat} {l : List P} (h : HasP w ao n cap l) (k : Nat) (hk : k ≤ n) : HasP w ao k cap (l.take k) := by
  refine ⟨by have := h.len; simp; omega, h.nil, Nat.le_trans hk h.cap, ⟨fun j u hu => ?_⟩⟩
  refine h.row.cell j u ?_
  have e : prs l = prs (l.take k) ++ prs (l.drop k) := by rw [← prs_app, List.take_append_drop]
  rw [e, List.getElem?_append_left (List.getElem?_eq_some_iff.1 hu).1]
  exact hu
/-- The root's five numbers, in a box. -/
abbrev SR (b : Nat) (r : K) (w : World) : Prop := w.cell? ⟨b, 0, none⟩ = some (.int .i64 r.t) ∧ w.cell? ⟨b, 1, none⟩ = some (.int .i64 r.r) ∧ w.cell? ⟨b, 2, none⟩ = some (.int .i64 r.b) ∧ w.cell? ⟨b, 3, none⟩ = some (.int .i64 r.o) ∧ w.cell? ⟨b, 4, none⟩ = some (.int .i64 r.g)
theorem sr_at {b : Nat} {r : K} {w : World} (h : AtK w ⟨b, 0, none⟩ r) : SR b r w := ⟨h.c0, h.c1, h.c2, h.c3, h.c4⟩
theorem at_sr {b : Nat} {r : K} {w : World} (h : SR b r w) : AtK w ⟨b, 0, none⟩ r := ⟨h.1, h.2.1, h.2.2.1, h.2.2.2.1, h.2.2.2.2⟩
theorem sr_drew {b : Nat} {r : K} {w : World} (h : SR b r w) : SR b r w.drew := h
theorem sr_keep {b : Nat} {r : K} {w w' : World} (h : SR b r w) (q : Below w.heap.size w w') : SR b r w' := sr_at ((at_sr h).below q)
theorem sr_alloc {b : Nat} {r : K} {w : World} (h : SR b r w) (o : Obj) : SR b r (w.alloc o) := sr_keep h (alloc_below w o)
theorem size_alloc (w : World) (o : Obj) : (w.alloc o).heap.size = w.heap.size + 1 := by simp
theorem kept2 (w : World) (d : Nat) (u0 u1 : Value) : Kept (fun i => i = d) w ((w.setCell ⟨d, 0, none⟩ u0).setCell ⟨d, 1, none⟩ u1) := by
  refine Kept.setCell ?_ ⟨d, 1, none⟩ u1 (fun _ => rfl)
  exact kept_set _ w ⟨d, 0, none⟩ u0 rfl
theorem AtK.kept {S : Nat → Prop} {w w' : World} {a : Addr} {k : K} (h : AtK w a k) (q : Kept S w w') (hn : ¬ S a.block) : AtK w' a k := ⟨q.cell h.c0 hn, q.cell h.c1 hn, q.cell h.c2 hn, q.cell h.c3 hn, q.cell h.c4 hn⟩
theorem sr_two {b d : Nat} {r : K} {w : World} {u0 u1 : Value} (h : SR b r w) (hn : b ≠ d) : SR b r ((w.setCell ⟨d, 0, none⟩ u0).setCell ⟨d, 1, none⟩ u1) := sr_at ((at_sr h).kept (kept2 w d u0 u1) hn)
theorem Bp.set2 {w : World} {b : Nat} {c : P} (h : Bp w b c) (d : P) : Bp ((w.setCell ⟨b, 0, none⟩ (.int .i64 d.1)).setCell ⟨b, 1, none⟩ (.int .i64 d.2)) b d := by
  obtain ⟨c0, c1, f0, f1⟩ := h
  exact ⟨cell_set (cell_set c0), cell_set (cell_set c1), by rw [World.frozen?_setCell, World.frozen?_setCell]; exact f0, by rw [World.frozen?_setCell, World.frozen?_setCell]; exact f1⟩
theorem Bp.atP {w : World} {b : Nat} {c : P} (h : Bp w b c) : AtP w ⟨b, 0, none⟩ c := ⟨h.c0, h.c1⟩
theorem low2 {w W : World} {d : Nat} {u0 u1 : Value} (h : Below w.heap.size w W) (hd : w.heap.size ≤ d) : Below w.heap.size w ((W.setCell ⟨d, 0, none⟩ u0).setCell ⟨d, 1, none⟩ u1) := q_set (q_set h hd _) hd _
end Go.Proofs.YthnfekdoibhnpaaDoor.Ad
