/- A struct is read at once. -/
import Derived.Test.YtmnkbkhfonngeaaHiW1
import Derived.Laws.Cells
import Derived.Laws.Rows
namespace Go.Proofs.Ytmnkbkhfonngeaa.Hi
open Go.RowKit

theorem run_ld {w : World} {a : Addr} {ty : TypeId} {cs : List Value} {d : TypeDesc} (hc : ∀ j v, cs[j]? = some v → w.cell? (a.add j) = some v)
    (hu : Try.prog.underlying ty = some d) (hd : (match d with | .struct _ => true | _ => false) = true) (hi : (Try.prog.info? ty).map (·.size) = some cs.length) :
    (Instr.loadAt ty (.pointer (some a))).run Try.prog w = .ok (.agg cs.toArray) w := by
  have hl : (loadCells a cs.length).run Try.prog w = .ok cs.toArray w := run_loadCells_list (P := Try.prog) w a cs hc
  cases hq : Try.prog.info? ty with
  | none => simp [hq] at hi
  | some i =>
    have hs : i.size = cs.length := by simpa [hq] using hi
    have hagg : (isAgg ty).run Try.prog w = .ok true w := by
      unfold isAgg
      rw [Sem.run_bind, run_underlying hu w]
      cases d <;> simp_all
    have hv : (loadVar ty a).run Try.prog w = .ok (.agg cs.toArray) w := by
      simp [loadVar, Sem.run_bind, hagg, sizeOf, typeInfo, hq, hs, hl]
    simp only [Instr.loadAt, Instr.sureAddr, Sem.run_bind, Sem.run_pure, Result.andThen_ok, hv]
/-- A load, by an equation of its own. -/
theorem wpList_ld {ops : Array Oper} {rest : List Oper} {op : Oper} {a : Act} {w : World} {Q : Exit → Act → World → Prop} (hgd : op.guard = none) (ty : TypeId) (x : Operand) (ho : op.op = .load ty x)
    (ad : Addr) (hx : a.eval x = .pointer (some ad)) (v : Value) (hv : (Instr.loadAt ty (.pointer (some ad))).run Try.prog w = .ok v w)
    (h : wpList Try.prog ops Q rest (a.put op.dst v) w) : wpList Try.prog ops Q (op :: rest) a w :=
  wpList_plain hgd fun _ hK => by
    unfold Oper.wp execOp
    simp only [ho, hx, Sem.run_bind, Sem.run_pure, Result.andThen_ok, hv]
    exact hK _ _ h
theorem add_box (b j : Nat) : (⟨b, 0, none⟩ : Addr).add j = ⟨b, j, none⟩ := by
  unfold Addr.add
  split
  · next e => rw [e]
  · simp
/-- An act in a box. -/
theorem Zb.ld {w : World} {b : Nat} {x : Ac × Hd} (g : Zb w b x) : (Instr.loadAt 36 (.pointer (some ⟨b, 0, none⟩))).run Try.prog w = .ok (.agg #[.int .i64 x.1.k, .int .i64 x.1.co, .int .i64 x.1.now, .int .i64 x.1.c.k, .int .u64 x.1.c.a, .int .u64 x.1.c.b, .int .i64 x.1.c.r, .int .i64 x.1.c.g, .int .i64 x.1.c.t, .int .i64 x.1.c.s, .int .i64 x.1.c.v, .int .i64 x.1.r.e, .int .i64 x.1.r.v, .int .i64 x.1.r.b, .bool x.1.r.t, .int .i64 x.1.e.k, .int .i64 x.1.e.co, .int .i64 x.1.e.c.k, .int .u64 x.1.e.c.a, .int .u64 x.1.e.c.b, .int .i64 x.1.e.c.r, .int .i64 x.1.e.c.g, .int .i64 x.1.e.c.t, .int .i64 x.1.e.c.s, .int .i64 x.1.e.c.v, .int .i64 x.1.e.sp, .slice x.2.o x.2.n x.2.c]) w := by
  refine run_ld (cs := acC x) (fun j v hv => ?_) Try.underlying36 rfl (by kernel_rfl)
  rw [add_box]
  unfold World.cell?
  simp only [g.h]
  have : (acC x)[j]? = #[.int .i64 x.1.k, .int .i64 x.1.co, .int .i64 x.1.now, .int .i64 x.1.c.k, .int .u64 x.1.c.a, .int .u64 x.1.c.b, .int .i64 x.1.c.r, .int .i64 x.1.c.g, .int .i64 x.1.c.t, .int .i64 x.1.c.s, .int .i64 x.1.c.v, .int .i64 x.1.r.e, .int .i64 x.1.r.v, .int .i64 x.1.r.b, .bool x.1.r.t, .int .i64 x.1.e.k, .int .i64 x.1.e.co, .int .i64 x.1.e.c.k, .int .u64 x.1.e.c.a, .int .u64 x.1.e.c.b, .int .i64 x.1.e.c.r, .int .i64 x.1.e.c.g, .int .i64 x.1.e.c.t, .int .i64 x.1.e.c.s, .int .i64 x.1.e.c.v, .int .i64 x.1.e.sp, .slice x.2.o x.2.n x.2.c][j]? := by rw [show #[.int .i64 x.1.k, .int .i64 x.1.co, .int .i64 x.1.now, .int .i64 x.1.c.k, .int .u64 x.1.c.a, .int .u64 x.1.c.b, .int .i64 x.1.c.r, .int .i64 x.1.c.g, .int .i64 x.1.c.t, .int .i64 x.1.c.s, .int .i64 x.1.c.v, .int .i64 x.1.r.e, .int .i64 x.1.r.v, .int .i64 x.1.r.b, .bool x.1.r.t, .int .i64 x.1.e.k, .int .i64 x.1.e.co, .int .i64 x.1.e.c.k, .int .u64 x.1.e.c.a, .int .u64 x.1.e.c.b, .int .i64 x.1.e.c.r, .int .i64 x.1.e.c.g, .int .i64 x.1.e.c.t, .int .i64 x.1.e.c.s, .int .i64 x.1.e.c.v, .int .i64 x.1.e.sp, .slice x.2.o x.2.n x.2.c] = (acC x).toArray from rfl]; simp
  rw [this] at hv
  simpa using hv
/-- An act of a list. -/
theorem ldZ_of {w : World} {ao : Option Addr} {l : List (Ac × Hd)} (h : Row w ao (l.flatMap acC)) (k : Nat) (hk : k < l.length) : ∃ a, ao = some a ∧ (Instr.loadAt 36 (.pointer (some (a.add (k * 27))))).run Try.prog w = .ok (.agg #[.int .i64 (l.getD k (a0, nilH)).1.k, .int .i64 (l.getD k (a0, nilH)).1.co, .int .i64 (l.getD k (a0, nilH)).1.now, .int .i64 (l.getD k (a0, nilH)).1.c.k, .int .u64 (l.getD k (a0, nilH)).1.c.a, .int .u64 (l.getD k (a0, nilH)).1.c.b, .int .i64 (l.getD k (a0, nilH)).1.c.r, .int .i64 (l.getD k (a0, nilH)).1.c.g, .int .i64 (l.getD k (a0, nilH)).1.c.t, .int .i64 (l.getD k (a0, nilH)).1.c.s, .int .i64 (l.getD k (a0, nilH)).1.c.v, .int .i64 (l.getD k (a0, nilH)).1.r.e, .int .i64 (l.getD k (a0, nilH)).1.r.v, .int .i64 (l.getD k (a0, nilH)).1.r.b, .bool (l.getD k (a0, nilH)).1.r.t, .int .i64 (l.getD k (a0, nilH)).1.e.k, .int .i64 (l.getD k (a0, nilH)).1.e.co, .int .i64 (l.getD k (a0, nilH)).1.e.c.k, .int .u64 (l.getD k (a0, nilH)).1.e.c.a, .int .u64 (l.getD k (a0, nilH)).1.e.c.b, .int .i64 (l.getD k (a0, nilH)).1.e.c.r, .int .i64 (l.getD k (a0, nilH)).1.e.c.g, .int .i64 (l.getD k (a0, nilH)).1.e.c.t, .int .i64 (l.getD k (a0, nilH)).1.e.c.s, .int .i64 (l.getD k (a0, nilH)).1.e.c.v, .int .i64 (l.getD k (a0, nilH)).1.e.sp, .slice (l.getD k (a0, nilH)).2.o (l.getD k (a0, nilH)).2.n (l.getD k (a0, nilH)).2.c]) w := by
  obtain ⟨a, e, _⟩ := atZ_of h k hk
  refine ⟨a, e, run_ld (cs := acC (l.getD k (a0, nilH))) (fun j v hv => ?_) Try.underlying36 rfl (by kernel_rfl)⟩
  have hj : j < 27 := by have := (List.getElem?_eq_some_iff.1 hv).1; simpa [acC] using this
  obtain ⟨a', e', hc⟩ := h.cell (k * 27 + j) v ((fm_at acC 27 acC_len l (a0, nilH) k j hj hk).trans hv)
  rw [e] at e'
  cases e'
  rw [add_add]
  exact hc
theorem ldS_of {w : World} {ao : Option Addr} {l : List Sp} (h : Row w ao (l.flatMap spC)) (k : Nat) (hk : k < l.length) : ∃ a, ao = some a ∧ (Instr.loadAt 50 (.pointer (some (a.add (k * 15))))).run Try.prog w = .ok (.agg #[.int .i64 (l.getD k s0).co, .int .i64 (l.getD k s0).c.k, .int .u64 (l.getD k s0).c.a, .int .u64 (l.getD k s0).c.b, .int .i64 (l.getD k s0).c.r, .int .i64 (l.getD k s0).c.g, .int .i64 (l.getD k s0).c.t, .int .i64 (l.getD k s0).c.s, .int .i64 (l.getD k s0).c.v, .int .i64 (l.getD k s0).st, .int .i64 (l.getD k s0).en, .int .i64 (l.getD k s0).r.e, .int .i64 (l.getD k s0).r.v, .int .i64 (l.getD k s0).r.b, .bool (l.getD k s0).r.t]) w := by
  obtain ⟨a, e, _⟩ := atS_of h k hk
  refine ⟨a, e, run_ld (cs := spC (l.getD k s0)) (fun j v hv => ?_) Try.underlying50 rfl (by kernel_rfl)⟩
  have hj : j < 15 := by have := (List.getElem?_eq_some_iff.1 hv).1; simpa [spC] using this
  obtain ⟨a', e', hc⟩ := h.cell (k * 15 + j) v ((fm_at spC 15 spC_len l s0 k j hj hk).trans hv)
  rw [e] at e'
  cases e'
  rw [add_add]
  exact hc
/-- An act is read at once: a name that no rule lays open. -/
def LZ (x : Value) : Sem Value := Instr.loadAt 36 x
theorem lz_run {w : World} {a : Addr} {p : Ac × Hd} (hc : ∀ j v, (acC p)[j]? = some v → w.cell? (a.add j) = some v) : (LZ (.pointer (some a))).run Try.prog w = .ok (.agg #[.int .i64 p.1.k, .int .i64 p.1.co, .int .i64 p.1.now, .int .i64 p.1.c.k, .int .u64 p.1.c.a, .int .u64 p.1.c.b, .int .i64 p.1.c.r, .int .i64 p.1.c.g, .int .i64 p.1.c.t, .int .i64 p.1.c.s, .int .i64 p.1.c.v, .int .i64 p.1.r.e, .int .i64 p.1.r.v, .int .i64 p.1.r.b, .bool p.1.r.t, .int .i64 p.1.e.k, .int .i64 p.1.e.co, .int .i64 p.1.e.c.k, .int .u64 p.1.e.c.a, .int .u64 p.1.e.c.b, .int .i64 p.1.e.c.r, .int .i64 p.1.e.c.g, .int .i64 p.1.e.c.t, .int .i64 p.1.e.c.s, .int .i64 p.1.e.c.v, .int .i64 p.1.e.sp, .slice p.2.o p.2.n p.2.c]) w :=
  run_ld (cs := acC p) hc Try.underlying36 rfl (by kernel_rfl)
/-- What is read of a history's box, and an act. -/
abbrev SZ (b : Nat) (x : Hh) (ad : Addr) (p : Ac × Hd) (w : World) : Prop := w.cell? ⟨b, 0, none⟩ = some (.slice x.s.o x.s.n x.s.c) ∧ w.cell? ⟨b, 1, none⟩ = some (.slice x.e.o x.e.n x.e.c) ∧ (LZ (.pointer (some ad))).run Try.prog w = .ok (.agg #[.int .i64 p.1.k, .int .i64 p.1.co, .int .i64 p.1.now, .int .i64 p.1.c.k, .int .u64 p.1.c.a, .int .u64 p.1.c.b, .int .i64 p.1.c.r, .int .i64 p.1.c.g, .int .i64 p.1.c.t, .int .i64 p.1.c.s, .int .i64 p.1.c.v, .int .i64 p.1.r.e, .int .i64 p.1.r.v, .int .i64 p.1.r.b, .bool p.1.r.t, .int .i64 p.1.e.k, .int .i64 p.1.e.co, .int .i64 p.1.e.c.k, .int .u64 p.1.e.c.a, .int .u64 p.1.e.c.b, .int .i64 p.1.e.c.r, .int .i64 p.1.e.c.g, .int .i64 p.1.e.c.t, .int .i64 p.1.e.c.s, .int .i64 p.1.e.c.v, .int .i64 p.1.e.sp, .slice p.2.o p.2.n p.2.c]) w ∧ Hid (∀ j v, (acC p)[j]? = some v → w.cell? (ad.add j) = some v)
theorem sz_keep {b : Nat} {x : Hh} {ad : Addr} {p : Ac × Hd} {W w : World} (h : SZ b x ad p W) (k : Below W.heap.size W w) : SZ b x ad p w := by
  have hc : Hid (∀ j v, (acC p)[j]? = some v → w.cell? (ad.add j) = some v) := fun j v hv => (k.cell (World.block_lt_of_cell? W _ (h.2.2.2.out j v hv))).trans (h.2.2.2.out j v hv)
  exact ⟨(k.cell (World.block_lt_of_cell? W _ h.1)).trans h.1, (k.cell (World.block_lt_of_cell? W _ h.2.1)).trans h.2.1, lz_run hc.out, hc⟩
theorem sz_of {w : World} {b : Nat} {x : Hh} {ao : Option Addr} {l : List (Ac × Hd)} (hb : Hb w b x) (h : Row w ao (l.flatMap acC)) (k : Nat) (hk : k < l.length) : ∃ a, ao = some a ∧ SZ b x (a.add (k * 27)) (l.getD k (a0, nilH)) w := by
  obtain ⟨a, e, _⟩ := atZ_of h k hk
  have hc : Hid (∀ j v, (acC (l.getD k (a0, nilH)))[j]? = some v → w.cell? ((a.add (k * 27)).add j) = some v) := fun j v hv => by
    have hj : j < 27 := by have := (List.getElem?_eq_some_iff.1 hv).1; simpa [acC] using this
    obtain ⟨a', e', hc⟩ := h.cell (k * 27 + j) v ((fm_at acC 27 acC_len l (a0, nilH) k j hj hk).trans hv)
    rw [e] at e'
    cases e'
    rw [add_add]
    exact hc
  exact ⟨a, e, hb.c0, hb.c1, lz_run hc.out, hc⟩
end Go.Proofs.Ytmnkbkhfonngeaa.Hi
