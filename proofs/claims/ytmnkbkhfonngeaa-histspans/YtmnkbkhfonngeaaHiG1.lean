/- A history in a box; an act, a span that are read at once. -/
import Derived.Test.YtmnkbkhfonngeaaHiDoes
import Derived.Test.YtmnkbkhfonngeaaHiLd
import Derived.Test.YtmnkbkhfonngeaaHiLv
import Derived.Test.YtmnkbkhfonngeaaHiLay
namespace Go.Proofs.Ytmnkbkhfonngeaa.Hi
open Go.RowKit

theorem lz_is (x : Value) : Instr.loadAt 36 x = LZ x := rfl
theorem do_sm {h : Hs} {a : Ac} {n : Nat} (g : h.s.length ≤ n ∧ h.e.length ≤ n ∧ ShortE h.e) (k : a.e.l.length ≤ 5000) : (doH h a).s.length ≤ n + 1 ∧ (doH h a).e.length ≤ n + 1 ∧ ShortE (doH h a).e := by
  have := do_len h a
  exact ⟨by omega, by omega, do_short g.2.2 k⟩
/-- A history, in a box. -/
structure G1 (w wr : World) (x : Hh) (h : Hs) : Prop where
  a : Hb wr w.heap.size x
  ha : HasH wr x h
  low : Below w.heap.size w wr
theorem G1.below {w wr w' : World} {x : Hh} {h : Hs} (g : G1 w wr x h) (q : Below wr.heap.size wr w') : G1 w w' x h := ⟨g.a.below q, g.ha.below q, q_trans g.low q⟩
theorem g1_new (w : World) : G1 w (w.alloc (.cells #[.slice none 0 0, .slice none 0 0] 25)) nilX h0 := ⟨hb_new w nilX, hasH_nil _, alloc_below _ _⟩
theorem g1_put {w wr w9 : World} {x v : Hh} {h H : Hs} (g : G1 w wr x h) (b : Below wr.heap.size wr w9) (hv : HasH w9 v H) : G1 w (put2 w9 w.heap.size v) v H := by
  have h9 : Hb w9 w.heap.size x := g.a.below b
  exact ⟨h9.put, hv.put h9, put2_low (q_trans g.low b) (Nat.le_refl _)⟩
/-- A span is read at once: a name that no rule lays open. -/
def LS (x : Value) : Sem Value := Instr.loadAt 50 x
theorem ls_is (x : Value) : Instr.loadAt 50 x = LS x := rfl
theorem ls_run {w : World} {a : Addr} {p : Sp} (hc : ∀ j v, (spC p)[j]? = some v → w.cell? (a.add j) = some v) : (LS (.pointer (some a))).run Try.prog w = .ok (.agg #[.int .i64 p.co, .int .i64 p.c.k, .int .u64 p.c.a, .int .u64 p.c.b, .int .i64 p.c.r, .int .i64 p.c.g, .int .i64 p.c.t, .int .i64 p.c.s, .int .i64 p.c.v, .int .i64 p.st, .int .i64 p.en, .int .i64 p.r.e, .int .i64 p.r.v, .int .i64 p.r.b, .bool p.r.t]) w :=
  run_ld (cs := spC p) hc Try.underlying50 rfl (by kernel_rfl)
theorem Sb.ls {w : World} {b : Nat} {p : Sp} (g : Sb w b p) : (LS (.pointer (some ⟨b, 0, none⟩))).run Try.prog w = .ok (.agg #[.int .i64 p.co, .int .i64 p.c.k, .int .u64 p.c.a, .int .u64 p.c.b, .int .i64 p.c.r, .int .i64 p.c.g, .int .i64 p.c.t, .int .i64 p.c.s, .int .i64 p.c.v, .int .i64 p.st, .int .i64 p.en, .int .i64 p.r.e, .int .i64 p.r.v, .int .i64 p.r.b, .bool p.r.t]) w := by
  refine ls_run (fun j v hv => ?_)
  rw [add_box]
  unfold World.cell?
  simp only [g.h]
  have : (spC p)[j]? = #[.int .i64 p.co, .int .i64 p.c.k, .int .u64 p.c.a, .int .u64 p.c.b, .int .i64 p.c.r, .int .i64 p.c.g, .int .i64 p.c.t, .int .i64 p.c.s, .int .i64 p.c.v, .int .i64 p.st, .int .i64 p.en, .int .i64 p.r.e, .int .i64 p.r.v, .int .i64 p.r.b, .bool p.r.t][j]? := by rw [show #[.int .i64 p.co, .int .i64 p.c.k, .int .u64 p.c.a, .int .u64 p.c.b, .int .i64 p.c.r, .int .i64 p.c.g, .int .i64 p.c.t, .int .i64 p.c.s, .int .i64 p.c.v, .int .i64 p.st, .int .i64 p.en, .int .i64 p.r.e, .int .i64 p.r.v, .int .i64 p.r.b, .bool p.r.t] = (spC p).toArray from rfl]; simp
  rw [this] at hv
  simpa using hv
end Go.Proofs.Ytmnkbkhfonngeaa.Hi
