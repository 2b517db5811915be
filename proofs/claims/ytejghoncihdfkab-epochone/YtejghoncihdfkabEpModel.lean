/- What the statements' model does: the document's answer to an act. -/
import Derived.Test.YtejghoncihdfkabEpRNew
namespace Go.Proofs.Ytejghoncihdfkab.Ep
open Go.RowKit

theorem ret_em {v : Value} {o : Option Addr} {n m c : Nat} {a b : Int} (h : n = m) (k : a = b) : Ending.returned (.tuple #[v, .slice o n c, .int .i64 a]) = .returned (.tuple #[v, .slice o m c, .int .i64 b]) := by rw [h, k]
/-- Three boxes: epochs, an act, the result's. -/
structure B3 (w wr : World) (n : Int) (y : WE) (a : Ac) : Prop where
  low : Below w.heap.size w wr
  e : InE wr w.heap.size n y
  k0 : wr.cell? ⟨w.heap.size + 1, 0, none⟩ = some (.int .i64 a.kind)
  k1 : wr.cell? ⟨w.heap.size + 1, 1, none⟩ = some (.int .i64 a.core)
  k2 : wr.cell? ⟨w.heap.size + 1, 2, none⟩ = some (.int .i64 a.obj)
  r : InE wr (w.heap.size + 1 + 1) 0 WE.zero
theorem b3_start (w : World) (n : Int) (y : WE) (a : Ac) (T T' : TypeId) : B3 w (((w.alloc (.cells #[.int .i64 n, .slice y.p.o y.p.n y.p.c, .slice y.l.o y.l.n y.l.c] T)).alloc (.cells #[.int .i64 a.kind, .int .i64 a.core, .int .i64 a.obj] T')).alloc (.cells #[.int .i64 0, .slice none 0 0, .slice none 0 0] T)) n y a := by
  have hA : Below w.heap.size w (((w.alloc (.cells #[.int .i64 n, .slice y.p.o y.p.n y.p.c, .slice y.l.o y.l.n y.l.c] T)).alloc (.cells #[.int .i64 a.kind, .int .i64 a.core, .int .i64 a.obj] T')).alloc (.cells #[.int .i64 0, .slice none 0 0, .slice none 0 0] T)) := q_alloc (q_alloc (alloc_below _ _) _) _
  refine ⟨hA, ((inE_new w n y T).below (alloc_below _ _)).below (alloc_below _ _), ?_, ?_, ?_, ?_⟩
  · rw [(alloc_below ((w.alloc (.cells #[.int .i64 n, .slice y.p.o y.p.n y.p.c, .slice y.l.o y.l.n y.l.c] T)).alloc (.cells #[.int .i64 a.kind, .int .i64 a.core, .int .i64 a.obj] T')) _).cell (by simp)]; simp
  · rw [(alloc_below ((w.alloc (.cells #[.int .i64 n, .slice y.p.o y.p.n y.p.c, .slice y.l.o y.l.n y.l.c] T)).alloc (.cells #[.int .i64 a.kind, .int .i64 a.core, .int .i64 a.obj] T')) _).cell (by simp)]; simp
  · rw [(alloc_below ((w.alloc (.cells #[.int .i64 n, .slice y.p.o y.p.n y.p.c, .slice y.l.o y.l.n y.l.c] T)).alloc (.cells #[.int .i64 a.kind, .int .i64 a.core, .int .i64 a.obj] T')) _).cell (by simp)]; simp
  · have h := inE_new ((w.alloc (.cells #[.int .i64 n, .slice y.p.o y.p.n y.p.c, .slice y.l.o y.l.n y.l.c] T)).alloc (.cells #[.int .i64 a.kind, .int .i64 a.core, .int .i64 a.obj] T')) 0 WE.zero T
    have e : ((w.alloc (.cells #[.int .i64 n, .slice y.p.o y.p.n y.p.c, .slice y.l.o y.l.n y.l.c] T)).alloc (.cells #[.int .i64 a.kind, .int .i64 a.core, .int .i64 a.obj] T')).heap.size = w.heap.size + 1 + 1 := by simp
    rw [e] at h
    exact h
theorem B3.below {w wr w' : World} {n : Int} {y : WE} {a : Ac} (h : B3 w wr n y a) (b : Below wr.heap.size wr w') : B3 w w' n y a :=
  ⟨q_trans h.low b, h.e.below b, (b.cell (World.block_lt_of_cell? wr _ h.k0)).trans h.k0, (b.cell (World.block_lt_of_cell? wr _ h.k1)).trans h.k1, (b.cell (World.block_lt_of_cell? wr _ h.k2)).trans h.k2, h.r.below b⟩
theorem fin_hasR {w0 : World} {Av : Nat → Prop} {z : WE} {f : E} {r : Nat} (h : HasE w0 (fun i => Av i ∨ i = r) z f) (u v x : Value) : HasE (((w0.setCell ⟨r, 0, none⟩ u).setCell ⟨r, 1, none⟩ v).setCell ⟨r, 2, none⟩ x) Av z f :=
  (h.kept (kept_store w0 _ u v x) (fun _ s => .inr s)).less (fun _ s => .inl s)
theorem fin_lowR {w w0 : World} {r : Nat} (h : Below w.heap.size w w0) (hr : w.heap.size ≤ r) (u v x : Value) : Below w.heap.size w (((w0.setCell ⟨r, 0, none⟩ u).setCell ⟨r, 1, none⟩ v).setCell ⟨r, 2, none⟩ x) :=
  q_set (q_set (q_set h hr _) hr _) hr _
theorem arg_hasR {w w0 : World} {Av : Nat → Prop} {y : WE} {e : E} {r : Nat} (h : HasE w Av y e) (hb : Below w.heap.size w w0) (hr : w.heap.size ≤ r) : HasE w0 (fun i => Av i ∨ i = r) y e :=
  (h.new.less (fun i s => by rcases s with s | s; exact .inl s; exact .inr (by omega))).below hb
theorem arg_ltR {w w0 : World} {Av : Nat → Prop} {r : Nat} (hA : ∀ i, Av i → i < w.heap.size) (hb : w.heap.size ≤ w0.heap.size) (hr : r < w0.heap.size) : ∀ i, (Av i ∨ i = r) → i < w0.heap.size := by
  intro i s
  rcases s with s | s
  · have := hA i s; omega
  · omega
theorem now_pin (e : E) (c : Int) : (pinA e c).now = e.now := by unfold pinA; split <;> rfl
theorem now_un (e : E) (c : Int) : (unA e c).now = e.now := by unfold unA; split <;> rfl
theorem now_re (e : E) (c o : Int) : (reA e c o).now = e.now := by unfold reA; split <;> rfl
theorem now_rp (e : E) (c : Int) : (rpA e c).now = e.now := by unfold rpA; split <;> rfl
/-- A list's row stays, where the result's box is written. -/
theorem has_store {w0 : World} {r : Nat} {o : Option Addr} {m c : Nat} {l : List Int} (h : Has w0 o m c l) (hr : ∀ a, o = some a → 0 < l.length → a.block ≠ r) (u v x : Value) : Has (((w0.setCell ⟨r, 0, none⟩ u).setCell ⟨r, 1, none⟩ v).setCell ⟨r, 2, none⟩ x) o m c l :=
  h.kept (kept_store w0 r u v x) (fun h0 a e s => hr a e (by rw [len_vals] at h0; exact h0) s)

end Go.Proofs.Ytejghoncihdfkab.Ep
