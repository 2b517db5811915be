/- What mayHave does. -/
import Derived.Test.YtilannincbcgkaaDoorKlW2
namespace Go.Proofs.YtilannincbcgkaaDoor.Kl
open Go.RowKit
open Ad (q_trans q_alloc q_set ret_int ret_bool hid)

/-- What is left is nothing. -/
theorem eqz (k a b r g t s v : Int) (q : Bool) (h : (k == 0 && (a == 0 && (b == 0 && (r == 0 && (g == 0 && (t == 0 && (s == 0 && v == 0))))))) = q) (w : World) : (Op.equalIn 10000 24 (.agg #[.int .i64 k, .int .u64 a, .int .u64 b, .int .i64 r, .int .i64 g, .int .i64 t, .int .i64 s, .int .i64 v]) (.agg #[.int .i64 0, .int .u64 0, .int .u64 0, .int .i64 0, .int .i64 0, .int .i64 0, .int .i64 0, .int .i64 0])).run Tryd.prog w = .ok q w :=
  h ▸ eq8 ⟨k, a, b, r, g, t, s, v⟩ C.zero w
theorem two_own (w : World) (o : Obj) (c : C) (T : TypeId) : Own ((w.alloc o).alloc (.cells #[.int .i64 c.k, .int .u64 c.a, .int .u64 c.b, .int .i64 c.r, .int .i64 c.g, .int .i64 c.t, .int .i64 c.s, .int .i64 c.v] T)) (w.heap.size + 1) c := by
  have := own_new (w.alloc o) c T
  simpa using this
theorem two_low (w : World) (o p : Obj) : Below w.heap.size w ((w.alloc o).alloc p) := q_alloc (q_alloc (Below.refl _ _) _) _
end Go.Proofs.YtilannincbcgkaaDoor.Kl
