/- What parts, fromParts, mayHave do. -/
import Derived.Test.YtilannincbcgkaaDoorKlW1
import Derived.Test.YtilannincbcgkaaDoorRcW1
namespace Go.Proofs.YtilannincbcgkaaDoor.Kl
open Go.RowKit
open Ad (q_trans q_alloc q_set ret_int ret_bool hid)

set_option maxHeartbeats 400000 in
theorem parts_any (c : C) (w : World) :
    Calls Tryd.prog 19 #[(.agg #[.int .i64 c.k, .int .u64 c.a, .int .u64 c.b, .int .i64 c.r, .int .i64 c.g, .int .i64 c.t, .int .i64 c.s, .int .i64 c.v])] w fun e w' => e = .returned (.agg #[.int .i64 (part c 0), .int .i64 (part c 1), .int .i64 (part c 2), .int .i64 (part c 3), .int .i64 (part c 4)]) ∧ Below w.heap.size w w' := by
  go_enter Tryd.func19, Tryd.ntmps19
  go_wp2
  refine bodyPost_ret (v := .agg #[.int .i64 c.k, .int .i64 c.r, .int .i64 c.t, .int .i64 c.g, .int .i64 c.s]) (by simp [results, Tryd.results19, go_sem]) rfl ⟨rfl, ?_⟩
  repeat (first | exact q_alloc (q_alloc (Below.refl _ _) _) _ | refine q_set ?_ (by simp) _)
set_option maxHeartbeats 400000 in
theorem fromParts_any (p0 p1 p2 p3 p4 : Int) (w : World) :
    Calls Tryd.prog 23 #[.agg #[.int .i64 p0, .int .i64 p1, .int .i64 p2, .int .i64 p3, .int .i64 p4]] w fun e w' => e = .returned (.agg #[.int .i64 p0, .int .u64 0, .int .u64 0, .int .i64 p1, .int .i64 p3, .int .i64 p2, .int .i64 p4, .int .i64 0]) ∧ Below w.heap.size w w' := by
  go_enter Tryd.func23, Tryd.ntmps23
  go_wp2
  refine bodyPost_ret (v := .agg #[.int .i64 p0, .int .u64 0, .int .u64 0, .int .i64 p1, .int .i64 p3, .int .i64 p2, .int .i64 p4, .int .i64 0]) (by simp [results, Tryd.results23, go_sem]) rfl ⟨rfl, ?_⟩
  repeat (first | exact q_alloc (q_alloc (Below.refl _ _) _) _ | refine q_set ?_ (by simp) _)
end Go.Proofs.YtilannincbcgkaaDoor.Kl
