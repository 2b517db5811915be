/- What isNone, parts, fromParts, upTo, object, takesBadge, within do. -/
import Derived.Test.YthnfekdoibhnpaaDoorRcW4
import Derived.Test.YthnfekdoibhnpaaDoorCpMath
namespace Go.Proofs.YthnfekdoibhnpaaDoor.Cp
open Go.RowKit

theorem q_trans {a b c : World} (h : Below a.heap.size a b) (k : Below b.heap.size b c) : Below a.heap.size a c := h.trans (k.mono h.size)
theorem q_alloc {a w : World} (h : Below a.heap.size a w) (o : Obj) : Below a.heap.size a (w.alloc o) := h.alloc h.size o
theorem q_set {a w : World} (h : Below a.heap.size a w) {p : Addr} (hp : a.heap.size ≤ p.block) (u : Value) : Below a.heap.size a (w.setCell p u) := h.setCell hp u

set_option maxHeartbeats 400000 in
theorem isNone_any (c : K) (w : World) :
    Calls Tryd.prog 47 #[(.agg #[.int .i64 c.t, .int .i64 c.r, .int .i64 c.b, .int .i64 c.o, .int .i64 c.g])] w fun e w' => e = .returned (.bool (noneB c)) ∧ Below w.heap.size w w' := by
  go_enter Tryd.func47, Tryd.ntmps47
  go_wp2
  all_goals (go_ret; exact ⟨by simp [noneB, *], q_alloc (Below.refl _ _) _⟩)

set_option maxHeartbeats 400000 in
theorem upTo_any (v m : Int) (w : World) :
    Calls Tryd.prog 50 #[.int .i64 v, .int .i64 m] w fun e w' => e = .returned (.bool (up v m)) ∧ w' = w := by
  by_cases h1 : 0 ≤ v
  · by_cases h2 : v ≤ m
    · have H : Hid (up v m = true) := up_iff.2 ⟨h1, h2⟩
      go_enter Tryd.func50, Tryd.ntmps50
      go_wp2
      go_ret
      exact ⟨Rt.ret_bool H.out.symm, rfl⟩
    · have H : Hid (up v m = false) := up_not.2 (by omega)
      go_enter Tryd.func50, Tryd.ntmps50
      go_wp2
      go_ret
      exact ⟨Rt.ret_bool H.out.symm, rfl⟩
  · have H : Hid (up v m = false) := up_not.2 (by omega)
    go_enter Tryd.func50, Tryd.ntmps50
    go_wp2
    go_ret
    exact ⟨Rt.ret_bool H.out.symm, rfl⟩

set_option maxHeartbeats 400000 in
theorem within_c (r : Int) (c : K) (w : World) :
    Calls Tryd.prog 44 #[.int .i64 r, (.agg #[.int .i64 c.t, .int .i64 c.r, .int .i64 c.b, .int .i64 c.o, .int .i64 c.g])] w fun e w' => e = .returned (.bool (Rt.wiB r c.r)) ∧ Below w.heap.size w w' := by
  go_enter Tryd.func44, Tryd.ntmps44
  go_wp2_with (go_at_call 49; refine (Rt.within_any _ _ _).mono ?_; rintro e w' ⟨rfl, rfl⟩)
  go_ret
  exact ⟨rfl, q_alloc (Below.refl _ _) _⟩

/-- Whether a badge may be given. -/
def takesB (c : K) : Bool := (c.t == 4 || c.t == 5) && c.b == 0
end Go.Proofs.YthnfekdoibhnpaaDoor.Cp
