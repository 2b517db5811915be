/- What the laws say of the calls. -/
import Derived.Test.YthonibklaijejaaOrLive
namespace Go.Proofs.Ythonibklaijejaa.Or
open Go.RowKit

theorem at_new2 (w : World) (a b : K) (t : TypeId) : AtK ((w.alloc (.cells #[.int .i64 a.1, .int .i64 a.2] t)).alloc (.cells #[.int .i64 b.1, .int .i64 b.2] t)) ⟨w.heap.size + 1, 0, none⟩ b := by
  have := at_new (w.alloc (.cells #[.int .i64 a.1, .int .i64 a.2] t)) b t
  simpa using this
section
variable {w : World}
theorem is_check {a : K} {r : Bool} {x : Int} (h : okK a = r) (hx : (if r then (0 : Int) else 2) = x) : Calls Try.prog 12 #[(.agg #[.int .i64 a.1, .int .i64 a.2])] w fun e w' => e = .returned (.int .i64 x) ∧ Below w.heap.size w w' := by
  refine (check_any a w).mono ?_
  rintro e w' ⟨rfl, g⟩
  exact ⟨by rw [← hx, ← h]; rfl, g.below⟩
theorem is_cell {a : K} {x : Int} (h : cellK a = x) : Calls Try.prog 16 #[(.agg #[.int .i64 a.1, .int .i64 a.2])] w fun e w' => e = .returned (.int .i64 x) ∧ Below w.heap.size w w' := h ▸ cell_any a w
theorem is_rcell {a : K} {x : Int} (h : cellK a = x) : Calls Try.prog 17 #[(.agg #[.int .i64 a.1, .int .i64 a.2])] w fun e w' => e = .returned (.int .i64 x) ∧ Below w.heap.size w w' := h ▸ rcell_any a w
theorem later_num (x : Int) {g : Later w} : Calls Try.prog 11 #[.int .i64 x] g.now fun e w'' => e = .returned (.int .i64 x) ∧ ∃ g' : Later w, w'' = g'.now :=
  (num_any x g.now).mono fun _ _ ⟨he, hb⟩ => ⟨he, g, hb⟩
end
end Go.Proofs.Ythonibklaijejaa.Or
