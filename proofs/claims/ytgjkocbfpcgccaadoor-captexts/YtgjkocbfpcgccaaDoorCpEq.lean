/- What '==' gives of two capabilities, of two arrays. -/
import Derived.Test.YtgjkocbfpcgccaaDoorCpTab
import Derived.Laws.StructEq
namespace Go.Proofs.YtgjkocbfpcgccaaDoor.Cp
open Go.RowKit

theorem eq3 (a b c x y z : Int) (w : World) : (Op.equalIn 10000 64 (.agg #[.int .i64 a, .int .i64 b, .int .i64 c]) (.agg #[.int .i64 x, .int .i64 y, .int .i64 z])).run Tryd.prog w = .ok (a == x && (b == y && c == z)) w := by
  have u3 := Tryd.underlying3
  have a3 := Tryd.isAgg3
  have z3 := Tryd.sizeOf3
  rw [show (10000 : Nat) = 9999 + 1 from rfl, Op.equalIn]
  simp only [Sem.run_bind, run_underlying Tryd.underlying64, Result.andThen_ok]
  simp only [Std.Legacy.Range.forIn_eq_forIn_range', Std.Legacy.Range.size, Nat.sub_zero, Nat.add_sub_cancel, Nat.div_one, List.range'_succ, List.range'_zero, List.forIn_cons, List.forIn_nil]
  go_simp
  by_cases h1 : a = x <;> by_cases h2 : b = y <;> by_cases h3 : c = z <;> simp [h1, h2, h3]
theorem eq5 (c d : K) (w : World) : (Op.equalIn 10000 23 (.agg #[.int .i64 c.t, .int .i64 c.r, .int .i64 c.b, .int .i64 c.o, .int .i64 c.g]) (.agg #[.int .i64 d.t, .int .i64 d.r, .int .i64 d.b, .int .i64 d.o, .int .i64 d.g])).run Tryd.prog w = .ok (eqK c d) w := by
  have u3 := Tryd.underlying3
  have a3 := Tryd.isAgg3
  have z3 := Tryd.sizeOf3
  have hS : Tryd.prog.underlying 23 = some (.struct (Tryd.prog.fieldsOf 23)) := by kernel_rfl
  rw [show (10000 : Nat) = 9999 + 1 from rfl, run_equalIn_agg w 9999 23 _ _ hS (by kernel_rfl)]
  simp only [Program.fieldsOf, Tryd.underlying23]
  go_simp
  unfold eqK
  by_cases h1 : c.t = d.t <;> by_cases h2 : c.r = d.r <;> by_cases h3 : c.b = d.b <;> by_cases h4 : c.o = d.o <;> by_cases h5 : c.g = d.g <;> simp [h1, h2, h3, h4, h5]
theorem eq5z (c : K) (w : World) : (Op.equalIn 10000 23 (.agg #[.int .i64 c.t, .int .i64 c.r, .int .i64 c.b, .int .i64 c.o, .int .i64 c.g]) (.agg #[.int .i64 0, .int .i64 0, .int .i64 0, .int .i64 0, .int .i64 0])).run Tryd.prog w = .ok (noneB c) w := eq5 c K.zero w
end Go.Proofs.YtgjkocbfpcgccaaDoor.Cp
