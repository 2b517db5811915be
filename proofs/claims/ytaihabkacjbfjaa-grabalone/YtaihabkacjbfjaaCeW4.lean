/- What Apply, the reference's Apply and Zero do. -/
import Derived.Test.YtaihabkacjbfjaaCeW3
import Derived.Deep.RegionHeld3
namespace Go.Proofs.Ytaihabkacjbfjaa.Ce
open Go.RowKit

theorem check_yes (o : O) (n : Int) (w : World) (h : okO o n = true) :
    Calls Try.prog 39 #[(.agg #[.int .i64 o.k, .int .i64 o.c, .int .i64 o.a, .int .i64 o.v, .int .i64 o.w]), .int .i64 n] w fun e w' => e = .returned (.int .i64 0) ∧ Below w.heap.size w w' := by
  have := check_any o n w
  rwa [chk_yes h] at this
theorem check_no (o : O) (n : Int) (w : World) (h : okO o n = false) :
    Calls Try.prog 39 #[(.agg #[.int .i64 o.k, .int .i64 o.c, .int .i64 o.a, .int .i64 o.v, .int .i64 o.w]), .int .i64 n] w fun e w' => e = .returned (.int .i64 2) ∧ Below w.heap.size w w' := by
  have := check_any o n w
  rwa [chk_no h] at this
theorem kept7 (w : World) (b : Nat) (v0 v1 v2 v3 v4 v5 v6 : Value) : Kept (fun i => i = b) w (((((((w.setCell ⟨b, 0, none⟩ v0).setCell ⟨b, 1, none⟩ v1).setCell ⟨b, 2, none⟩ v2).setCell ⟨b, 3, none⟩ v3).setCell ⟨b, 4, none⟩ v4).setCell ⟨b, 5, none⟩ v5).setCell ⟨b, 6, none⟩ v6) := by
  iterate 7 refine Kept.setCell ?_ _ _ (fun _ => rfl)
  exact Kept.refl _ _
/-- The two blocks that a function of a step lays first. -/
theorem two_new (w : World) (o : O) : InO ((w.alloc (.cells #[.int .i64 o.k, .int .i64 o.c, .int .i64 o.a, .int .i64 o.v, .int .i64 o.w] 35)).alloc (.cells #[.int .i64 0, .int .i64 0, .int .i64 0, .int .i64 0, .int .i64 0, .int .i64 0, .bool false] 70)) w.heap.size o ∧
    InR ((w.alloc (.cells #[.int .i64 o.k, .int .i64 o.c, .int .i64 o.a, .int .i64 o.v, .int .i64 o.w] 35)).alloc (.cells #[.int .i64 0, .int .i64 0, .int .i64 0, .int .i64 0, .int .i64 0, .int .i64 0, .bool false] 70)) (w.heap.size + 1) Rc.zero ∧
    Below w.heap.size w ((w.alloc (.cells #[.int .i64 o.k, .int .i64 o.c, .int .i64 o.a, .int .i64 o.v, .int .i64 o.w] 35)).alloc (.cells #[.int .i64 0, .int .i64 0, .int .i64 0, .int .i64 0, .int .i64 0, .int .i64 0, .bool false] 70)) ∧
    ((w.alloc (.cells #[.int .i64 o.k, .int .i64 o.c, .int .i64 o.a, .int .i64 o.v, .int .i64 o.w] 35)).alloc (.cells #[.int .i64 0, .int .i64 0, .int .i64 0, .int .i64 0, .int .i64 0, .int .i64 0, .bool false] 70)).heap.size = w.heap.size + 2 := by
  refine ⟨(inO_new w o 35).below (alloc_below _ _), ?_, q_alloc (alloc_below w _) _, by simp⟩
  have h := inR_new (w.alloc (.cells #[.int .i64 o.k, .int .i64 o.c, .int .i64 o.a, .int .i64 o.v, .int .i64 o.w] 35)) Rc.zero 70
  rw [show (w.alloc (.cells #[.int .i64 o.k, .int .i64 o.c, .int .i64 o.a, .int .i64 o.v, .int .i64 o.w] 35)).heap.size = w.heap.size + 1 by simp] at h
  exact h

end Go.Proofs.Ytaihabkacjbfjaa.Ce
