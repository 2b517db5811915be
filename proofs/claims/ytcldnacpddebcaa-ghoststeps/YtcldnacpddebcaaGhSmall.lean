/- What small does. -/
import Derived.Test.YtcldnacpddebcaaGhGb
namespace Go.Proofs.Ytcldnacpddebcaa.Gh
open Go.RowKit
open Go.Proofs.Ytcldnacpddebcaa.Tr

def smB (y : Gv) : Bool := decide (y.k.n ≤ 80) && (decide (y.i.n ≤ 80) && decide (y.f.n ≤ 160))
set_option maxHeartbeats 1000000 in
theorem small_any (y : Gv) (w : World) :
    Calls Try.prog 9 #[(.agg #[.slice y.k.o y.k.n y.k.c, .slice y.i.o y.i.n y.i.c, .slice y.f.o y.f.n y.f.c])] w fun e w' => e = .returned (.bool (smB y)) ∧ Below w.heap.size w w' := by
  by_cases h1 : y.k.n ≤ 80
  · have i1 : (y.k.n : Int) ≤ 80 := by omega
    by_cases h2 : y.i.n ≤ 80
    · have i2 : (y.i.n : Int) ≤ 80 := by omega
      by_cases h3 : y.f.n ≤ 160
      · have i3 : (y.f.n : Int) ≤ 160 := by omega
        have HE : Hid (smB y = true) := by simp [Hid, smB, h1, h2, h3]
        go_enter Try.func9, Try.ntmps9
        go_wp2_with fail
        go_ret
        exact ⟨ret_bool HE.out.symm, alloc_below _ _⟩
      · have i3 : ¬ (y.f.n : Int) ≤ 160 := by omega
        have HE : Hid (smB y = false) := by simp [Hid, smB, h3]
        go_enter Try.func9, Try.ntmps9
        go_wp2_with fail
        go_ret
        exact ⟨ret_bool (by rw [HE.out]), alloc_below _ _⟩
    · have i2 : ¬ (y.i.n : Int) ≤ 80 := by omega
      have HE : Hid (smB y = false) := by simp [Hid, smB, h2]
      go_enter Try.func9, Try.ntmps9
      go_wp2_with fail
      go_ret
      exact ⟨ret_bool HE.out.symm, alloc_below _ _⟩
  · have i1 : ¬ (y.k.n : Int) ≤ 80 := by omega
    have HE : Hid (smB y = false) := by simp [Hid, smB, h1]
    go_enter Try.func9, Try.ntmps9
    go_wp2_with fail
    go_ret
    exact ⟨ret_bool HE.out.symm, alloc_below _ _⟩
theorem sm_len {y : Gv} (h : smB y = true) : y.k.n ≤ 80 ∧ y.i.n ≤ 80 ∧ y.f.n ≤ 160 := by simpa [smB] using h
end Go.Proofs.Ytcldnacpddebcaa.Gh
