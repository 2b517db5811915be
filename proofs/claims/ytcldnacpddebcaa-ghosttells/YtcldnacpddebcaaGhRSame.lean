/- What the document's Same (of ghosts) does. -/
import Derived.Test.YtcldnacpddebcaaGhRInts
namespace Go.Proofs.Ytcldnacpddebcaa.Gh
open Go.RowKit
open Go.Proofs.Ytcldnacpddebcaa.Tr

/-- Whether two ghosts are the same. -/
def sgB (g h : Gt) : Bool := decide (g.ks = h.ks) && (decide (g.is = h.is) && decide (g.fr = h.fr))
theorem sgB_iff {g h : Gt} : sgB g h = true ↔ g = h := by
  simp only [sgB, Bool.and_eq_true, decide_eq_true_eq]
  exact ⟨fun ⟨a, b, c⟩ => gt_eq a b c, fun e => by rw [e]; exact ⟨rfl, rfl, rfl⟩⟩
theorem sgB_refl (g : Gt) : sgB g g = true := sgB_iff.2 rfl
/-- Two ghosts' boxes. -/
theorem gg_new (w : World) (y z : Gv) (t u : TypeId) : InG ((w.alloc (.cells #[.slice y.k.o y.k.n y.k.c, .slice y.i.o y.i.n y.i.c, .slice y.f.o y.f.n y.f.c] t)).alloc (.cells #[.slice z.k.o z.k.n z.k.c, .slice z.i.o z.i.n z.i.c, .slice z.f.o z.f.n z.f.c] u)) w.heap.size y ∧ InG ((w.alloc (.cells #[.slice y.k.o y.k.n y.k.c, .slice y.i.o y.i.n y.i.c, .slice y.f.o y.f.n y.f.c] t)).alloc (.cells #[.slice z.k.o z.k.n z.k.c, .slice z.i.o z.i.n z.i.c, .slice z.f.o z.f.n z.f.c] u)) (w.heap.size + 1) z ∧ Below w.heap.size w ((w.alloc (.cells #[.slice y.k.o y.k.n y.k.c, .slice y.i.o y.i.n y.i.c, .slice y.f.o y.f.n y.f.c] t)).alloc (.cells #[.slice z.k.o z.k.n z.k.c, .slice z.i.o z.i.n z.i.c, .slice z.f.o z.f.n z.f.c] u)) := by
  refine ⟨(inG_new w y t).below (alloc_below _ _), ?_, q_alloc (alloc_below _ _) _⟩
  have h := inG_new (w.alloc (.cells #[.slice y.k.o y.k.n y.k.c, .slice y.i.o y.i.n y.i.c, .slice y.f.o y.f.n y.f.c] t)) z u
  rwa [show (w.alloc (.cells #[.slice y.k.o y.k.n y.k.c, .slice y.i.o y.i.n y.i.c, .slice y.f.o y.f.n y.f.c] t)).heap.size = w.heap.size + 1 by simp] at h
set_option maxRecDepth 100000 in
set_option maxHeartbeats 1000000 in
/-- Same: WHETHER TWO GHOSTS ARE THE SAME. -/
theorem gsame_any (y z : Gv) (g h : Gt) (w : World) (h1 : y.k.n ≤ 9223372036854775806) (h2 : y.i.n ≤ 9223372036854775806) (h3 : y.f.n ≤ 9223372036854775806) (HY : Hid (HasG w y g)) (HZ : Hid (HasG w z h)) :
    Calls Try.prog 13 #[(.agg #[.slice y.k.o y.k.n y.k.c, .slice y.i.o y.i.n y.i.c, .slice y.f.o y.f.n y.f.c]), (.agg #[.slice z.k.o z.k.n z.k.c, .slice z.i.o z.i.n z.i.c, .slice z.f.o z.f.n z.f.c])] w fun e w' => e = .returned (.bool (sgB g h)) ∧ Below w.heap.size w w' := by
  have H1 := hid h1
  have H2 := hid h2
  have H3 := hid h3
  clear h1 h2 h3
  go_enter Try.func13, Try.ntmps13
  go_wp2_with fail
  obtain ⟨g1, g2, g3⟩ := gg_new w y z 25 25
  have HA := hid g1
  have HC := hid g2
  have HB := hid g3
  clear g1 g2 g3
  generalize (w.alloc (.cells #[.slice y.k.o y.k.n y.k.c, .slice y.i.o y.i.n y.i.c, .slice y.f.o y.f.n y.f.c] 25)).alloc (.cells #[.slice z.k.o z.k.n z.k.c, .slice z.i.o z.i.n z.i.c, .slice z.f.o z.f.n z.f.c] 25) = W at HA HC HB ⊢
  refine (ksame_any y.k.o z.k.o y.k.n z.k.n y.k.c z.k.c g.ks h.ks W H1.out (HY.out.ks.below HB.out) (HZ.out.ks.below HB.out)).mono ?_
  rintro e w1 ⟨rfl, b1⟩
  replace HB := hid (q_trans HB.out b1)
  replace HA := hid (HA.out.below b1)
  replace HC := hid (HC.out.below b1)
  clear b1
  obtain ⟨c0, c1, c2⟩ := HA.out
  obtain ⟨d0, d1, d2⟩ := HC.out
  by_cases p1 : g.ks = h.ks
  · rw [decide_eq_true p1]
    have P1 := hid p1
    clear p1
    go_wp2_with fail
    refine (ints_any y.i.o z.i.o y.i.n z.i.n y.i.c z.i.c g.is h.is _ H2.out (HY.out.is.below HB.out) (HZ.out.is.below HB.out)).mono ?_
    rintro e w2 ⟨rfl, b2⟩
    replace HB := hid (q_trans HB.out b2)
    replace HA := hid (HA.out.below b2)
    replace HC := hid (HC.out.below b2)
    clear b2 c0 c1 c2 d0 d1 d2
    obtain ⟨c0, c1, c2⟩ := HA.out
    obtain ⟨d0, d1, d2⟩ := HC.out
    by_cases p2 : g.is = h.is
    · rw [decide_eq_true p2]
      have P2 := hid p2
      clear p2
      go_wp2_with fail
      refine (ints_any y.f.o z.f.o y.f.n z.f.n y.f.c z.f.c g.fr h.fr _ H3.out (HY.out.fr.below HB.out) (HZ.out.fr.below HB.out)).mono ?_
      rintro e w3 ⟨rfl, b3⟩
      replace HB := hid (q_trans HB.out b3)
      clear b3 c0 c1 c2 d0 d1 d2
      go_wp2_with fail
      go_ret
      exact ⟨ret_bool (by simp [sgB, P1.out, P2.out]), HB.out⟩
    · rw [decide_eq_false p2]
      have P2 := hid p2
      clear p2
      go_wp2_with fail
      go_ret
      exact ⟨ret_bool (by simp [sgB, P2.out]), HB.out⟩
  · rw [decide_eq_false p1]
    have P1 := hid p1
    clear p1
    go_wp2_with fail
    go_ret
    exact ⟨ret_bool (by simp [sgB, P1.out]), HB.out⟩
end Go.Proofs.Ytcldnacpddebcaa.Gh
