/- The numbers of live. -/
import Derived.Test.YtcldnacpddebcaaGhW4
import Derived.Test.YtcldnacpddebcaaPkB
import Derived.Test.YtcldnacpddebcaaGhRSame
import Derived.Test.YtcldnacpddebcaaGhRAbv
namespace Go.Proofs.Ytcldnacpddebcaa.Gh
open Go.RowKit
open Go.Proofs.Ytcldnacpddebcaa.Tr

def adC (g : Gt) (b : Bi) : Gt :=
  if b.kind = 3 then ⟨g.ks.set (pk g b.fm) b.key, g.is, g.fr⟩
  else if b.kind = 4 then ⟨g.ks.eraseIdx (pk g b.key), g.is.eraseIdx (pk g b.key), g.fr⟩
  else ⟨g.ks ++ [b.key], g.is ++ [(g.fr.length : Int)], g.fr ++ [if b.kind = 2 then Ii g.is (pk g b.fm) else -1]⟩
theorem adA_eq {g : Gt} {b : Bi} (h : adE g b = 0) : adA g b = adC g b := by
  unfold adA
  rw [if_neg (by simp [h])]
  rfl
theorem step_yes {g h : Gt} {b : Bi} (o : Ok g) (h1 : rfE g b = 0) (h2 : adC g b = h) : adE g b = 0 ∧ adA g b = h ∧ Ok h := by
  have e : adE g b = 0 := by rw [← rf_ok (okB_iff.2 o), h1]
  have a : adA g b = h := by rw [adA_eq e, h2]
  exact ⟨e, a, a ▸ ad_ok o b⟩
abbrev lb1 : Bi := ⟨1, (1, 0), (0, 0)⟩
abbrev lb2 : Bi := ⟨2, (2, 0), (1, 0)⟩
abbrev lb3 : Bi := ⟨3, (3, 0), (2, 0)⟩
abbrev lb4 : Bi := ⟨9, (0, 0), (0, 0)⟩
abbrev L4 : List Bi := [lb1, lb2, lb3, lb4]
abbrev T1 : Gt := ⟨[(1, 0)], [0], [-1]⟩
abbrev T2 : Gt := ⟨[(1, 0), (2, 0)], [0, 1], [-1, 0]⟩
abbrev G1 : Gt := ⟨[(1, 0), (3, 0)], [0, 1], [-1, 0]⟩
abbrev G2 : Gt := ⟨[(3, 0)], [1], [-1, 0]⟩
theorem l_1 : adE g0 lb1 = 0 ∧ adA g0 lb1 = T1 ∧ Ok T1 := step_yes ok_nil (by decide) rfl
theorem l_2 : adE T1 lb2 = 0 ∧ adA T1 lb2 = T2 ∧ Ok T2 := step_yes l_1.2.2 (by decide) rfl
theorem l_3 : adE T2 lb3 = 0 ∧ adA T2 lb3 = G1 ∧ Ok G1 := step_yes l_2.2.2 (by decide) rfl
theorem l_4 : adE G1 lb4 = 2 := by
  rw [← rf_ok (okB_iff.2 l_3.2.2)]
  decide
theorem l_A : rnA L4 = G1 := by
  show adA (adA (adA (adA g0 lb1) lb2) lb3) lb4 = G1
  rw [l_1.2.1, l_2.2.1, l_3.2.1]
  unfold adA
  rw [if_pos (by rw [l_4]; decide)]
theorem l_N : rnN L4 = 1 := by
  show rnF g0 [lb1, lb2, lb3, lb4] = 1
  simp only [rnF]
  rw [l_1.2.1, l_2.2.1, l_3.2.1, l_1.1, l_2.1, l_3.1, l_4]
  decide
theorem l_die : adE G1 ⟨4, (1, 0), (0, 0)⟩ = 0 ∧ adA G1 ⟨4, (1, 0), (0, 0)⟩ = G2 ∧ Ok G2 := step_yes l_3.2.2 (by decide) rfl
theorem l_there : adE G1 ⟨1, (1, 0), (0, 0)⟩ = 8 := by
  rw [← rf_ok (okB_iff.2 l_3.2.2)]
  decide
theorem l_I : whI G2 (3, 0) = 1 := by decide
theorem l_B : whB G2 (3, 0) = true := by decide
theorem l_abv : abv [-1, 0] 1 = [0] := by
  have h1 : abv [-1, 0] ((1 : Nat) : Int) = ((0 : Nat) : Int) :: abv [-1, 0] ((0 : Nat) : Int) := abv_step (n := 1) (m := 0) (by decide) (by decide) (by decide)
  have h2 : abv [-1, 0] ((0 : Nat) : Int) = [] := abv_end (n := 0) (by decide) (.inl (by decide))
  rw [h2] at h1
  exact h1
theorem l_ds1 : dsG G1 (3, 0) (1, 0) = true := by
  rw [ds_wh]
  have e1 : whB G1 (3, 0) = true := by decide
  have e2 : whB G1 (1, 0) = true := by decide
  have e3 : whI G1 (3, 0) = 1 := by decide
  have e4 : whI G1 (1, 0) = 0 := by decide
  rw [e1, e2, e3, e4, l_abv]
  decide
theorem l_ds2 : dsG G2 (3, 0) (1, 0) = false := by
  rw [ds_wh]
  have e2 : whB G2 (1, 0) = false := by decide
  rw [e2]
  simp
theorem l_ck : cgE G2 = 0 := cg_yes l_die.2.2
theorem l_same : sgB G1 G2 = false := by decide
end Go.Proofs.Ytcldnacpddebcaa.Gh
