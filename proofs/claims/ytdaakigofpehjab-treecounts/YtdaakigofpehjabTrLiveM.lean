/- What live asks, without a program. -/
import Derived.Test.YtdaakigofpehjabTrKeep
import Derived.Test.YtdaakigofpehjabTrW6
namespace Go.Proofs.Ytdaakigofpehjab.Tr
open Go.RowKit

def L1 : List Br := [((1, 0), 0, false)]
def L2 : List Br := [((1, 0), 0, false), ((2, 0), 1, false)]
def L3 : List Br := [((1, 0), 0, false), ((3, 0), 1, false), ((2, 0), 1, false)]
def LU : List Br := [((4, 0), 0, false), ((3, 0), 1, false), ((2, 0), 1, false)]
def LM : List Br := [((1, 0), 0, false), ((3, 0), 1, true), ((2, 0), 1, false)]
theorem l1_e : roE [] (1, 0) = 0 := by
  have h : isB [] = true := isB_iff.2 tree_nil
  simp [roE, h, okK, hasK, fd]
theorem l1_a : roA [] (1, 0) = L1 := by unfold roA; rw [if_pos l1_e]; rfl
theorem l1_t : Tree L1 := by rw [← l1_a]; exact ro_tree tree_nil
theorem l2_e : inE L1 (1, 0) (2, 0) = 0 := by
  have h : isB L1 = true := isB_iff.2 l1_t
  have h2 : hasK L1 (1, 0) = true := by decide
  have h3 : hasK L1 (2, 0) = false := by decide
  have h4 : L1.length = 1 := rfl
  simp [inE, h, h2, h3, h4, okK]
theorem l2_a : inA L1 (1, 0) (2, 0) = L2 := by unfold inA; rw [if_pos l2_e]; decide
theorem l2_t : Tree L2 := by rw [← l2_a]; exact in_keep l1_t
theorem l3_e : inE L2 (1, 0) (3, 0) = 0 := by
  have h : isB L2 = true := isB_iff.2 l2_t
  have h2 : hasK L2 (1, 0) = true := by decide
  have h3 : hasK L2 (3, 0) = false := by decide
  have h4 : L2.length = 2 := rfl
  simp [inE, h, h2, h3, h4, okK]
theorem l3_a : inA L2 (1, 0) (3, 0) = L3 := by unfold inA; rw [if_pos l3_e]; decide
theorem l3_t : Tree L3 := by rw [← l3_a]; exact in_keep l2_t
theorem lr_e : reE L3 (1, 0) = 130 := by
  have h : isB L3 = true := isB_iff.2 l3_t
  have h2 : hasK L3 (1, 0) = true := by decide
  have h3 : 0 < ct L3 (plc L3 (1, 0)) := by decide
  simp [reE, h, h2, h3, okK]
theorem lr_a : reA L3 (1, 0) = L3 := by unfold reA; rw [if_neg (by rw [lr_e]; decide)]
theorem lp_b : prB L3 (2, 0) = true := by decide
theorem lp_k : prK L3 (2, 0) = (1, 0) := by decide
theorem lu_e : moE L3 (1, 0) (4, 0) = 0 := by
  have h : isB L3 = true := isB_iff.2 l3_t
  have h2 : hasK L3 (1, 0) = true := by decide
  have h3 : hasK L3 (4, 0) = false := by decide
  simp [moE, h, h2, h3, okK]
theorem lu_a : moA L3 (1, 0) (4, 0) = LU := by unfold moA; rw [if_pos lu_e]; decide
theorem lm_e : maE L3 (3, 0) = 0 := by
  have h : isB L3 = true := isB_iff.2 l3_t
  have h2 : hasK L3 (3, 0) = true := by decide
  simp [maE, h, h2, okK]
theorem lm_a : maA L3 (3, 0) true = LM := by unfold maA; rw [if_pos lm_e]; decide
theorem lf_p : plc L3 (3, 0) = 1 := by decide
theorem lf_h : hasK L3 (3, 0) = true := by decide
theorem ln_e : roE L3 (-1, 0) = 2 := by simp [roE, okK]
theorem ln_a : roA L3 (-1, 0) = L3 := by unfold roA; rw [if_neg (by rw [ln_e]; decide)]
theorem lb_l : blL L3 (1, 0) = [(3, 0), (2, 0)] := by decide
theorem ld_b : dsB LU (2, 0) (4, 0) = true := by decide
theorem lc_e : ckE L3 = 0 := ck_yes l3_t
theorem ls_b : decide (L3 = LM) = false := by decide
end Go.Proofs.Ytdaakigofpehjab.Tr
