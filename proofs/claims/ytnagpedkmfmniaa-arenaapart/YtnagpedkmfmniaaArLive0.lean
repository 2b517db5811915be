/- The one run that every statement looks at: what is known of it. -/
import Derived.Test.YtnagpedkmfmniaaArApart0
import Derived.Test.YtnagpedkmfmniaaArW6
namespace Go.Proofs.Ytnagpedkmfmniaa.Ar
open Go.Proofs.Ytnagpedkmfmniaa.Ha (nxG)

def L0 : Ar := newA 3 2
def L1 : Ar := takeA L0 0 frameT
def L2 : Ar := refA L1 0 (-1)
def L3 : Ar := dropA L2 0
def L4 : Ar := giveA L3 1 0
theorem l0 : Ok L0 := new_ok 3 2 (by decide) (by decide) (by decide) (by decide)
theorem l1 : Ok L1 := take_ok _ _ l0
theorem l2 : Ok L2 := ref_ok _ _ l1
theorem l3 : Ok L3 := drop_ok _ l2
theorem l4 : Ok L4 := give_ok _ _ l3
theorem r1 : RefB L1 1000000000000 := by
  intro k hk
  have h : L1.ts.length = 3 := by decide
  rw [h] at hk
  match k, hk with
  | 0, _ => decide
  | 1, _ => decide
  | 2, _ => decide
  | (k + 3), h => omega
theorem le1 : takeE L0 0 frameT = 0 := by decide
theorem lp1 : takeP L0 0 frameT = 0 := by decide
theorem le5 : takeE L1 5 frameT = 2 := by decide
theorem lp5 : takeP L1 5 frameT = 0 := by decide
theorem la5 : takeA L1 5 frameT = L1 := if_neg (by rw [le5]; decide)
theorem le2 : refE L1 0 (-1) = 0 := by decide
theorem le3 : dropE L2 0 = 0 := by decide
theorem le4 : giveE L3 1 0 = 0 := by decide
theorem ls1 : stN L1 0 = 1 := by decide
theorem ls3 : stN L3 0 = 4 := by decide
theorem ls4 : stN L4 0 = 3 := by decide
theorem lc4 : chkE L4 = 0 := chk_yes l4
theorem lf0 : L0.fr.length = 2 := by decide
theorem ln3 : L3.ts.length = 3 := by decide
theorem lg3 : (L3.ts.getD 0 Th.zero).gen = 1 := by decide
theorem lt4 : L4.ts = L3.ts := by
  unfold L4 giveA
  split <;> rfl
theorem lf4 : ¬ L4.fr = L3.fr := by decide
end Go.Proofs.Ytnagpedkmfmniaa.Ar
