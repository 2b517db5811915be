/- What live is asked for; how long lists get. -/
import Derived.Test.YtpcdjpcdmnjdfaaPoFin
import Derived.Test.YtpcdjpcdmnjdfaaPoR2
namespace Go.Proofs.Ytpcdjpcdmnjdfaa.Po
open Go.RowKit

/-- What live is asked for. -/
def LiveC : Prop := ∀ w : World, Calls Try.prog 9 #[] w fun e w' => e = .returned (.bool true) ∧ Below w.heap.size w w'
theorem wo_len (p : Pt) (i : Nat) : (woP p i).l.length ≤ p.l.length + 1 := by
  have := List.length_eraseIdx_le p.l i
  simp only [woP]
  omega
theorem cm_len (p : Pt) (x : Wt) (a b : Int) : (cmP p x a b).l.length ≤ p.l.length + 1 := by
  unfold cmP
  split
  · split
    · exact wo_len p 0
    · simp [wiP]
  · omega
theorem do_len (p : Pt) (a : Ac) : (doP p a).l.length ≤ p.l.length + 1 := by
  unfold doP
  split
  · exact cm_len _ _ _ _
  · split
    · exact cm_len _ _ _ _
    · split
      · unfold sgP
        split
        · split
          · exact wo_len p 0
          · split <;> simp
        · omega
      · split
        · unfold waP
          split
          · split <;> simp [wiP]
          · omega
        · unfold drP
          split
          · exact wo_len _ _
          · omega
end Go.Proofs.Ytpcdjpcdmnjdfaa.Po
