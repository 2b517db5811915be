/- What live is asked for; how long lists get. -/
import Derived.Test.YtmnkbkhfonngeaaHiSmall
namespace Go.Proofs.Ytmnkbkhfonngeaa.Hi
open Go.RowKit

/-- What live is asked for. -/
def LiveC : Prop := ∀ w : World, Calls Try.prog 9 #[] w fun e w' => e = .returned (.bool true) ∧ Below w.heap.size w w'
theorem sm_short {h : Hs} (g : smB h = true) : ShortE h.e := fun e he => by have := (smB_iff.1 g).2.2 e he; omega
theorem do_short {h : Hs} {a : Ac} (g : ShortE h.e) (k : a.e.l.length ≤ 5000) : ShortE (doH h a).e := by
  unfold doH
  split
  · unfold invH
    split
    · exact g
    · exact g
  · split
    · unfold ansH
      split
      · exact g
      · exact g
    · unfold notH
      split
      · intro e he
        rcases List.mem_append.1 he with q | q
        · exact g e q
        · obtain rfl : e = a.e := by simpa using q
          exact k
      · exact g
end Go.Proofs.Ytmnkbkhfonngeaa.Hi
