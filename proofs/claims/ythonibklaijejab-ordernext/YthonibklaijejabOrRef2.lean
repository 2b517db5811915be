/- What the document's Sort and Merge do. -/
import Derived.Test.YthonibklaijejabOrIns
import Derived.Test.YthonibklaijejabOrSorts
namespace Go.Proofs.Ythonibklaijejab.Or
open Go.RowKit

theorem srt_take (l : List K) (k : Nat) (h : k < l.length) : srt (l.take (k + 1)) = ins (srt (l.take k)) (l.getD k (0, 0)) := by rw [take_snoc l k h, srt_snoc]
theorem srt_take2 (m l : List K) (k : Nat) (h : k < l.length) : srt (m ++ l.take (k + 1)) = ins (srt (m ++ l.take k)) (l.getD k (0, 0)) := by rw [take_snoc l k h, ← List.append_assoc, srt_snoc]
theorem len_take (l : List K) (k : Nat) : (srt (l.take k)).length ≤ k := by have := len_srt (l.take k); simp at this; omega

end Go.Proofs.Ythonibklaijejab.Or
