/- What the document's Mark does. -/
import Derived.Test.YtdaakigofpehjabTrROut
import Derived.Test.YtdaakigofpehjabTrKeep
namespace Go.Proofs.Ytdaakigofpehjab.Tr
open Go.RowKit

theorem ins_del {t : List Br} {i : Nat} {b : Br} (h : i < t.length) : t.set i b = ins (del t i) i b := by
  have hl : (t.take i).length = i := by simp; omega
  rw [set_cut h]
  have e1 : (del t i).take i = t.take i := by
    unfold del
    rw [List.take_append_of_le_length (by omega), List.take_take, Nat.min_self]
  have e2 : (del t i).drop i = t.drop (i + 1) := by
    unfold del
    rw [List.drop_append_of_le_length (by omega), List.drop_of_length_le (by omega), List.nil_append]
  unfold ins
  rw [e1, e2]
end Go.Proofs.Ytdaakigofpehjab.Tr
