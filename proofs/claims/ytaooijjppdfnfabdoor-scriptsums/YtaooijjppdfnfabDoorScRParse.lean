/- What the document's Parse does. -/
import Derived.Test.YtaooijjppdfnfabDoorScParse
namespace Go.Proofs.YtaooijjppdfnfabDoor.Sc
open Go.RowKit

theorem idx_at (S : ByteArray) (k c : Nat) (hk : k < S.size) (hc : (S.data.toList.getD k 0).toNat = c) (W : World) : (Instr.index 9 (.string S) (.int .i64 k)).run Tryd.prog W = .ok (.int .u8 c) W := by
  rw [run_index_string _ _ _ _ _ Tryd.underlying9, dif_pos ⟨by omega, by omega⟩, ← hc]
  have hk' : k < S.data.toList.length := hk
  simp only [List.getD, List.getElem?_eq_getElem hk', Option.getD_some]
  rfl
theorem drop_at (S : ByteArray) (k : Nat) (hk : k < S.size) : S.data.toList.drop k = S.data.toList.getD k 0 :: S.data.toList.drop (k + 1) := by
  have hk' : k < S.data.toList.length := hk
  rw [List.drop_eq_getElem_cons hk']
  simp only [List.getD, List.getElem?_eq_getElem hk', Option.getD_some]
/-- What is still to be scanned, from k on. -/
def Sc1 (S : ByteArray) (k : Nat) (x : Int) (any : Bool) (ls : List Int) (R : Option (List Int)) : Prop := (k ≤ S.size ∧ rscan (S.data.toList.drop k) x any ls = R) ∨ (k = S.size + 1 ∧ R = some ls)
theorem u8_32 {c : UInt8} : c = 32 ↔ c.toNat = 32 := ⟨fun h => by rw [h]; rfl, fun h => UInt8.toNat_inj.1 h⟩
theorem u8_lo {c : UInt8} : c < 48 ↔ c.toNat < 48 := Iff.rfl
theorem u8_hi {c : UInt8} : 57 < c ↔ 57 < c.toNat := Iff.rfl
theorem sc_end {S : ByteArray} {x : Int} {any : Bool} {ls : List Int} {R : Option (List Int)} (h : Sc1 S S.size x any ls R) : R = if any then some (ls ++ [x]) else none := by
  rcases h with ⟨_, h⟩ | ⟨h, _⟩
  · rw [← h, List.drop_eq_nil_of_le (show S.data.toList.length ≤ S.size from Nat.le_refl _)]; rfl
  · omega
theorem sc_step {S : ByteArray} {k : Nat} {x : Int} {any : Bool} {ls : List Int} {R : Option (List Int)} (h : Sc1 S k x any ls R) (hk : k < S.size) :
    rscan (S.data.toList.getD k 0 :: S.data.toList.drop (k + 1)) x any ls = R := by
  rcases h with ⟨_, h⟩ | ⟨h, _⟩
  · rw [← h, drop_at S k hk]
  · omega

end Go.Proofs.YtaooijjppdfnfabDoor.Sc
