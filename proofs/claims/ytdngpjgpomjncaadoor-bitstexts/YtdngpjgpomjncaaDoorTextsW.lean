/- The walk of BitsTexts: it answers true. -/
import Derived.Test.YtdngpjgpomjncaaDoorRefC
import Derived.Test.YtdngpjgpomjncaaDoorW5
namespace Go.Proofs.YtdngpjgpomjncaaDoor
open Go.RowKit

set_option maxRecDepth 100000 in
set_option maxHeartbeats 2000000 in
theorem texts_core (x : Nat) (s t : ByteArray) (p e0 : Int) (w : World) (HD : Hid (Dig w))
    (H1 : Hid (Calls Tryd.prog 24 #[.string s] w fun e w' => e = .returned (.tuple #[.int .u64 p, .int .i64 e0]) ∧ w' = w))
    (H2 : Hid (∀ W : World, Calls Tryd.prog 25 #[.string s] W fun e w' => e = .returned (.tuple #[.int .u64 p, .int .i64 e0]) ∧ w' = W))
    (H3 : Hid (Calls Tryd.prog 26 #[.int .u64 x] w fun e w' => e = .returned (.string t) ∧ Below w.heap.size w w'))
    (H4 : Hid (∀ W : World, Calls Tryd.prog 27 #[.int .u64 x] W fun e w' => e = .returned (.string t) ∧ w' = W)) :
    Calls Tryd.prog 5 #[.int .u64 x, .string s] w fun e w' => e = .returned (.bool true) ∧ Below w.heap.size w w' := by
  go_enter Tryd.func5, Tryd.ntmps5
  go_wp2_with fail
  refine H1.out.mono ?_
  rintro e w1 ⟨rfl, rfl⟩
  go_wp2_with (first | (go_at_call 25; refine (H2.out _).mono ?_; rintro e w5 ⟨rfl, rfl⟩) | (go_at_call 26; refine H3.out.mono ?_; rintro e w7 ⟨rfl, b7⟩) | (go_at_call 27; refine (H4.out _).mono ?_; rintro e w8 ⟨rfl, rfl⟩) | (go_at_call 15; refine (num_any _ _).mono ?_; rintro e w5 ⟨rfl, rfl⟩) | (go_at_call 16; refine (live_any _ (HD.out.below b7)).mono ?_; rintro e w9 ⟨rfl, b9⟩; replace b9 := q_trans b7 b9))
  go_ret
  exact ⟨rfl, b9⟩

theorem texts_any (x : Int) (s : ByteArray) (w : World) (hx : U64 x) (hD : Dig w) :
    Calls Tryd.prog 5 #[.int .u64 x, .string s] w fun e w' => e = .returned (.bool true) ∧ Below w.heap.size w w' := by
  obtain ⟨y, rfl⟩ := Int.eq_ofNat_of_zero_le hx.1
  have hy : y < 18446744073709551616 := by have := hx.2; omega
  exact texts_core y s (textS y) (parT s) (parE s) w hD (parse_any s w hD) (fun W => rparse_any s W) (text_any y w hy hD) (fun W => rtext_any y W hy)
end Go.Proofs.YtdngpjgpomjncaaDoor
