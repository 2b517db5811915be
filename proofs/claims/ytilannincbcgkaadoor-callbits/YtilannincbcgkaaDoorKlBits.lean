/- CallBits answers true. -/
import Derived.Test.YtilannincbcgkaaDoorKlBta
import Derived.Test.YtilannincbcgkaaDoorKlBtb
namespace Go.Proofs.YtilannincbcgkaaDoor.Kl
open Go.RowKit
open Ad (q_trans q_alloc q_set ret_int ret_bool hid Later wp_region_later later_call wpList_append_row own0 app_below alloc_below own_cell own_setS own_frozen Row own_below)

theorem bits_law (c : C) (at_ bit : Int) (w : World) (hc : Wf c) (hT : Tabs w) :
    Calls Tryd.prog 7 #[(.agg #[.int .i64 c.k, .int .u64 c.a, .int .u64 c.b, .int .i64 c.r, .int .i64 c.g, .int .i64 c.t, .int .i64 c.s, .int .i64 c.v]), .int .i64 at_, .int .i64 bit] w fun e w' => e = .returned (.bool true) ∧ Below w.heap.size w w' := by
  cases kc : okC c with
  | false => exact bt_no c at_ bit w hT hc kc
  | true =>
    by_cases h0 : at_ < 0
    · exact bt_a c at_ bit w hT hc kc h0
    by_cases h1 : 3 < at_
    · exact bt_b c at_ bit w hT hc kc h0 h1
    by_cases h2 : bit < 0
    · exact bt_c c at_ bit w hT hc kc h0 h1 h2
    by_cases h3 : 63 < bit
    · exact bt_d c at_ bit w hT hc kc h0 h1 h2 h3
    obtain ⟨k, rfl⟩ := Int.eq_ofNat_of_zero_le (show 0 ≤ at_ by omega)
    obtain ⟨j, rfl⟩ := Int.eq_ofNat_of_zero_le (show 0 ≤ bit by omega)
    cases kl : parB (turn (wds c) k j) with
    | true => exact bt_1 c k j w hT hc kc (by omega) (by omega) kl
    | false => exact bt_0 c k j w hT hc kc (by omega) (by omega) kl

end Go.Proofs.YtilannincbcgkaaDoor.Kl
