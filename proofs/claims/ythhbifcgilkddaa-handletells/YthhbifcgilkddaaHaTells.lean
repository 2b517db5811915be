/- HandleTells. -/
import Derived.Test.YthhbifcgilkddaaHaLive
namespace Go.Proofs.Ythhbifcgilkddaa.Ha
open Go.RowKit

set_option maxRecDepth 100000 in
set_option maxHeartbeats 2000000 in
theorem tells_any (ao : Option Addr) (l : List Int) (n cap : Nat) (o h : Int) (w : World) (hn : n ≤ 9223372036854775807) (H : Has w ao n cap l) : Calls Try.prog 4 #[.slice ao n cap, .int .i64 o, .int .i64 h] w fun e w' => e = .returned (.bool true) ∧ Below w.heap.size w w' := by
  have HH := hid H
  clear H
  by_cases hs : (n : Int) ≤ 100
  · have HS := hid (show n ≤ 5000 by omega)
    go_enter Try.func4, Try.ntmps4
    go_wp2_with (at_builtin; go_loud (refine wpList_append_row _ rfl (.tmp 20) (.tmp 21) 35 3 _ 1 8 rfl Try.underlying35 infoN rfl (by decide) (by decide) w.heap.size _ 0 [] rfl (own0 w 3 1) ao n cap (vals l) rfl (by rw [len_vals, ← HH.out.len]; simp) HH.out.nil (HH.out.row.below (alloc_below w _)) (vals_one l) (by have := HS.out; omega) (alloc_below w _).size ?_; intro ao1 cap1 w1 hown1 hgrow1; apply Hid.out))
    have b1 := app_below hgrow1
    rw [Nat.zero_add, List.nil_append] at hown1
    have HM := hid (own_mine hown1).has
    have HA := hid (HH.out.below b1)
    have HB := hid b1
    clear hown1 hgrow1 b1 HH
    unfold Hid
    go_wp2_with fail
    refine (of_any ao1 n cap1 l o _ HM.out).mono ?_
    rintro e w2 ⟨rfl, hw⟩; rw [hw]; clear hw w2
    go_wp2_with fail
    refine (rof_any ao n cap l o _ HA.out).mono ?_
    rintro e w2 ⟨rfl, hw⟩; rw [hw]; clear hw w2
    go_wp2_with fail
    refine (bump_any ao1 n cap1 l o _ HM.out HS.out).mono ?_
    rintro e w3 ⟨ao3, cap3, rfl, m3, b3⟩
    have HM3 := hid (HM.out.below b3)
    have HA3 := hid (HA.out.below b3)
    have HC3 := hid m3.has
    have HB3 := hid (q_trans HB.out b3)
    clear HM HA HB m3 b3
    go_wp2_with fail
    refine (rbump_any ao n cap l o _ HA3.out HS.out).mono ?_
    rintro e w4 ⟨ao4, cap4, rfl, m4, b4⟩
    have HM4 := hid (HM3.out.below b4)
    have HA4 := hid (HA3.out.below b4)
    have HC4 := hid (HC3.out.below b4)
    have HD4 := hid m4
    have HB4 := hid (q_trans HB3.out b4)
    clear HM3 HA3 HC3 HB3 m4 b4
    go_wp2_with fail
    refine (num_any (ofE l o) _).mono ?_
    rintro e w2 ⟨rfl, hw⟩; rw [hw]; clear hw w2
    go_wp2_with fail
    refine (ints_yes ao3 ao4 n cap3 cap4 (bumpL l o) _ HS.out HC4.out HD4.out).mono ?_
    rintro e w5 ⟨rfl, b5⟩
    have HM5 := hid (HM4.out.below b5)
    have HA5 := hid (HA4.out.below b5)
    have HB5 := hid (q_trans HB4.out b5)
    clear HM4 HA4 HC4 HD4 HB4 b5
    go_wp2_with fail
    refine (num_any (ofE l o) _).mono ?_
    rintro e w2 ⟨rfl, hw⟩; rw [hw]; clear hw w2
    go_wp2_with fail
    refine (is_any ao1 n cap1 l h _ HM5.out).mono ?_
    rintro e w2 ⟨rfl, hw⟩; rw [hw]; clear hw w2
    go_wp2_with fail
    refine (ris_any ao n cap l h _ HA5.out).mono ?_
    rintro e w2 ⟨rfl, hw⟩; rw [hw]; clear hw w2
    go_wp2_with fail
    refine (ints_yes ao1 ao n cap1 cap l _ HS.out HM5.out HA5.out).mono ?_
    rintro e w6 ⟨rfl, b6⟩
    have HB6 := hid (q_trans HB5.out b6)
    clear HM5 HA5 HB5 b6
    go_wp2_with fail
    refine (live_any _).mono ?_
    rintro e w7 ⟨rfl, b7⟩
    go_wp2_with fail
    go_ret
    exact ⟨rfl, q_trans HB6.out b7⟩
  · go_enter Try.func4, Try.ntmps4
    go_wp2_with fail
    refine (live_any _).mono ?_
    rintro e w2 ⟨rfl, b2⟩
    go_wp2_with fail
    go_ret
    exact ⟨rfl, b2⟩
end Go.Proofs.Ythhbifcgilkddaa.Ha
