/- What num, within, isKind, isAddress, address, Name do. -/
import Derived.Test.YtilannincbcgkaaDoorKlMem
import Derived.Test.YtilannincbcgkaaDoorAdW3
import Derived.Test.YtilannincbcgkaaDoorAdRParse
namespace Go.Proofs.YtilannincbcgkaaDoor.Kl
open Go.RowKit
open Ad (q_trans q_alloc q_set ret_int ret_bool hid)

set_option maxHeartbeats 400000 in
theorem num_any (x : Int) (w : World) :
    Calls Tryd.prog 13 #[.int .i64 x] w fun e w' => e = .returned (.int .i64 x) ∧ w' = w := by
  go_enter Tryd.func13, Tryd.ntmps13
  go_wp2
  go_ret
  exact ⟨rfl, rfl⟩
set_option maxHeartbeats 400000 in
theorem within_any (v a b : Int) (w : World) :
    Calls Tryd.prog 34 #[.int .i64 v, .int .i64 a, .int .i64 b] w fun e w' => e = .returned (.bool (inB v a b)) ∧ w' = w := by
  by_cases h1 : a ≤ v
  · by_cases h2 : v ≤ b
    · have H : Hid (inB v a b = true) := inB_iff.2 ⟨h1, h2⟩
      go_enter Tryd.func34, Tryd.ntmps34
      go_wp2
      go_ret
      exact ⟨ret_bool H.out.symm, rfl⟩
    · have H : Hid (inB v a b = false) := inB_not.2 (by omega)
      go_enter Tryd.func34, Tryd.ntmps34
      go_wp2
      go_ret
      exact ⟨ret_bool H.out.symm, rfl⟩
  · have H : Hid (inB v a b = false) := inB_not.2 (by omega)
    go_enter Tryd.func34, Tryd.ntmps34
    go_wp2
    go_ret
    exact ⟨ret_bool H.out.symm, rfl⟩
set_option maxHeartbeats 400000 in
theorem isKind_any (k : Int) (w : World) :
    Calls Tryd.prog 25 #[.int .i64 k] w fun e w' => e = .returned (.bool (kdB k)) ∧ w' = w := by
  go_enter Tryd.func25, Tryd.ntmps25
  go_wp2_with (go_at_call 34; refine (within_any _ _ _ _).mono ?_; rintro e w' ⟨rfl, rfl⟩)
  go_ret
  exact ⟨rfl, rfl⟩
theorem ad_nat (y : Nat) : adB (y : Int) = Ad.parB y := by simp [adB]
set_option maxHeartbeats 400000 in
theorem isAddress_any (x : Int) (w : World) (hx : U64 x) :
    Calls Tryd.prog 26 #[.int .u64 x] w fun e w' => e = .returned (.bool (adB x)) ∧ Below w.heap.size w w' := by
  obtain ⟨y, rfl⟩ := Int.eq_ofNat_of_zero_le hx.1
  have HC := hid (fun W => Ad.pParse_any y W (by have := hx.2; omega))
  rw [ad_nat]
  clear hx
  cases h : Ad.parB y with
  | true =>
    rw [(Ad.par_yes h).2] at HC
    clear h
    go_enter Tryd.func26, Tryd.ntmps26
    go_wp2_with fail
    refine (HC.out _).mono ?_
    rintro e w1 ⟨ao, n, cap, rfl, -, b1⟩
    go_wp2_with fail
    go_ret
    exact ⟨rfl, b1⟩
  | false =>
    rw [(Ad.par_no h).2] at HC
    clear h
    go_enter Tryd.func26, Tryd.ntmps26
    go_wp2_with fail
    refine (HC.out _).mono ?_
    rintro e w1 ⟨ao, n, cap, rfl, -, b1⟩
    go_wp2_with fail
    go_ret
    exact ⟨rfl, b1⟩
set_option maxHeartbeats 400000 in
theorem address_any (x : Int) (w : World) (hx : U64 x) :
    Calls Tryd.prog 28 #[.int .u64 x] w fun e w' => e = .returned (.bool (adB x)) ∧ Below w.heap.size w w' := by
  obtain ⟨y, rfl⟩ := Int.eq_ofNat_of_zero_le hx.1
  have HC := hid (fun W => Ad.rParse_any y W (by have := hx.2; omega))
  rw [ad_nat]
  clear hx
  cases h : Ad.parB y with
  | true =>
    rw [(Ad.par_yes h).2] at HC
    clear h
    go_enter Tryd.func28, Tryd.ntmps28
    go_wp2_with fail
    refine (HC.out _).mono ?_
    rintro e w1 ⟨ao, n, cap, rfl, -, b1⟩
    go_wp2_with fail
    go_ret
    exact ⟨rfl, b1⟩
  | false =>
    rw [(Ad.par_no h).2] at HC
    clear h
    go_enter Tryd.func28, Tryd.ntmps28
    go_wp2_with fail
    refine (HC.out _).mono ?_
    rintro e w1 ⟨ao, n, cap, rfl, -, b1⟩
    go_wp2_with fail
    go_ret
    exact ⟨rfl, b1⟩
/-- The name of a kind. -/
def nmT (k : Int) : ByteArray := if kdB k then nmS k.toNat else ⟨#[]⟩
set_option maxHeartbeats 400000 in
theorem name_any (k : Int) (w : World) (hT : Tabs w) :
    Calls Tryd.prog 17 #[.int .i64 k] w fun e w' => e = .returned (.string (nmT k)) ∧ w' = w := by
  cases h : kdB k with
  | false =>
    rw [show nmT k = ⟨#[]⟩ by simp [nmT, h]]
    go_enter Tryd.func17, Tryd.ntmps17
    go_wp2_with (go_at_call 25; refine (isKind_any _ _).mono ?_; rintro e w' ⟨rfl, rfl⟩)
    go_ret
    exact ⟨rfl, rfl⟩
  | true =>
    have hr := inB_iff.1 h
    obtain ⟨j, rfl⟩ := Int.eq_ofNat_of_zero_le (show 0 ≤ k by omega)
    rw [show nmT (j : Int) = nmS j by simp [nmT, h]]
    have hc := hT.nm j (by omega)
    have i1 : (0 : Int) ≤ (j : Int) := by omega
    have i2 : (j : Int) < 13 := by omega
    clear hr hT
    generalize nmS j = s at hc ⊢
    go_enter Tryd.func17, Tryd.ntmps17
    go_wp2_with (go_at_call 25; refine (isKind_any _ _).mono ?_; rintro e w' ⟨rfl, rfl⟩)
    go_ret
    exact ⟨rfl, rfl⟩
end Go.Proofs.YtilannincbcgkaaDoor.Kl
