/- HandleRetires. -/
import Derived.Test.YthhbifcgilkddaaHaLive
namespace Go.Proofs.Ythhbifcgilkddaa.Ha
open Go.RowKit

/-- The generation behind k bumps. -/
def genA (f k : Nat) : Int := if f + k ≤ 4095 then ((f + k : Nat) : Int) else -1
theorem bump_one (f k : Nat) (h : f + k ≤ 4095) : ofE [genA f k] 0 = 0 ∧ bumpL [genA f k] 0 = [genA f (k + 1)] := by
  have hg : genA f k = ((f + k : Nat) : Int) := if_pos h
  have e : ofE [genA f k] 0 = 0 := ofE_zero.2 ⟨by simp, by simp [at_, hg]; omega⟩
  refine ⟨e, ?_⟩
  unfold bumpL
  rw [if_pos e]
  show [nxG (genA f k)] = _
  rw [hg]
  unfold nxG genA
  by_cases h2 : f + (k + 1) ≤ 4095
  · rw [if_pos (by omega), if_pos h2]
    congr 1
  · rw [if_neg (by omega), if_neg h2]
theorem gone_one (f k : Nat) (h : f + k = 4096) : genA f k = -1 := if_neg (by omega)
theorem cell_one {w : World} {ao : Option Addr} {cap : Nat} {x : Int} (H : Has w ao 1 cap [x]) : ∃ a, ao = some a ∧ w.cell? a = some (.int .i64 x) := by
  obtain ⟨a, e, hc⟩ := H.cell 0 (by decide)
  exact ⟨a, e, by simpa [Addr.add] using hc⟩
theorem rt_bump (w : World) (ao : Option Addr) (cap f k : Nat) (h : f + k ≤ 4095) (H : Has w ao 1 cap [genA f k]) : Calls Try.prog 19 #[.slice ao 1 cap, .int .i64 0] w fun e w' => ∃ ao' cap', e = .returned (.tuple #[.slice ao' 1 cap', .int .i64 0]) ∧ Has w' ao' 1 cap' [genA f (k + 1)] ∧ Below w.heap.size w w' := by
  have hb := bump_any ao 1 cap [genA f k] 0 w H (by decide)
  rw [(bump_one f k h).1, (bump_one f k h).2] at hb
  refine hb.mono ?_
  rintro e w' ⟨ao', cap', rfl, m, b⟩
  exact ⟨ao', cap', rfl, m.has, b⟩
theorem rt_no (w : World) (ao : Option Addr) (cap : Nat) (H : Has w ao 1 cap [-1]) : Calls Try.prog 19 #[.slice ao 1 cap, .int .i64 0] w fun e w' => ∃ ao' cap', e = .returned (.tuple #[.slice ao' 1 cap', .int .i64 80]) ∧ Below w.heap.size w w' := by
  have hb := bump_any ao 1 cap [-1] 0 w H (by decide)
  rw [show ofE [-1] 0 = 80 by decide] at hb
  refine hb.mono ?_
  rintro e w' ⟨ao', cap', rfl, m, b⟩
  exact ⟨ao', cap', rfl, b⟩

set_option maxRecDepth 100000 in
set_option maxHeartbeats 2000000 in
theorem retires_in (f : Nat) (w : World) (hf : f ≤ 4095) : Calls Try.prog 7 #[.int .i64 (f : Int)] w fun e w' => e = .returned (.bool true) ∧ Below w.heap.size w w' := by
  have i0 : (0 : Int) ≤ (f : Int) := by omega
  have i1 : (f : Int) ≤ 4095 := by omega
  have HS := hid (has1 w (f : Int))
  rw [show ([(f : Int)] : List Int) = [genA f 0] by rw [show genA f 0 = (((f + 0 : Nat)) : Int) from if_pos hf]; rfl] at HS
  have HB0 := hid (alloc_below w (.cells #[.int .i64 (f : Int)] 3))
  go_enter Try.func7, Try.ntmps7
  go_wp2_with fail
  go_loopw [3, 4, 5] (fun lv nv i wr => ∃ (k cap : Nat) (ao : Option Addr), f + k ≤ 4096 ∧ i = .int .i64 k ∧ nv = .int .i64 k ∧ lv = .slice ao 1 cap ∧ Hid (Has wr ao 1 cap [genA f k]) ∧ Hid (Below w.heap.size w wr)) (fun _ _ i _ => 4096 - (intOf i).toNat)
  case atStart => exact ⟨0, _, _, by omega, rfl, rfl, rfl, HS, HB0⟩
  case round =>
    obtain ⟨k, cap, ao, hk, rfl, rfl, rfl, HH, HB⟩ := hrel
    by_cases hlt : f + k ≤ 4095
    · have j1 : (k : Int) ≤ 4095 := by omega
      go_wp2_with fail
      refine (rt_bump _ ao cap f k hlt HH.out).mono ?_
      rintro e w1 ⟨ao1, cap1, rfl, m1, b1⟩
      have HH1 := hid m1
      have HB1 := hid (q_trans HB.out b1)
      clear m1 b1 HH HB
      go_wp2_with fail
      refine (num_any 0 _).mono ?_
      rintro e w2 ⟨rfl, hw⟩; rw [hw]; clear hw w2
      go_wp2_with fail
      go_roundw
      case rel => exact ⟨k + 1, cap1, ao1, by omega, by go_num, by go_num, rfl, HH1, HB1⟩
      case measure => simp [intOf]; omega
    · have e : f + k = 4096 := by omega
      rw [gone_one f k e] at HH
      have hsub : (4096 : Int) - (f : Int) = (k : Int) := by omega
      obtain ⟨a, rfl, hc⟩ := cell_one HH.out
      have HC := hid hc
      clear hc e
      by_cases h0 : (k : Int) ≤ 4095
      · go_wp2_with fail
        refine (rt_no _ _ cap HH.out).mono ?_
        rintro e w1 ⟨ao1, cap1, rfl, b1⟩
        have HH1 := hid (HH.out.below b1)
        have HB1 := hid (q_trans HB.out b1)
        obtain ⟨_, e, hc⟩ := cell_one HH1.out
        cases e
        clear b1 HH HB HC
        go_wp2_with fail
        refine (num_any 80 _).mono ?_
        rintro e w2 ⟨rfl, hw⟩; rw [hw]; clear hw w2
        go_wp2_with fail
        refine (lv_of _ _ cap HH1.out).mono ?_
        rintro e w2 ⟨rfl, hw⟩; rw [hw]; clear hw w2
        go_wp2_with fail
        refine (num_any 80 _).mono ?_
        rintro e w2 ⟨rfl, hw⟩; rw [hw]; clear hw w2
        go_wp2_with fail
        refine (live_any _).mono ?_
        rintro e w2 ⟨rfl, b2⟩
        go_wp2_with fail
        go_ret
        exact ⟨rfl, q_trans HB1.out b2⟩
      · have hc := HC.out
        go_wp2_with fail
        refine (lv_of _ _ cap HH.out).mono ?_
        rintro e w2 ⟨rfl, hw⟩; rw [hw]; clear hw w2
        go_wp2_with fail
        refine (num_any 80 _).mono ?_
        rintro e w2 ⟨rfl, hw⟩; rw [hw]; clear hw w2
        go_wp2_with fail
        refine (live_any _).mono ?_
        rintro e w2 ⟨rfl, b2⟩
        go_wp2_with fail
        go_ret
        exact ⟨rfl, q_trans HB.out b2⟩
set_option maxRecDepth 100000 in
set_option maxHeartbeats 2000000 in
theorem retires_any (f : Int) (w : World) : Calls Try.prog 7 #[.int .i64 f] w fun e w' => e = .returned (.bool true) ∧ Below w.heap.size w w' := by
  by_cases h0 : 0 ≤ f
  · by_cases h1 : f ≤ 4095
    · obtain ⟨k, rfl⟩ : ∃ k : Nat, f = (k : Int) := ⟨f.toNat, by omega⟩
      exact retires_in k w (by omega)
    · go_enter Try.func7, Try.ntmps7
      go_wp2_with fail
      refine (live_any _).mono ?_
      rintro e w2 ⟨rfl, b2⟩
      go_wp2_with fail
      go_ret
      exact ⟨rfl, b2⟩
  · go_enter Try.func7, Try.ntmps7
    go_wp2_with fail
    refine (live_any _).mono ?_
    rintro e w2 ⟨rfl, b2⟩
    go_wp2_with fail
    go_ret
    exact ⟨rfl, b2⟩
end Go.Proofs.Ythhbifcgilkddaa.Ha
