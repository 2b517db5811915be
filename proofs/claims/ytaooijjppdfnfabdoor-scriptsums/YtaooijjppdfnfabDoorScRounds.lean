/- What Rounds does: the program's, the document's. -/
import Derived.Test.YtaooijjppdfnfabDoorScBld
namespace Go.Proofs.YtaooijjppdfnfabDoor.Sc
open Go.RowKit

theorem fst_app (n q c : Nat) (h : q % n = c) : vals (fst n q) ++ [.int .i64 c] = vals (fst n (q + 1)) := by
  rw [fst_snoc, h]; simp [vals]
theorem round_mod (n r c : Nat) (h : c < n) : (r * n + c) % n = c := by
  rw [Nat.mul_comm, Nat.mul_add_mod, Nat.mod_eq_of_lt h]

set_option maxRecDepth 100000 in
set_option maxHeartbeats 1000000 in
theorem rounds_yes (n k M : Nat) (w : World) (hn : 1 ≤ n) (hn2 : n ≤ 64) (hk : 1 ≤ k) (hk2 : k ≤ 10000) (HM : Hid (M = n * k)) :
    Calls Tryd.prog 14 #[.int .i64 n, .int .i64 k] w fun e w' => ∃ ao cap, e = .returned (.slice ao M cap) ∧ w'.ownsRow w.heap.size 3 1 (.slice ao M cap) M (vals (fst n M)) ∧ Below w.heap.size w w' := by
  have hM2 : M ≤ 640000 := by rw [HM.out]; exact Nat.le_trans (Nat.mul_le_mul hn2 hk2) (by decide)
  have hmul : wrap64 ((n : Int) * (k : Int)) = (M : Int) := by
    have e : (n : Int) * (k : Int) = (M : Int) := by rw [HM.out]; simp
    rw [e]; unfold wrap64; omega
  obtain ⟨i0, hi, hz0, hz1, hz2⟩ := info_parts infoI
  obtain ⟨wm, hmk, hown, hg⟩ := run_make_own w w.heap.size 22 3 i0 (.int .i64 0) 1 Tryd.underlying22 hi hz0 hz1 .i64 .i64 M (by rw [hz2]; omega) (by unfold maxLen; omega) (Nat.le_refl _)
  have HB0 : Hid (Below w.heap.size w wm) := (Below.refl _ w).grown hg (Nat.le_refl _) (fun k e => by cases e)
  have HO0 := hid hown
  clear hown hg
  go_enter Tryd.func14, Tryd.ntmps14
  go_wp2_with fail
  clear hmk hmul
  go_loopw [5, 26] (fun l i wr => ∃ (r q : Nat) (ao : Option Addr) (cap : Nat), r ≤ k ∧ i = .int .i64 r ∧ l = .slice ao q cap ∧ Hid (q = r * n) ∧ Hid (wr.ownsRow w.heap.size 3 1 (.slice ao q cap) q (vals (fst n q))) ∧ Hid (Below w.heap.size w wr)) (fun _ i _ => k - (intOf i).toNat)
  case atStart => exact ⟨0, 0, _, _, Nat.zero_le _, rfl, rfl, by simp [Hid], HO0, HB0⟩
  case round =>
    obtain ⟨r, q, ao, cap, hr, rfl, rfl, HQ, HO, HB⟩ := hrel
    by_cases hlt : r < k
    · go_wp2_with fail
      go_loopw [5, 29] (fun l i wr => ∃ (c : Nat) (ao : Option Addr) (cap : Nat), c ≤ n ∧ i = .int .i64 c ∧ l = .slice ao (q + c) cap ∧ Hid (wr.ownsRow w.heap.size 3 1 (.slice ao (q + c) cap) (q + c) (vals (fst n (q + c)))) ∧ Hid (Below w.heap.size w wr)) (fun _ i _ => n - (intOf i).toNat)
      case atStart => exact ⟨0, ao, cap, Nat.zero_le _, rfl, rfl, HO, HB⟩
      case round =>
        obtain ⟨c, ao1, cap1, hc, rfl, rfl, HO1, HB1⟩ := hrel
        by_cases hlc : c < n
        · have hq : Hid (q + c + 1 ≤ 640000) := by
            have h1 : (r + 1) * n ≤ k * n := Nat.mul_le_mul_right n (by omega)
            rw [Nat.succ_mul, Nat.mul_comm k n, ← HM.out, ← HQ.out] at h1
            show q + c + 1 ≤ 640000
            omega
          have HF := hid (fst_app n (q + c) c (by rw [HQ.out]; exact round_mod n r c hlc))
          go_wp2_with (at_builtin; refine wpList_append_row _ rfl _ _ 22 3 _ 1 8 rfl Tryd.underlying22 infoI rfl (by decide) (by decide) w.heap.size _ _ _ rfl (World.ownsRow.alloc HO1.out _) (some ⟨_, 0, none⟩) 1 1 [.int .i64 c] rfl rfl (fun h => by cases h) (row_new _ _ _) (one_num _) (by have := hq.out; omega) (by have := HB1.out.size; simp; omega) ?_; intro ao2 cap2 w2 hown2 hgrow2; apply Hid.out)
          rw [HF.out] at hown2
          have HB2 := hid ((HB1.out.alloc HB1.out.size _).grown hgrow2 (by have := HB1.out.size; simp; omega) (fun k e => (World.ownsRow.lt HO1.out k e).1))
          have HO2 := hid hown2
          clear hown2 hgrow2
          unfold Hid
          go_wp2_with fail
          go_roundw
          case rel => exact ⟨c + 1, ao2, cap2, by omega, by go_num, rfl, HO2, HB2⟩
          case measure => simp [intOf]; omega
        · obtain rfl : c = n := by omega
          have HQ1 : Hid (q + c = (r + 1) * c) := by show q + c = _; rw [Nat.succ_mul, HQ.out]
          go_wp2_with fail
          exact ⟨⟨r + 1, q + c, ao1, cap1, by omega, by go_num, rfl, HQ1, HO1, HB1⟩, by simp [intOf]; omega⟩
    · obtain rfl : r = k := by omega
      have HE : Hid (q = M) := by show q = M; rw [HQ.out, HM.out, Nat.mul_comm]
      go_wp2_with fail
      go_ret
      have e := HE.out
      subst e
      exact ⟨ao, cap, rfl, HO.out, HB.out⟩

set_option maxRecDepth 100000 in
set_option maxHeartbeats 400000 in
theorem rounds_no (n k : Int) (w : World) (h : ¬ (1 ≤ n ∧ n ≤ 64 ∧ 1 ≤ k ∧ k ≤ 10000)) :
    Calls Tryd.prog 14 #[.int .i64 n, .int .i64 k] w fun e w' => e = .returned (.slice none 0 0) ∧ w' = w := by
  by_cases h1 : 1 ≤ n
  · by_cases h2 : n ≤ 64
    · by_cases h3 : 1 ≤ k
      · have h4 : ¬ k ≤ 10000 := fun h4 => h ⟨h1, h2, h3, h4⟩
        clear h
        go_enter Tryd.func14, Tryd.ntmps14
        go_wp2
        go_ret
        exact ⟨rfl, rfl⟩
      · clear h
        go_enter Tryd.func14, Tryd.ntmps14
        go_wp2
        go_ret
        exact ⟨rfl, rfl⟩
    · clear h
      go_enter Tryd.func14, Tryd.ntmps14
      go_wp2
      go_ret
      exact ⟨rfl, rfl⟩
  · clear h
    go_enter Tryd.func14, Tryd.ntmps14
    go_wp2
    go_ret
    exact ⟨rfl, rfl⟩
theorem rdsI_yes (n k : Nat) (hn : 1 ≤ n) (hn2 : n ≤ 64) (hk : 1 ≤ k) (hk2 : k ≤ 10000) : rdsI n k = rds n k := by
  unfold rdsI
  rw [if_pos (by omega)]
  simp
theorem rdsI_no (n k : Int) (h : ¬ (1 ≤ n ∧ n ≤ 64 ∧ 1 ≤ k ∧ k ≤ 10000)) : rdsI n k = [] := if_neg h
theorem mine_of {w : World} {B M cap : Nat} {ao : Option Addr} {l : List Int} (h : w.ownsRow B 3 1 (.slice ao M cap) M (vals l)) (hl : l.length = M) : Mine w B ao cap l := by
  subst hl; exact h
theorem rounds_any (n k : Int) (w : World) :
    Calls Tryd.prog 14 #[.int .i64 n, .int .i64 k] w fun e w' => ∃ ao cap, e = .returned (.slice ao (rdsI n k).length cap) ∧ Mine w' w.heap.size ao cap (rdsI n k) ∧ Below w.heap.size w w' := by
  by_cases h : 1 ≤ n ∧ n ≤ 64 ∧ 1 ≤ k ∧ k ≤ 10000
  · obtain ⟨a, rfl⟩ := Int.eq_ofNat_of_zero_le (show 0 ≤ n by omega)
    obtain ⟨b, rfl⟩ := Int.eq_ofNat_of_zero_le (show 0 ≤ k by omega)
    rw [rdsI_yes a b (by omega) (by omega) (by omega) (by omega), rds_len]
    refine (rounds_yes a b (a * b) w (by omega) (by omega) (by omega) (by omega) rfl).mono ?_
    rintro e w' ⟨ao, cap, rfl, h1, h2⟩
    exact ⟨ao, cap, rfl, mine_of (l := rds a b) h1 (rds_len a b), h2⟩
  · rw [rdsI_no n k h]
    refine (rounds_no n k w h).mono ?_
    rintro e w' ⟨rfl, rfl⟩
    exact ⟨none, 0, rfl, mine_nil _ _, Below.refl _ _⟩

theorem rdsI_len (n k : Int) : (rdsI n k).length ≤ 640000 := by
  by_cases h : 1 ≤ n ∧ n ≤ 64 ∧ 1 ≤ k ∧ k ≤ 10000
  · obtain ⟨a, rfl⟩ := Int.eq_ofNat_of_zero_le (show 0 ≤ n by omega)
    obtain ⟨b, rfl⟩ := Int.eq_ofNat_of_zero_le (show 0 ≤ k by omega)
    rw [rdsI_yes a b (by omega) (by omega) (by omega) (by omega), rds_len]
    exact Nat.le_trans (Nat.mul_le_mul (show a ≤ 64 by omega) (show b ≤ 10000 by omega)) (by decide)
  · rw [rdsI_no n k h]; simp
end Go.Proofs.YtaooijjppdfnfabDoor.Sc
