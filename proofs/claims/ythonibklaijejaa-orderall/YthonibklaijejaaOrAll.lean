/- OrderAll holds. -/
import Derived.Test.YthonibklaijejaaOrSortsL
namespace Go.Proofs.Ythonibklaijejaa.Or
open Go.RowKit

theorem mem_turn (l : List K) (k : Nat) (y : K) : y ∈ l.drop k ++ l.take k ↔ y ∈ l := by
  constructor
  · intro h
    rcases List.mem_append.1 h with h | h
    · exact List.mem_of_mem_drop h
    · exact List.mem_of_mem_take h
  · intro h
    rw [← List.take_append_drop k l] at h
    rcases List.mem_append.1 h with h | h
    · exact List.mem_append.2 (.inr h)
    · exact List.mem_append.2 (.inl h)
theorem all_turn (l : List K) (k : Nat) : allOk (l.drop k ++ l.take k) = allOk l := by
  unfold allOk
  rw [Bool.eq_iff_iff, List.all_eq_true, List.all_eq_true]
  exact ⟨fun g y hy => g y ((mem_turn l k y).2 hy), fun g y hy => g y ((mem_turn l k y).1 hy)⟩
theorem srt_turn (l : List K) (k : Nat) : srt (l.drop k ++ l.take k) = srt l := srt_same (mem_turn l k)
theorem sort_as {ao : Option Addr} {n cap : Nat} {l z : List K} {w : World} (hs : n ≤ 1000) (h : Has w ao n cap l) (ha : allOk l = true) (hz : srt l = z) :
    Calls Try.prog 19 #[.slice ao n cap] w fun e w' => ∃ ao' cap', e = .returned (.tuple #[.slice ao' z.length cap', .int .i64 0]) ∧ Has w' ao' z.length cap' z ∧ Below w.heap.size w w' := by
  rw [← hz]
  exact sort_yes hs h ha
set_option maxRecDepth 100000 in
set_option maxHeartbeats 400000 in
theorem all_out (a0 : Option Addr) (n0 c0 : Nat) (k : Int) (w : World) (hn0 : n0 ≤ 9223372036854775807) (h : 100 < n0 ∨ (n0 ≤ 100 ∧ k < 0) ∨ (n0 ≤ 100 ∧ 0 ≤ k ∧ (n0 : Int) < k)) :
    Calls Try.prog 7 #[.slice a0 n0 c0, .int .i64 k] w fun e w' => e = .returned (.bool true) ∧ Below w.heap.size w w' := by
  rcases h with h | ⟨h, h'⟩ | ⟨h, h', h''⟩
  all_goals
    go_enter Try.func7, Try.ntmps7
    go_wp2_with (go_at_call 18; refine (live_any _).mono ?_; rintro e w9 ⟨rfl, b9⟩)
    go_ret
    exact ⟨rfl, b9⟩
set_option maxRecDepth 100000 in
set_option maxHeartbeats 2000000 in
theorem all_no' (a0 : Option Addr) (l : List K) (n0 c0 k : Nat) (w : World) (h0 : n0 ≤ 100) (hk : k ≤ n0) (H0 : Hid (Has w a0 n0 c0 l)) (HA : Hid (allOk l = false)) :
    Calls Try.prog 7 #[.slice a0 n0 c0, .int .i64 k] w fun e w' => e = .returned (.bool true) ∧ Below w.heap.size w w' := by
  have i1 : (0 : Int) ≤ (k : Int) := by omega
  have i2 : (k : Int) ≤ (n0 : Int) := by omega
  go_enter Try.func7, Try.ntmps7
  go_wp2_with fail
  refine (sort_no (by omega) H0.out HA.out).mono ?_
  rintro e w1 ⟨ao1, cap1, rfl, b1⟩
  have L1 := hid b1
  clear b1
  go_wp2_with (first | (go_at_call 18; refine (live_any _).mono ?_; rintro e w9 ⟨rfl, b9⟩) | (go_at_call 11; refine (num_any _ _).mono ?_; rintro e w' ⟨rfl, rfl⟩))
  go_ret
  exact ⟨rfl, q_trans L1.out b9⟩
set_option maxRecDepth 100000 in
set_option maxHeartbeats 4000000 in
theorem all_yes' (a0 : Option Addr) (l : List K) (n0 c0 k : Nat) (w : World) (h0 : n0 ≤ 100) (hk : k ≤ n0) (H0 : Hid (Has w a0 n0 c0 l)) (HA : Hid (allOk l = true)) :
    Calls Try.prog 7 #[.slice a0 n0 c0, .int .i64 k] w fun e w' => e = .returned (.bool true) ∧ Below w.heap.size w w' := by
  have i1 : (0 : Int) ≤ (k : Int) := by omega
  have i2 : (k : Int) ≤ (n0 : Int) := by omega
  obtain ⟨z, hz⟩ : ∃ z, srt l = z := ⟨_, rfl⟩
  have HZ := hid hz
  have HR : Hid (riseB z = true) := by rw [← hz]; exact riseB_of (rise_srt l)
  have Z1 : z.length ≤ n0 := by rw [← hz, H0.out.len]; exact len_srt l
  have HM1 : Hid (∀ j, j < l.length → hasB z (l.getD j (0, 0)) = true) := fun j hj => by
    rw [hasB, decide_eq_true_eq, ← hz, mem_srt, getD_lt hj]
    exact List.getElem_mem hj
  have HM2 : Hid (∀ j, j < z.length → hasB l (z.getD j (0, 0)) = true) := fun j hj => by
    rw [hasB, decide_eq_true_eq, getD_lt hj, ← mem_srt, hz]
    exact List.getElem_mem hj
  obtain ⟨t, ht⟩ : ∃ t, l.drop k ++ l.take k = t := ⟨_, rfl⟩
  have HT := hid ht
  have TA : Hid (allOk t = true) := by rw [← ht]; exact (all_turn l k).trans HA.out
  have TZ : Hid (srt t = z) := by rw [← ht, ← hz]; exact srt_turn l k
  have TN : Hid (n0 = t.length) := by rw [← ht, H0.out.len]; have := H0.out.len; simp [Hid]; omega
  clear hz ht
  go_enter Try.func7, Try.ntmps7
  go_wp2_with fail
  refine (sort_as (by omega) H0.out HA.out HZ.out).mono ?_
  rintro e w1 ⟨ao1, cap1, rfl, s1, b1⟩
  have S1 := hid s1
  have L1 := hid b1
  clear b1 s1
  have H1 := hid (H0.out.below L1.out)
  obtain ⟨ao2, hd, hfrom⟩ := cut_from H1.out k hk
  have HD := hid hd
  have hto := run_to a0 k n0 c0 (by have := H0.out.cap; omega)
  have HK := hid (H1.out.take k hk)
  clear hd
  go_wp2_with (go_at_call 11; refine (num_any _ _).mono ?_; rintro e w' ⟨rfl, hw⟩; rw [hw]; clear hw w')
  go_region_held3 (fun w' => True) (trivial)
    (first
      | (refine step_append_keys _ (by rfl) (.tmp 40) (.tmp 43) (by rfl) w1.heap.size (.slice (some ⟨w1.heap.size, 0, none⟩) 0 0) 0 [] (by rfl) ((own0 w1 23 2).drew) ao2 (n0 - k) (c0 - k) (l.drop k) (by rfl) HD.out.len HD.out.nil (HD.out.row.below ((alloc_below w1 _).drew)) (n0 - k) (by omega) (l.drop k) (by rfl) (by omega) (by simp) ?_; intro ao3 cap3 w3 own3 grow3; have b3 := grow_below ((alloc_below w1 _).drew) grow3 (Nat.le_refl _))
      | (refine step_append_keys _ (by rfl) (.tmp 44) (.tmp 47) (by rfl) w1.heap.size _ _ _ (by rfl) own3 a0 k c0 (l.take k) (by rfl) HK.out.len HK.out.nil (HK.out.row.below b3) n0 (by omega) t HT.out (by omega) b3.size ?_; intro ao4 cap4 w4 own4 grow4; have b4 := b3.grown grow4 b3.size (fun k e => (own3.lt k e).1)))
  have H4 := hid (own_has own4 TN.out)
  have S4 := hid (S1.out.below b4)
  have L4 := hid (q_trans L1.out b4)
  clear own3 grow3 b3 own4 grow4 b4 S1 L1 H1 HD HK hfrom hto
  go_wp2_with fail
  refine (sort_as (by omega) H4.out TA.out TZ.out).mono ?_
  rintro e w5 ⟨ao5, cap5, rfl, s5, b5⟩
  have S5 := hid s5
  have S4b := hid (S4.out.below b5)
  have L5 := hid (q_trans L4.out b5)
  clear s5 b5 S4 L4 H4
  go_wp2_with (go_at_call 11; refine (num_any _ _).mono ?_; rintro e w' ⟨rfl, rfl⟩)
  refine (same_yes (by omega) S4b.out S5.out).mono ?_
  rintro e w6 ⟨rfl, b6⟩
  have S6 := hid (S4b.out.below b6)
  have L6 := hid (q_trans L5.out b6)
  clear b6 S4b S5 L5
  go_wp2_with fail
  refine (is_rising (by omega) S6.out HR.out).mono ?_
  rintro e w7 ⟨rfl, b7⟩
  have S7 := hid (S6.out.below b7)
  have L7 := hid (q_trans L6.out b7)
  have i3 : ¬ n0 < z.length := by omega
  clear b7 S6 L6
  go_wp2_with fail
  go_loopw [10] (fun i wr => ∃ j : Nat, j ≤ n0 ∧ i = .int .i64 j ∧ Hid (Below w7.heap.size w7 wr)) (fun i _ => n0 - (intOf i).toNat)
  case atStart => exact ⟨0, Nat.zero_le _, rfl, Below.refl _ _⟩
  case round =>
    obtain ⟨j, hj, rfl, HB⟩ := hrel
    by_cases hlt : j < n0
    · have j1 : (0 : Int) ≤ (j : Int) := by omega
      have j2 : (j : Int) < (n0 : Int) := by omega
      obtain ⟨a, rfl, ca⟩ := atK_of ((H0.out.row.below L7.out).below HB.out) j (by have := H0.out.len; omega)
      have HX := hid (HM1.out j (by have := H0.out.len; omega))
      obtain ⟨x, hx⟩ : ∃ x, l.getD j (0, 0) = x := ⟨_, rfl⟩
      rw [hx] at ca HX
      clear hx
      obtain ⟨x0, x1⟩ := ca
      go_wp2_with fail
      refine (is_has (by omega) (S7.out.below HB.out) HX.out).mono ?_
      rintro e w8 ⟨rfl, b8⟩
      have HB8 := hid (q_trans HB.out b8)
      clear b8 x0 x1
      go_wp2_with fail
      go_roundw
      case rel => exact ⟨j + 1, by omega, by go_num, HB8⟩
      case measure => simp [intOf]; omega
    · have S8 := hid (S7.out.below HB.out)
      have L8 := hid (q_trans L7.out HB.out)
      clear HB S7 L7
      go_wp2_with fail
      go_loopw [11] (fun i wr' => ∃ j : Nat, j ≤ z.length ∧ i = .int .i64 j ∧ Hid (Below wr.heap.size wr wr')) (fun i _ => z.length - (intOf i).toNat)
      case atStart => exact ⟨0, Nat.zero_le _, rfl, Below.refl _ _⟩
      case round =>
        obtain ⟨j, hj, rfl, HB⟩ := hrel
        by_cases hlt : j < z.length
        · have j1 : (0 : Int) ≤ (j : Int) := by omega
          have j2 : (j : Int) < (z.length : Int) := by omega
          obtain ⟨a, rfl, ca⟩ := atK_of (S8.out.row.below HB.out) j hlt
          have HX := hid (HM2.out j hlt)
          obtain ⟨x, hx⟩ : ∃ x, z.getD j (0, 0) = x := ⟨_, rfl⟩
          rw [hx] at ca HX
          clear hx
          obtain ⟨x0, x1⟩ := ca
          go_wp2_with fail
          refine (is_rhas (by omega) ((H0.out.below L8.out).below HB.out) HX.out).mono ?_
          rintro e w10 ⟨rfl, b10⟩
          have HB10 := hid (q_trans HB.out b10)
          clear b10 x0 x1
          go_wp2_with fail
          go_roundw
          case rel => exact ⟨j + 1, by omega, by go_num, HB10⟩
          case measure => simp [intOf]; omega
        · go_wp2_with (go_at_call 18; refine (live_any _).mono ?_; rintro e w11 ⟨rfl, b11⟩)
          go_ret
          exact ⟨rfl, q_trans (q_trans L8.out HB.out) b11⟩
/-- OrderAll ANSWERS true. -/
theorem all_any (a0 : Option Addr) (l : List K) (n0 c0 : Nat) (k : Int) (w : World) (hn0 : n0 ≤ 9223372036854775807) (H0 : Has w a0 n0 c0 l) (hk : InI k) :
    Calls Try.prog 7 #[.slice a0 n0 c0, .int .i64 k] w fun e w' => e = .returned (.bool true) ∧ Below w.heap.size w w' := by
  by_cases h : n0 ≤ 100 ∧ 0 ≤ k ∧ k ≤ (n0 : Int)
  · obtain ⟨m, rfl⟩ : ∃ m : Nat, k = (m : Int) := ⟨k.toNat, by omega⟩
    cases ha : allOk l with
    | true => exact all_yes' a0 l n0 c0 m w h.1 (by omega) H0 ha
    | false => exact all_no' a0 l n0 c0 m w h.1 (by omega) H0 ha
  · exact all_out a0 n0 c0 k w hn0 (by omega)
end Go.Proofs.Ythonibklaijejaa.Or
