/- TreeMany. -/
import Derived.Test.YtdaakigofpehjabTrLive
import Derived.Test.YtdaakigofpehjabTrMany
namespace Go.Proofs.Ytdaakigofpehjab.Tr
open Go.RowKit

set_option maxHeartbeats 1600000 in
theorem many_far (n : Int) (w : World) (h : n < 500 ∨ n > 520) :
    Calls Try.prog 4 #[.int .i64 n] w fun e w' => e = .returned (.bool true) ∧ Below w.heap.size w w' := by
  by_cases q : n < 500
  · clear h
    go_enter Try.func4, Try.ntmps4
    go_wp2_with (go_at_call 5; refine (live_any _).mono ?_; rintro e w2 ⟨rfl, b⟩)
    go_ret
    exact ⟨rfl, b⟩
  · have i1 : n > 520 := by omega
    clear h
    go_enter Try.func4, Try.ntmps4
    go_wp2_with (go_at_call 5; refine (live_any _).mono ?_; rintro e w2 ⟨rfl, b⟩)
    go_ret
    exact ⟨rfl, b⟩
/-- The list behind q rounds. -/
def lst (q : Nat) : List Br := fl (min q 512)
theorem lst_len (q : Nat) : (lst q).length = min q 512 := fl_len _
theorem lst_tree (q : Nat) : Tree (lst q) := fl_tree _ (Nat.min_le_right _ _)
/-- What a round answers. -/
theorem even_lt {q : Nat} (h : q < 512) (he : q % 2 = 0) : roE (lst q) (mk q) = 0 ∧ roA (lst q) (mk q) = lst (q + 1) := by
  unfold lst
  rw [Nat.min_eq_left (by omega : q ≤ 512), Nat.min_eq_left (by omega : q + 1 ≤ 512)]
  exact fl_root (fl_tree q (by omega)) h he
theorem even_ge {q : Nat} (h : 512 ≤ q) (hq : q ≤ 520) : roE (lst q) (mk q) = 6 ∧ roA (lst q) (mk q) = lst (q + 1) := by
  unfold lst
  rw [Nat.min_eq_right h, Nat.min_eq_right (by omega : 512 ≤ q + 1)]
  exact fl_full h hq
theorem odd_lt {q : Nat} (h : q < 512) (he : q % 2 = 1) : inE (lst q) (mk (q - 1)) (mk q) = 0 ∧ inA (lst q) (mk (q - 1)) (mk q) = lst (q + 1) := by
  unfold lst
  rw [Nat.min_eq_left (by omega : q ≤ 512), Nat.min_eq_left (by omega : q + 1 ≤ 512)]
  exact fl_ins (fl_tree q (by omega)) h he
theorem odd_ge {q : Nat} (h : 512 ≤ q) (hq : q ≤ 520) (he : q % 2 = 1) : inE (lst q) (mk (q - 1)) (mk q) = 7 ∧ inA (lst q) (mk (q - 1)) (mk q) = lst (q + 1) := by
  unfold lst
  rw [Nat.min_eq_right h, Nat.min_eq_right (by omega : 512 ≤ q + 1)]
  exact fl_none (by omega) hq
set_option maxRecDepth 100000 in
set_option maxHeartbeats 8000000 in
theorem many_in (N : Nat) (w : World) (h1 : 500 ≤ N) (h2 : N ≤ 520) :
    Calls Try.prog 4 #[.int .i64 N] w fun e w' => e = .returned (.bool true) ∧ Below w.heap.size w w' := by
  have j1 : ¬ (N : Int) < 500 := by omega
  have j2 : ¬ (N : Int) > 520 := by omega
  go_enter Try.func4, Try.ntmps4
  go_wp2_with fail
  go_loopw [3, 4, 5] (fun s e i wr => ∃ (q : Nat) (to : Option Addr) (tn tc : Nat) (x : Int), q ≤ N ∧ i = .int .i64 q ∧ s = .slice to tn tc ∧ e = .int .i64 x ∧ Hid (HasB wr to tn tc (lst q)) ∧ Hid (Below w.heap.size w wr)) (fun _ _ i _ => N - (intOf i).toNat)
  case atStart => exact ⟨0, none, 0, 0, 0, Nat.zero_le _, rfl, rfl, rfl, hasB_nil _, Below.refl _ _⟩
  case round =>
    obtain ⟨q, to, tn, tc, x0, hq, rfl, rfl, rfl, HT, HB⟩ := hrel
    have htn : tn ≤ 1000 := by have h1 := HT.out.len; have h2 := lst_len q; omega
    by_cases hlt : q < N
    · have i1 : (0 : Int) ≤ (q : Int) := by omega
      have i2 : (q : Int) < (N : Int) := by omega
      obtain ⟨g, hg⟩ : ∃ g : Nat, q / 8 = g := ⟨_, rfl⟩
      obtain ⟨s, hs⟩ : ∃ s : Nat, q % 8 = s := ⟨_, rfl⟩
      obtain ⟨r, hr⟩ : ∃ r : Nat, q % 2 = r := ⟨_, rfl⟩
      have d1 : Int.tdiv (q : Int) 8 = (g : Int) := by rw [Int.tdiv_eq_ediv_of_nonneg i1]; omega
      have d2 : Int.tmod (q : Int) 8 = (s : Int) := by rw [Int.tmod_eq_emod_of_nonneg i1]; omega
      have d3 : Int.tmod (q : Int) 2 = (r : Int) := by rw [Int.tmod_eq_emod_of_nonneg i1]; omega
      have hg8 : (g : Int) ≤ 100 := by omega
      have hg0 : (0 : Int) ≤ (g : Int) := by omega
      have hs8 : (s : Int) ≤ 7 := by omega
      have hs0 : (0 : Int) ≤ (s : Int) := by omega
      have HMk : Hid (mk q = ((g : Int), (s : Int))) := by unfold Hid mk; rw [hg, hs]
      have B1 := hid (q_alloc HB.out (.cells #[.int .i64 (g : Int), .int .i64 (s : Int)] 24))
      have T1 := hid (HT.out.below (alloc_below wr (.cells #[.int .i64 (g : Int), .int .i64 (s : Int)] 24)))
      rcases Nat.mod_two_eq_zero_or_one q with he | he
      · rcases Nat.lt_or_ge q 512 with hz | hz
        · skip
          obtain ⟨hx, hA⟩ := even_lt hz he
          have hr0 : ((r : Int) == 0) = true := by simp; omega
          have hq5 : (q : Int) < 512 := by omega
          rw [HMk.out] at hx hA
          have HX := hid hx
          have HA := hid hA
          clear hx hA hg hs hr he hz
          go_wp2_with fail
          refine (root_any to tn tc (lst q) ((g : Int), (s : Int)) _ htn T1).mono ?_
          rintro e w2 ⟨xo, xn, xc, rfl, hh, bb⟩
          rw [HX.out]
          rw [HA.out] at hh
          have T2 := hid hh
          have B2 := hid (q_trans B1.out bb)
          clear hh bb
          go_wp2_with (go_at_call 12; refine (num_any _ _).mono ?_; rintro e wq ⟨rfl, hq⟩; rw [hq]; clear hq wq)
          go_roundw
          case rel => exact ⟨q + 1, xo, xn, xc, 0, by omega, by go_num, rfl, rfl, T2, B2⟩
          case measure => simp [intOf]; omega
        · skip
          obtain ⟨hx, hA⟩ := even_ge hz (by omega)
          have hr0 : ((r : Int) == 0) = true := by simp; omega
          have hq5 : ¬ (q : Int) < 512 := by omega
          rw [HMk.out] at hx hA
          have HX := hid hx
          have HA := hid hA
          clear hx hA hg hs hr he hz
          go_wp2_with fail
          refine (root_any to tn tc (lst q) ((g : Int), (s : Int)) _ htn T1).mono ?_
          rintro e w2 ⟨xo, xn, xc, rfl, hh, bb⟩
          rw [HX.out]
          rw [HA.out] at hh
          have T2 := hid hh
          have B2 := hid (q_trans B1.out bb)
          clear hh bb
          go_wp2_with (go_at_call 12; refine (num_any _ _).mono ?_; rintro e wq ⟨rfl, hq⟩; rw [hq]; clear hq wq)
          go_roundw
          case rel => exact ⟨q + 1, xo, xn, xc, 6, by omega, by go_num, rfl, rfl, T2, B2⟩
          case measure => simp [intOf]; omega
      · rcases Nat.lt_or_ge q 512 with hz | hz
        · skip
          obtain ⟨hx, hA⟩ := odd_lt hz he
          have hr0 : ((r : Int) == 0) = false := by simp; omega
          have hq5 : (q : Int) < 512 := by omega
          have HMf : Hid (mk (q - 1) = ((g : Int), (s : Int) - 1)) := by
            unfold Hid mk
            refine Prod.ext ?_ ?_
            · show (((q - 1) / 8 : Nat) : Int) = (g : Int)
              omega
            · show (((q - 1) % 8 : Nat) : Int) = (s : Int) - 1
              omega
          have hs1 : (1 : Int) ≤ (s : Int) := by omega
          rw [HMk.out, HMf.out] at hx hA
          have HX := hid hx
          have HA := hid hA
          clear hx hA hg hs hr he hz
          go_wp2_with fail
          refine (ins_any to tn tc (lst q) ((g : Int), (s : Int) - 1) ((g : Int), (s : Int)) _ htn T1).mono ?_
          rintro e w2 ⟨xo, xn, xc, rfl, hh, bb⟩
          rw [HX.out]
          rw [HA.out] at hh
          have T2 := hid hh
          have B2 := hid (q_trans B1.out bb)
          clear hh bb
          go_wp2_with (go_at_call 12; refine (num_any _ _).mono ?_; rintro e wq ⟨rfl, hq⟩; rw [hq]; clear hq wq)
          go_roundw
          case rel => exact ⟨q + 1, xo, xn, xc, 0, by omega, by go_num, rfl, rfl, T2, B2⟩
          case measure => simp [intOf]; omega
        · skip
          obtain ⟨hx, hA⟩ := odd_ge hz (by omega) he
          have hr0 : ((r : Int) == 0) = false := by simp; omega
          have hq5 : ¬ (q : Int) < 512 := by omega
          have HMf : Hid (mk (q - 1) = ((g : Int), (s : Int) - 1)) := by
            unfold Hid mk
            refine Prod.ext ?_ ?_
            · show (((q - 1) / 8 : Nat) : Int) = (g : Int)
              omega
            · show (((q - 1) % 8 : Nat) : Int) = (s : Int) - 1
              omega
          have hs1 : (1 : Int) ≤ (s : Int) := by omega
          rw [HMk.out, HMf.out] at hx hA
          have HX := hid hx
          have HA := hid hA
          clear hx hA hg hs hr he hz
          go_wp2_with fail
          refine (ins_any to tn tc (lst q) ((g : Int), (s : Int) - 1) ((g : Int), (s : Int)) _ htn T1).mono ?_
          rintro e w2 ⟨xo, xn, xc, rfl, hh, bb⟩
          rw [HX.out]
          rw [HA.out] at hh
          have T2 := hid hh
          have B2 := hid (q_trans B1.out bb)
          clear hh bb
          go_wp2_with (go_at_call 12; refine (num_any _ _).mono ?_; rintro e wq ⟨rfl, hq⟩; rw [hq]; clear hq wq)
          go_roundw
          case rel => exact ⟨q + 1, xo, xn, xc, 7, by omega, by go_num, rfl, rfl, T2, B2⟩
          case measure => simp [intOf]; omega
    · obtain rfl : q = N := by omega
      have htl : tn = min q 512 := by rw [HT.out.len, lst_len]
      rcases Nat.lt_or_ge 512 q with hz | hz
      · skip
        have hq5 : ¬ (q : Int) ≤ 512 := by omega
        have hme : ((tn : Int) == 512) = true := by simp; omega
        clear htl hz
        go_wp2_with fail
        refine (ck_at 0 HT.out (ck_yes (lst_tree q))).mono ?_
        rintro e w2 ⟨rfl, bb⟩
        have B2 := hid (q_trans HB.out bb)
        clear bb
        go_wp2_with (go_at_call 12; refine (num_any _ _).mono ?_; rintro e wq ⟨rfl, hq⟩; rw [hq]; clear hq wq)
        refine (live_any _).mono ?_
        rintro e wz ⟨rfl, bb⟩
        have BZ := hid (q_trans B2.out bb)
        clear bb
        go_wp2_with fail
        go_ret
        exact ⟨rfl, BZ.out⟩
      · skip
        have hq5 : (q : Int) ≤ 512 := by omega
        have hme : ((tn : Int) == (q : Int)) = true := by simp; omega
        clear htl hz
        go_wp2_with fail
        refine (ck_at 0 HT.out (ck_yes (lst_tree q))).mono ?_
        rintro e w2 ⟨rfl, bb⟩
        have B2 := hid (q_trans HB.out bb)
        clear bb
        go_wp2_with (go_at_call 12; refine (num_any _ _).mono ?_; rintro e wq ⟨rfl, hq⟩; rw [hq]; clear hq wq)
        refine (live_any _).mono ?_
        rintro e wz ⟨rfl, bb⟩
        have BZ := hid (q_trans B2.out bb)
        clear bb
        go_wp2_with fail
        go_ret
        exact ⟨rfl, BZ.out⟩
/-- TREEMANY. -/
theorem many_any (n : Int) (w : World) : Calls Try.prog 4 #[.int .i64 n] w fun e w' => e = .returned (.bool true) ∧ Below w.heap.size w w' := by
  by_cases h : n < 500 ∨ n > 520
  · exact many_far n w h
  · obtain ⟨N, rfl⟩ : ∃ N : Nat, n = (N : Int) := ⟨n.toNat, by omega⟩
    exact many_in N w (by omega) (by omega)
end Go.Proofs.Ytdaakigofpehjab.Tr
