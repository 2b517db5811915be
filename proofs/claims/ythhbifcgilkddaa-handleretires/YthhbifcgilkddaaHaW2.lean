/- What Of and Is do; the document's Of, Is; Ints. -/
import Derived.Test.YthhbifcgilkddaaHaMem
namespace Go.Proofs.Ythhbifcgilkddaa.Ha
open Go.RowKit

set_option maxHeartbeats 1000000 in
theorem of_out (ao : Option Addr) (n cap : Nat) (o : Int) (w : World) (h : ¬ (0 ≤ o ∧ o < 64)) :
    Calls Try.prog 17 #[.slice ao n cap, .int .i64 o] w fun e w' => e = .returned (.tuple #[.int .i64 0, .int .i64 2]) ∧ w' = w := by
  have P := hid (place_no h)
  clear h
  go_enter Try.func17, Try.ntmps17
  go_wp2_with fail
  refine (P.out _).mono ?_
  rintro e w1 ⟨rfl, hw⟩; rw [hw]; clear hw w1
  go_wp2_with fail
  go_ret2
  exact ⟨rfl, rfl⟩
set_option maxHeartbeats 1000000 in
theorem of_far (ao : Option Addr) (n cap : Nat) (o : Int) (w : World) (h : 0 ≤ o ∧ o < 64) (hn : (n : Int) ≤ o) :
    Calls Try.prog 17 #[.slice ao n cap, .int .i64 o] w fun e w' => e = .returned (.tuple #[.int .i64 0, .int .i64 2]) ∧ w' = w := by
  have P := hid (place_yes h)
  clear h
  go_enter Try.func17, Try.ntmps17
  go_wp2_with fail
  refine (P.out _).mono ?_
  rintro e w1 ⟨rfl, hw⟩; rw [hw]; clear hw w1
  go_wp2_with fail
  go_ret2
  exact ⟨rfl, rfl⟩
set_option maxHeartbeats 1000000 in
theorem of_gone (a : Addr) (n cap k : Nat) (x : Int) (w : World) (hk : k < 64) (i1 : (0 : Int) ≤ (k : Int)) (i2 : (k : Int) < (n : Int)) (hx : ¬ (0 ≤ x ∧ x ≤ 4095)) (hc : w.cell? (a.add k) = some (.int .i64 x)) :
    Calls Try.prog 17 #[.slice (some a) n cap, .int .i64 (k : Int)] w fun e w' => e = .returned (.tuple #[.int .i64 0, .int .i64 80]) ∧ w' = w := by
  have P := hid (place_yes (o := (k : Int)) (by omega))
  have U := hid (used_no hx)
  clear hk hx
  go_enter Try.func17, Try.ntmps17
  go_wp2_with fail
  refine (P.out _).mono ?_
  rintro e w1 ⟨rfl, hw⟩; rw [hw]; clear hw w1
  go_wp2_with fail
  refine (U.out _).mono ?_
  rintro e w1 ⟨rfl, hw⟩; rw [hw]; clear hw w1
  go_wp2_with fail
  go_ret2
  exact ⟨rfl, rfl⟩
set_option maxHeartbeats 1000000 in
theorem of_yes (a : Addr) (n cap k : Nat) (x : Int) (w : World) (hk : k < 64) (i1 : (0 : Int) ≤ (k : Int)) (i2 : (k : Int) < (n : Int)) (hx : 0 ≤ x ∧ x ≤ 4095) (hc : w.cell? (a.add k) = some (.int .i64 x)) :
    Calls Try.prog 17 #[.slice (some a) n cap, .int .i64 (k : Int)] w fun e w' => e = .returned (.tuple #[.int .i64 (x * 64 + k), .int .i64 0]) ∧ w' = w := by
  have P := hid (place_yes (o := (k : Int)) (by omega))
  have U := hid (used_yes hx)
  have T : Hid (∀ w : World, Calls Try.prog 9 #[.int .i64 (k : Int), .int .i64 x] w fun e w' => e = .returned (.tuple #[.int .i64 (x * 64 + k), .int .i64 0]) ∧ w' = w) := by
    intro w
    have := put_any (k : Int) x w
    rwa [show putV (k : Int) x = x * 64 + k from if_pos (by omega), show putE (k : Int) x = 0 from if_pos (by omega)] at this
  clear hk hx
  go_enter Try.func17, Try.ntmps17
  go_wp2_with fail
  refine (P.out _).mono ?_
  rintro e w1 ⟨rfl, hw⟩; rw [hw]; clear hw w1
  go_wp2_with fail
  refine (U.out _).mono ?_
  rintro e w1 ⟨rfl, hw⟩; rw [hw]; clear hw w1
  go_wp2_with fail
  refine (T.out _).mono ?_
  rintro e w1 ⟨rfl, hw⟩; rw [hw]; clear hw w1
  go_wp2_with fail
  go_ret2
  exact ⟨rfl, rfl⟩
set_option maxHeartbeats 1000000 in
theorem rof_out (ao : Option Addr) (n cap : Nat) (o : Int) (w : World) (h : ¬ (0 ≤ o ∧ o < 64)) :
    Calls Try.prog 18 #[.slice ao n cap, .int .i64 o] w fun e w' => e = .returned (.tuple #[.int .i64 0, .int .i64 2]) ∧ w' = w := by
  by_cases h1 : 0 ≤ o
  · have h2 : (64 : Int) ≤ o := by omega
    clear h
    by_cases h3 : o < (n : Int)
    · go_enter Try.func18, Try.ntmps18
      go_wp2_with fail
      go_ret2
      exact ⟨rfl, rfl⟩
    · go_enter Try.func18, Try.ntmps18
      go_wp2_with fail
      go_ret2
      exact ⟨rfl, rfl⟩
  · clear h
    go_enter Try.func18, Try.ntmps18
    go_wp2_with fail
    go_ret2
    exact ⟨rfl, rfl⟩
set_option maxHeartbeats 1000000 in
theorem rof_far (ao : Option Addr) (n cap : Nat) (o : Int) (w : World) (h : 0 ≤ o ∧ o < 64) (hn : (n : Int) ≤ o) :
    Calls Try.prog 18 #[.slice ao n cap, .int .i64 o] w fun e w' => e = .returned (.tuple #[.int .i64 0, .int .i64 2]) ∧ w' = w := by
  obtain ⟨h1, h2⟩ := h
  go_enter Try.func18, Try.ntmps18
  go_wp2_with fail
  go_ret2
  exact ⟨rfl, rfl⟩
set_option maxHeartbeats 1000000 in
theorem rof_gone (a : Addr) (n cap k : Nat) (x : Int) (w : World) (hk : k < 64) (i1 : (0 : Int) ≤ (k : Int)) (i2 : (k : Int) < (n : Int)) (hx : ¬ (0 ≤ x ∧ x ≤ 4095)) (hc : w.cell? (a.add k) = some (.int .i64 x)) :
    Calls Try.prog 18 #[.slice (some a) n cap, .int .i64 (k : Int)] w fun e w' => e = .returned (.tuple #[.int .i64 0, .int .i64 80]) ∧ w' = w := by
  have i3 : (k : Int) < 64 := by omega
  have U := hid (gen_no hx)
  clear hk hx
  go_enter Try.func18, Try.ntmps18
  go_wp2_with fail
  refine (U.out _).mono ?_
  rintro e w1 ⟨rfl, hw⟩; rw [hw]; clear hw w1
  go_wp2_with fail
  go_ret2
  exact ⟨rfl, rfl⟩
set_option maxHeartbeats 1000000 in
theorem rof_yes (a : Addr) (n cap k : Nat) (x : Int) (w : World) (hk : k < 64) (i1 : (0 : Int) ≤ (k : Int)) (i2 : (k : Int) < (n : Int)) (hx : 0 ≤ x ∧ x ≤ 4095) (hc : w.cell? (a.add k) = some (.int .i64 x)) :
    Calls Try.prog 18 #[.slice (some a) n cap, .int .i64 (k : Int)] w fun e w' => e = .returned (.tuple #[.int .i64 (x * 64 + k), .int .i64 0]) ∧ w' = w := by
  have i3 : (k : Int) < 64 := by omega
  have U := hid (gen_yes hx)
  have T : Hid (∀ w : World, Calls Try.prog 10 #[.int .i64 (k : Int), .int .i64 x] w fun e w' => e = .returned (.tuple #[.int .i64 (x * 64 + k), .int .i64 0]) ∧ w' = w) := by
    intro w
    have := rput_any (k : Int) x w
    rwa [show putV (k : Int) x = x * 64 + k from if_pos (by omega), show putE (k : Int) x = 0 from if_pos (by omega)] at this
  clear hk hx
  go_enter Try.func18, Try.ntmps18
  go_wp2_with fail
  refine (U.out _).mono ?_
  rintro e w1 ⟨rfl, hw⟩; rw [hw]; clear hw w1
  go_wp2_with fail
  refine (T.out _).mono ?_
  rintro e w1 ⟨rfl, hw⟩; rw [hw]; clear hw w1
  go_wp2_with fail
  go_ret2
  exact ⟨rfl, rfl⟩
/-- Of. -/
theorem of_any (ao : Option Addr) (n cap : Nat) (l : List Int) (o : Int) (w : World) (H : Has w ao n cap l) :
    Calls Try.prog 17 #[.slice ao n cap, .int .i64 o] w fun e w' => e = .returned (.tuple #[.int .i64 (ofV l o), .int .i64 (ofE l o)]) ∧ w' = w := by
  have hl := H.len
  rcases of_ways l o with ⟨h, e1, e2⟩ | ⟨h, h2, e1, e2⟩ | ⟨h, h2, e1, e2⟩
  · rw [e1, e2]
    by_cases h3 : 0 ≤ o ∧ o < 64
    · exact of_far ao n cap o w h3 (by omega)
    · exact of_out ao n cap o w h3
  · rw [e1, e2]
    obtain ⟨k, rfl⟩ : ∃ k : Nat, o = (k : Int) := ⟨o.toNat, by omega⟩
    obtain ⟨a, rfl, hc⟩ := H.cell k (by omega)
    exact of_gone a n cap k _ w (by omega) (by omega) (by omega) h2 hc
  · rw [e1, e2]
    obtain ⟨k, rfl⟩ : ∃ k : Nat, o = (k : Int) := ⟨o.toNat, by omega⟩
    obtain ⟨a, rfl, hc⟩ := H.cell k (by omega)
    exact of_yes a n cap k _ w (by omega) (by omega) (by omega) h2 hc
/-- The document's Of. -/
theorem rof_any (ao : Option Addr) (n cap : Nat) (l : List Int) (o : Int) (w : World) (H : Has w ao n cap l) :
    Calls Try.prog 18 #[.slice ao n cap, .int .i64 o] w fun e w' => e = .returned (.tuple #[.int .i64 (ofV l o), .int .i64 (ofE l o)]) ∧ w' = w := by
  have hl := H.len
  rcases of_ways l o with ⟨h, e1, e2⟩ | ⟨h, h2, e1, e2⟩ | ⟨h, h2, e1, e2⟩
  · rw [e1, e2]
    by_cases h3 : 0 ≤ o ∧ o < 64
    · exact rof_far ao n cap o w h3 (by omega)
    · exact rof_out ao n cap o w h3
  · rw [e1, e2]
    obtain ⟨k, rfl⟩ : ∃ k : Nat, o = (k : Int) := ⟨o.toNat, by omega⟩
    obtain ⟨a, rfl, hc⟩ := H.cell k (by omega)
    exact rof_gone a n cap k _ w (by omega) (by omega) (by omega) h2 hc
  · rw [e1, e2]
    obtain ⟨k, rfl⟩ : ∃ k : Nat, o = (k : Int) := ⟨o.toNat, by omega⟩
    obtain ⟨a, rfl, hc⟩ := H.cell k (by omega)
    exact rof_yes a n cap k _ w (by omega) (by omega) (by omega) h2 hc
theorem par_yes {h : Int} (h1 : 0 ≤ h ∧ h < 262144) (w : World) : Calls Try.prog 11 #[.int .i64 h] w fun e w' => e = .returned (.tuple #[.int .i64 (h % 64), .int .i64 (h / 64), .int .i64 0]) ∧ w' = w := by
  have := parse_any h w
  rwa [show parO h = h % 64 from if_pos h1, show parG h = h / 64 from if_pos h1, show parE h = 0 from if_pos h1] at this
theorem par_no {h : Int} (h1 : ¬ (0 ≤ h ∧ h < 262144)) (w : World) : Calls Try.prog 11 #[.int .i64 h] w fun e w' => e = .returned (.tuple #[.int .i64 0, .int .i64 0, .int .i64 2]) ∧ w' = w := by
  have := parse_any h w
  rwa [show parO h = 0 from if_neg h1, show parG h = 0 from if_neg h1, show parE h = 2 from if_neg h1] at this
set_option maxHeartbeats 1000000 in
/-- Is. -/
theorem is_any (ao : Option Addr) (n cap : Nat) (l : List Int) (h : Int) (w : World) (H : Has w ao n cap l) :
    Calls Try.prog 22 #[.slice ao n cap, .int .i64 h] w fun e w' => e = .returned (.bool (isB l h)) ∧ w' = w := by
  by_cases h1 : 0 ≤ h ∧ h < 262144
  · have T := hid (par_yes h1)
    have hO := of_any ao n cap l (h % 64) w H
    obtain ⟨e0, he⟩ : ∃ e0, ofE l (h % 64) = e0 := ⟨_, rfl⟩
    obtain ⟨v0, hv⟩ : ∃ v0, ofV l (h % 64) = v0 := ⟨_, rfl⟩
    rw [he, hv] at hO
    have HO := hid hO
    have hB : isB l h = (decide (e0 = 0) && decide (v0 = h)) := by
      unfold isB
      rw [he, hv]
      simp only [h1.1, h1.2, true_and, Bool.decide_and]
    clear hO H h1 he hv
    by_cases h2 : e0 = 0
    · subst h2
      have hB2 : isB l h = (v0 == h) := by rw [hB]; simp [Bool.beq_eq_decide_eq]
      have HB := hid hB2
      clear hB hB2
      go_enter Try.func22, Try.ntmps22
      go_wp2_with fail
      refine (T.out _).mono ?_
      rintro e w1 ⟨rfl, hw⟩; rw [hw]; clear hw w1
      go_wp2_with fail
      refine HO.out.mono ?_
      rintro e w1 ⟨rfl, hw⟩; rw [hw]; clear hw w1
      go_wp2_with fail
      go_ret
      exact ⟨ret_bool HB.out.symm, rfl⟩
    · have HB : Hid (isB l h = false) := by rw [hB]; simp [h2, Hid]
      have h3 : (e0 == 0) = false := by simp [h2]
      clear hB h2
      go_enter Try.func22, Try.ntmps22
      go_wp2_with fail
      refine (T.out _).mono ?_
      rintro e w1 ⟨rfl, hw⟩; rw [hw]; clear hw w1
      go_wp2_with fail
      refine HO.out.mono ?_
      rintro e w1 ⟨rfl, hw⟩; rw [hw]; clear hw w1
      go_wp2_with fail
      go_ret
      exact ⟨ret_bool HB.out.symm, rfl⟩
  · have T := hid (par_no h1)
    have HB : Hid (isB l h = false) := decide_eq_false (fun x => h1 ⟨x.1, x.2.1⟩)
    clear h1 H
    go_enter Try.func22, Try.ntmps22
    go_wp2_with fail
    refine (T.out _).mono ?_
    rintro e w1 ⟨rfl, hw⟩; rw [hw]; clear hw w1
    go_wp2_with fail
    go_ret
    exact ⟨ret_bool HB.out.symm, rfl⟩
theorem rpar_yes {h : Int} (h1 : 0 ≤ h ∧ h < 262144) (w : World) : Calls Try.prog 12 #[.int .i64 h] w fun e w' => e = .returned (.tuple #[.int .i64 (h % 64), .int .i64 (h / 64), .int .i64 0]) ∧ w' = w := by
  have := rparse_any h w
  rwa [show parO h = h % 64 from if_pos h1, show parG h = h / 64 from if_pos h1, show parE h = 0 from if_pos h1] at this
theorem rpar_no {h : Int} (h1 : ¬ (0 ≤ h ∧ h < 262144)) (w : World) : Calls Try.prog 12 #[.int .i64 h] w fun e w' => e = .returned (.tuple #[.int .i64 0, .int .i64 0, .int .i64 2]) ∧ w' = w := by
  have := rparse_any h w
  rwa [show parO h = 0 from if_neg h1, show parG h = 0 from if_neg h1, show parE h = 2 from if_neg h1] at this
set_option maxHeartbeats 1000000 in
/-- The document's Is. -/
theorem ris_any (ao : Option Addr) (n cap : Nat) (l : List Int) (h : Int) (w : World) (H : Has w ao n cap l) :
    Calls Try.prog 23 #[.slice ao n cap, .int .i64 h] w fun e w' => e = .returned (.bool (isB l h)) ∧ w' = w := by
  by_cases h1 : 0 ≤ h ∧ h < 262144
  · have T := hid (rpar_yes h1)
    have hO := rof_any ao n cap l (h % 64) w H
    obtain ⟨e0, he⟩ : ∃ e0, ofE l (h % 64) = e0 := ⟨_, rfl⟩
    obtain ⟨v0, hv⟩ : ∃ v0, ofV l (h % 64) = v0 := ⟨_, rfl⟩
    rw [he, hv] at hO
    have HO := hid hO
    have hB : isB l h = (decide (e0 = 0) && decide (v0 = h)) := by
      unfold isB
      rw [he, hv]
      simp only [h1.1, h1.2, true_and, Bool.decide_and]
    clear hO H h1 he hv
    by_cases h2 : e0 = 0
    · subst h2
      have hB2 : isB l h = (v0 == h) := by rw [hB]; simp [Bool.beq_eq_decide_eq]
      have HB := hid hB2
      clear hB hB2
      go_enter Try.func23, Try.ntmps23
      go_wp2_with fail
      refine (T.out _).mono ?_
      rintro e w1 ⟨rfl, hw⟩; rw [hw]; clear hw w1
      go_wp2_with fail
      refine HO.out.mono ?_
      rintro e w1 ⟨rfl, hw⟩; rw [hw]; clear hw w1
      go_wp2_with fail
      go_ret
      exact ⟨ret_bool HB.out.symm, rfl⟩
    · have HB : Hid (isB l h = false) := by rw [hB]; simp [h2, Hid]
      have h3 : (e0 == 0) = false := by simp [h2]
      clear hB h2
      go_enter Try.func23, Try.ntmps23
      go_wp2_with fail
      refine (T.out _).mono ?_
      rintro e w1 ⟨rfl, hw⟩; rw [hw]; clear hw w1
      go_wp2_with fail
      refine HO.out.mono ?_
      rintro e w1 ⟨rfl, hw⟩; rw [hw]; clear hw w1
      go_wp2_with fail
      go_ret
      exact ⟨ret_bool HB.out.symm, rfl⟩
  · have T := hid (rpar_no h1)
    have HB : Hid (isB l h = false) := decide_eq_false (fun x => h1 ⟨x.1, x.2.1⟩)
    clear h1 H
    go_enter Try.func23, Try.ntmps23
    go_wp2_with fail
    refine (T.out _).mono ?_
    rintro e w1 ⟨rfl, hw⟩; rw [hw]; clear hw w1
    go_wp2_with fail
    go_ret
    exact ⟨ret_bool HB.out.symm, rfl⟩
set_option maxRecDepth 100000 in
set_option maxHeartbeats 1000000 in
/-- Ints: THE SAME LIST TWICE. -/
theorem ints_yes (ao bo : Option Addr) (n cap cap' : Nat) (l : List Int) (w : World) (hs : n ≤ 5000) (HA : Hid (Has w ao n cap l)) (HB : Hid (Has w bo n cap' l)) :
    Calls Try.prog 21 #[.slice ao n cap, .slice bo n cap'] w fun e w' => e = .returned (.bool true) ∧ Below w.heap.size w w' := by
  go_enter Try.func21, Try.ntmps21
  go_wp2
  go_loopw [5] (fun i wr => ∃ k : Nat, k ≤ n ∧ i = .int .i64 k ∧ ∃ nd, wr = w.drewN nd) (fun i _ => n - (intOf i).toNat)
  case atStart => exact ⟨0, Nat.zero_le _, rfl, 0, rfl⟩
  case round =>
    obtain ⟨k, hk, rfl, nd, rfl⟩ := hrel
    by_cases hlt : k < n
    · have i1 : (0 : Int) ≤ (k : Int) := by omega
      have i2 : (k : Int) < (n : Int) := by omega
      obtain ⟨a, rfl, ca⟩ := HA.out.cell k hlt
      obtain ⟨b, rfl, cb⟩ := HB.out.cell k hlt
      obtain ⟨x, hx⟩ : ∃ x, l.getD k 0 = x := ⟨_, rfl⟩
      rw [hx] at ca cb
      clear hx
      go_wp2
      go_quiet (fail)
      go_wp2
      go_roundw
      case rel => exact ⟨k + 1, by omega, by go_num, _, rfl⟩
      case measure => simp [intOf]; omega
    · obtain rfl : k = n := by omega
      go_wp2
      go_ret
      exact ⟨rfl, q_drewN (Below.refl _ _) _⟩
end Go.Proofs.Ythhbifcgilkddaa.Ha
