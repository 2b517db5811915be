/- CarveAligns answers true. -/
import Derived.Test.YteohoipkdjhllaaCaLive
namespace Go.Proofs.Yteohoipkdjhllaa.Ca
open Go.RowKit

section
variable {w : World}
theorem is_size {k n v e : Int} (h1 : szV k n = v) (h2 : szE k n = e) : Calls Try.prog 9 #[.int .i64 k, .int .i64 n] w fun r w' => r = .returned (.tuple #[.int .i64 v, .int .i64 e]) ∧ w' = w := by
  subst h1 h2
  exact size_any k n w
theorem is_rsize {k n v e : Int} (h1 : szV k n = v) (h2 : szE k n = e) : Calls Try.prog 10 #[.int .i64 k, .int .i64 n] w fun r w' => r = .returned (.tuple #[.int .i64 v, .int .i64 e]) ∧ w' = w := by
  subst h1 h2
  exact rsize_any k n w
theorem is_align {a s y : Int} (h : alV a s = y) : Calls Try.prog 14 #[.int .i64 a, .int .i64 s] w fun e w' => e = .returned (.int .i64 y) ∧ w' = w := h ▸ align_any a s w
theorem is_ralign {a s y : Int} (h : alV a s = y) : Calls Try.prog 15 #[.int .i64 a, .int .i64 s] w fun e w' => e = .returned (.int .i64 y) ∧ w' = w := h ▸ ralign_any a s w
end
theorem sz_un {n : Int} (h : pw n = true) : szV 1 n = n ∧ szE 1 n = 0 := by simp [szV, szE, h]
theorem sz_un' {n : Int} (h : pw n = false) : szV 1 n = 0 ∧ szE 1 n = 2 := by simp [szV, szE, h]
theorem sz_range {k n : Int} (h : szE k n = 0) : 1 ≤ szV k n ∧ szV k n ≤ 1048576 := by
  unfold szE at h
  unfold szV
  split
  · omega
  · rename_i h2
    rw [if_neg h2] at h
    split
    · omega
    · rename_i h3
      rw [if_neg h3] at h
      split
      · omega
      · rename_i h4
        rw [if_neg h4] at h
        split
        · rename_i h1
          rw [if_pos h1] at h
          split
          · rename_i hp
            exact pw_range hp
          · rename_i hp
            rw [if_neg hp] at h
            omega
        · rename_i h1
          rw [if_neg h1] at h
          omega
set_option maxRecDepth 100000 in
set_option maxHeartbeats 2000000 in
/-- CarveAligns ANSWERS true. -/
theorem aligns_any (at_ s k : Int) (w : World) :
    Calls Try.prog 8 #[.int .i64 at_, .int .i64 s, .int .i64 k] w fun e w' => e = .returned (.bool true) ∧ Below w.heap.size w w' := by
  cases hp : pw s with
  | false =>
    have HS := hid (fun W : World => is_size (w := W) (sz_un' hp).1 (sz_un' hp).2)
    have HA := hid (fun W : World => is_align (w := W) (al_no (a := at_) (s := s) (by simp [hp])))
    clear hp
    go_enter Try.func8, Try.ntmps8
    go_wp2_with (first
      | (go_at_call 9; refine (HS.out _).mono ?_; rintro e w1 ⟨rfl, hw⟩; rw [hw]; clear hw w1)
      | (go_at_call 11; refine (num_any _ _).mono ?_; rintro e w1 ⟨rfl, hw⟩; rw [hw]; clear hw w1)
      | (go_at_call 14; refine (HA.out _).mono ?_; rintro e w1 ⟨rfl, hw⟩; rw [hw]; clear hw w1)
      | (go_at_call 20; refine (live_any _).mono ?_; rintro e w9 ⟨rfl, b9⟩))
    go_ret
    exact ⟨rfl, b9⟩
  | true =>
    have HS := hid (fun W : World => is_size (w := W) (sz_un hp).1 (sz_un hp).2)
    cases ha : atB at_ with
    | false =>
      have HA := hid (fun W : World => is_align (w := W) (al_no (a := at_) (s := s) (by simp [ha])))
      rw [at_not] at ha
      have hd : (at_ < 0) ∨ (0 ≤ at_ ∧ 1048576 < at_) := by omega
      clear hp ha
      rcases hd with hd | ⟨hd, hd2⟩
      · go_enter Try.func8, Try.ntmps8
        go_wp2_with (first
          | (go_at_call 9; refine (HS.out _).mono ?_; rintro e w1 ⟨rfl, hw⟩; rw [hw]; clear hw w1)
          | (go_at_call 11; refine (num_any _ _).mono ?_; rintro e w1 ⟨rfl, hw⟩; rw [hw]; clear hw w1)
          | (go_at_call 14; refine (HA.out _).mono ?_; rintro e w1 ⟨rfl, hw⟩; rw [hw]; clear hw w1)
          | (go_at_call 20; refine (live_any _).mono ?_; rintro e w9 ⟨rfl, b9⟩))
        go_ret
        exact ⟨rfl, b9⟩
      · go_enter Try.func8, Try.ntmps8
        go_wp2_with (first
          | (go_at_call 9; refine (HS.out _).mono ?_; rintro e w1 ⟨rfl, hw⟩; rw [hw]; clear hw w1)
          | (go_at_call 11; refine (num_any _ _).mono ?_; rintro e w1 ⟨rfl, hw⟩; rw [hw]; clear hw w1)
          | (go_at_call 14; refine (HA.out _).mono ?_; rintro e w1 ⟨rfl, hw⟩; rw [hw]; clear hw w1)
          | (go_at_call 20; refine (live_any _).mono ?_; rintro e w9 ⟨rfl, b9⟩))
        go_ret
        exact ⟨rfl, b9⟩
    | true =>
      obtain ⟨a1, a2, a3⟩ := al_is ha hp
      have hat := al_at ha hp
      obtain ⟨b1, b2⟩ := at_iff.1 hat
      obtain ⟨c1, c2⟩ := at_iff.1 ha
      obtain ⟨q1, q2⟩ := pw_range hp
      have ht : Int.tmod (alV at_ s) s = 0 := by rw [Int.tmod_eq_emod_of_nonneg b1]; exact a1
      have HA := hid (fun W : World => is_align (w := W) (a := at_) (s := s) rfl)
      have HA2 := hid (fun W : World => is_align (w := W) (al_mul hat hp a1))
      clear ha hat
      generalize alV at_ s = y at *
      obtain ⟨m, hm⟩ : ∃ m, szV k s = m := ⟨_, rfl⟩
      obtain ⟨f, hf⟩ : ∃ f, szE k s = f := ⟨_, rfl⟩
      have HZ := hid (fun W : World => is_size (w := W) hm hf)
      have hy : y - at_ < s := by omega
      by_cases hf0 : f = 0
      · have hr := sz_range (hf.trans hf0)
        rw [hm] at hr
        obtain ⟨r1, r2⟩ := hr
        subst hf0
        clear hm hf hp
        go_enter Try.func8, Try.ntmps8
        go_wp2_with fail
        refine (HS.out _).mono ?_
        rintro e w1 ⟨rfl, hw⟩
        rw [hw]
        clear hw w1
        go_wp2_with (first
          | (go_at_call 11; refine (num_any _ _).mono ?_; rintro e w1 ⟨rfl, hw⟩; rw [hw]; clear hw w1))
        refine (HA.out _).mono ?_
        rintro e w1 ⟨rfl, hw⟩
        rw [hw]
        clear hw w1
        go_wp2_with fail
        refine (HZ.out _).mono ?_
        rintro e w1 ⟨rfl, hw⟩
        rw [hw]
        clear hw w1
        go_wp2_with (first
          | (go_at_call 11; refine (num_any _ _).mono ?_; rintro e w1 ⟨rfl, hw⟩; rw [hw]; clear hw w1)
          | (go_at_call 14; refine (HA2.out _).mono ?_; rintro e w1 ⟨rfl, hw⟩; rw [hw]; clear hw w1)
          | (go_at_call 20; refine (live_any _).mono ?_; rintro e w9 ⟨rfl, b9⟩))
        go_ret
        exact ⟨rfl, b9⟩
      · have hb : (f != 0) = true := by simp [hf0]
        clear hm hf hp hf0
        go_enter Try.func8, Try.ntmps8
        go_wp2_with fail
        refine (HS.out _).mono ?_
        rintro e w1 ⟨rfl, hw⟩
        rw [hw]
        clear hw w1
        go_wp2_with (first
          | (go_at_call 11; refine (num_any _ _).mono ?_; rintro e w1 ⟨rfl, hw⟩; rw [hw]; clear hw w1))
        refine (HA.out _).mono ?_
        rintro e w1 ⟨rfl, hw⟩
        rw [hw]
        clear hw w1
        go_wp2_with fail
        refine (HZ.out _).mono ?_
        rintro e w1 ⟨rfl, hw⟩
        rw [hw]
        clear hw w1
        go_wp2_with (first
          | (go_at_call 11; refine (num_any _ _).mono ?_; rintro e w1 ⟨rfl, hw⟩; rw [hw]; clear hw w1)
          | (go_at_call 14; refine (HA2.out _).mono ?_; rintro e w1 ⟨rfl, hw⟩; rw [hw]; clear hw w1)
          | (go_at_call 20; refine (live_any _).mono ?_; rintro e w9 ⟨rfl, b9⟩))
        go_ret
        exact ⟨rfl, b9⟩
end Go.Proofs.Yteohoipkdjhllaa.Ca
