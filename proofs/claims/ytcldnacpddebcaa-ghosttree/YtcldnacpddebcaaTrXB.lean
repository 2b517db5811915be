/- (The answer lies in new blocks.) What the program's Root does. -/
import Derived.Test.YtcldnacpddebcaaTrWA
import Derived.Test.YtcldnacpddebcaaTrXA
namespace Go.Proofs.Ytcldnacpddebcaa.Tr
open Go.RowKit

set_option maxRecDepth 100000 in
set_option maxHeartbeats 4000000 in
theorem root_new (ao : Option Addr) (n cap : Nat) (t : List Br) (k : P) (w : World) (hs : n ≤ 1000) (HH : Hid (HasB w ao n cap t)) :
    Calls Try.prog 27 #[.slice ao n cap, (.agg #[.int .i64 k.1, .int .i64 k.2])] w fun e w' => ∃ xo xn xc, e = .returned (.tuple #[.slice xo xn xc, .int .i64 (roE t k)]) ∧ NewB w.heap.size w' xo xn xc (roA t k) ∧ Below w.heap.size w w' := by
  have HN := hid HH.out.len
  have HSame : Hid (roE t k ≠ 0 → roA t k = t) := fun h => by unfold roA; rw [if_neg h]
  have HQ : Hid (orV [vdE t [k], unE t k, rmE n] = roE t k) := by have h := or_ro t k; rwa [← HN.out] at h
  go_enter Try.func27, Try.ntmps27
  go_wp2_with fail
  have B0 := hid (alloc_below w (.cells #[.int .i64 k.1, .int .i64 k.2] 27))
  have K0 := hid (at_new w k 27)
  generalize w.alloc (.cells #[.int .i64 k.1, .int .i64 k.2] 27) = W at B0 K0 ⊢
  have HW := hid (HH.out.below B0.out)
  have hS : S1 w.heap.size k W := ⟨K0.out.c0, K0.out.c1⟩
  go_region_held3 (S1 w.heap.size k) (first | with_reducible assumption | with_reducible exact s1_drew hS | with_reducible exact s1_alloc hS _ | with_reducible exact s1_drew (s1_alloc hS _) | with_reducible exact s1_alloc (s1_drew hS) _ | with_reducible exact HS1.out | with_reducible exact s1_drew HS1.out | with_reducible exact s1_alloc HS1.out _ | with_reducible exact s1_drew (s1_alloc HS1.out _) | with_reducible exact HS2.out | with_reducible exact s1_drew HS2.out | with_reducible exact s1_alloc HS2.out _ | with_reducible exact s1_drew (s1_alloc HS2.out _) | with_reducible exact HS3.out | with_reducible exact s1_drew HS3.out | with_reducible exact s1_alloc HS3.out _ | with_reducible exact s1_drew (s1_alloc HS3.out _) | with_reducible exact HS4.out | with_reducible exact s1_drew HS4.out | with_reducible exact s1_alloc HS4.out _ | with_reducible exact s1_drew (s1_alloc HS4.out _))
    (first
      | (go_at_call 47; refine (valid_any ao n cap t (some ⟨W.heap.size, 0, none⟩) 1 1 [k] _ (by omega) (by first | exact HW.out.below (alloc_below W _) | exact HW.out.below (alloc_below W _).drew) (by first | exact hasP_new W [k] 27 | exact (hasP_new W [k] 27).below (Below.refl _ _).drew)).mono ?_; rintro e w1 ⟨rfl, b1⟩; have B1 : Hid (Below W.heap.size W w1) := (by first | exact q_trans (alloc_below W _) b1 | exact q_trans (alloc_below W _).drew b1); have HS1 : Hid (S1 w.heap.size k w1) := s1_keep hS B1.out; clear b1)
      | (go_at_call 48; refine (unused_any ao n cap t k _ (by omega) (by first | exact HW.out.below B1.out | exact HW.out.below B1.out.drew)).mono ?_; rintro e w2 ⟨rfl, b2⟩; have B2 : Hid (Below W.heap.size W w2) := (by first | exact q_trans B1.out b2 | exact q_trans B1.out.drew b2); have HS2 : Hid (S1 w.heap.size k w2) := s1_keep hS B2.out; clear b2)
      | (go_at_call 49; refine (room_low ao n cap _).mono ?_; rintro e w3 ⟨rfl, b3⟩; have B3 : Hid (Below W.heap.size W w3) := (by first | exact q_trans B2.out b3 | exact q_trans B2.out.drew b3); have HS3 : Hid (S1 w.heap.size k w3) := s1_keep hS B3.out; clear b3)
      | (go_at_call 36; refine (or_low (some ⟨w3.heap.size, 0, none⟩) 3 3 [vdE t [k], unE t k, rmE n] _ (by omega) (by first | exact has_new w3 [vdE t [k], unE t k, rmE n] 32 | exact (has_new w3 [vdE t [k], unE t k, rmE n] 32).below (Below.refl _ _).drew)).mono ?_; rintro e w4 ⟨rfl, b4⟩; have B4 : Hid (Below W.heap.size W w4) := (by first | exact q_trans (q_alloc B3.out _) b4 | exact q_trans (q_alloc B3.out _).drew b4); have HS4 : Hid (S1 w.heap.size k w4) := s1_keep hS B4.out; clear b4)
      | fail)
  rw [HQ.out]
  have BV := hid (q_trans B0.out B4.out)
  have HV := hid (HH.out.below BV.out)
  have HSV := hid HS4.out
  clear B1 HS1 B2 HS2 B3 HS3 B4 HS4 hS
  by_cases h : roE t k = 0
  · have HE : Hid (roE t k = 0 ∧ roA t k = ins t n (k, 0, false)) := by
      refine ⟨h, ?_⟩
      unfold roA
      rw [if_pos h, HN.out]
      simp [ins]
    rw [h]
    clear h
    obtain ⟨s0, s1⟩ := HSV.out
    go_wp2_with fail
    refine (with_new ao n cap n t (k, 0, false) w4 (Nat.le_refl _) hs HV).mono ?_
    rintro e w9 ⟨xo, xc, rfl, h9, b9⟩
    have H9 := hid h9
    have B9 := hid (q_trans BV.out b9)
    clear h9 b9
    go_wp2_with fail
    refine bodyPost_ret (v := .tuple #[.slice xo (n + 1) xc, .int .i64 0]) (by simp [results, Try.results27, go_sem]) rfl ⟨xo, n + 1, xc, by rw [HE.out.1], by rw [HE.out.2]; exact H9.out.mono BV.out.size, B9.out⟩
  · obtain ⟨x, hx⟩ : ∃ x, roE t k = x := ⟨_, rfl⟩
    have HX := hid hx
    have HA := hid (HSame.out h)
    have hx2 : (x != 0) = true := by rw [hx] at h; simp [h]
    rw [hx]
    clear hx h
    go_wp2_with fail
    refine (clone_any ao n cap t w4 (by omega) HV.out).mono ?_
    rintro e w9 ⟨xo, xc, rfl, h9, b9⟩
    have H9 := hid h9
    have B9 := hid (q_trans BV.out b9)
    clear h9 b9
    go_wp2_with fail
    refine bodyPost_ret (v := .tuple #[.slice xo n xc, .int .i64 x]) (by simp [results, Try.results27, go_sem]) rfl ⟨xo, n, xc, by rw [HX.out], by rw [HA.out]; exact newB_mine H9.out BV.out.size, B9.out⟩
end Go.Proofs.Ytcldnacpddebcaa.Tr
