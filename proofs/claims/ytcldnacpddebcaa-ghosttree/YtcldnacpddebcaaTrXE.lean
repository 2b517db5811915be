/- (The answer lies in new blocks.) What the program's Move does. -/
import Derived.Test.YtcldnacpddebcaaTrWA
import Derived.Test.YtcldnacpddebcaaTrXA
namespace Go.Proofs.Ytcldnacpddebcaa.Tr
open Go.RowKit

set_option maxRecDepth 100000 in
set_option maxHeartbeats 4000000 in
theorem mov_new (ao : Option Addr) (n cap : Nat) (t : List Br) (f k : P) (w : World) (hs : n ≤ 1000) (HH : Hid (HasB w ao n cap t)) :
    Calls Try.prog 29 #[.slice ao n cap, (.agg #[.int .i64 f.1, .int .i64 f.2]), (.agg #[.int .i64 k.1, .int .i64 k.2])] w fun e w' => ∃ xo xn xc, e = .returned (.tuple #[.slice xo xn xc, .int .i64 (moE t f k)]) ∧ NewB w.heap.size w' xo xn xc (moA t f k) ∧ Below w.heap.size w w' := by
  have HN := hid HH.out.len
  have HSame : Hid (moE t f k ≠ 0 → moA t f k = t) := fun h => by unfold moA; rw [if_neg h]
  have HQ : Hid (orV [vdE t [f, k], thE t f, unE t k] = moE t f k) := or_mo t f k
  go_enter Try.func29, Try.ntmps29
  go_wp2_with fail
  have B0 := hid (q_alloc (alloc_below w (.cells #[.int .i64 f.1, .int .i64 f.2] 27)) (.cells #[.int .i64 k.1, .int .i64 k.2] 27))
  have K0 := hid (sk_new w f k 27)
  generalize (w.alloc (.cells #[.int .i64 f.1, .int .i64 f.2] 27)).alloc (.cells #[.int .i64 k.1, .int .i64 k.2] 27) = V at B0 K0 ⊢
  refine (clone_any ao n cap t V (by omega) (HH.out.below B0.out)).mono ?_
  rintro e W ⟨mo, mc, rfl, hm, bm⟩
  have HM := hid hm
  have BM := hid (q_trans B0.out bm)
  have KM := hid (sk_keep K0.out bm)
  have HVs : Hid (w.heap.size ≤ V.heap.size) := B0.out.size
  clear hm bm B0 K0
  have B0 := BM
  clear BM
  have HW := hid (HH.out.below B0.out)
  have hS : SK w.heap.size f (w.heap.size + 1) k W := KM.out
  obtain ⟨s0, s1, s2, s3⟩ := hS
  go_wp2_with fail
  clear s0 s1 s2 s3
  have hS : SK w.heap.size f (w.heap.size + 1) k W := KM.out
  go_region_held3 (SK w.heap.size f (w.heap.size + 1) k) (first | with_reducible assumption | with_reducible exact sk_drew hS | with_reducible exact sk_alloc hS _ | with_reducible exact sk_drew (sk_alloc hS _) | with_reducible exact sk_alloc (sk_drew hS) _ | with_reducible exact HS1.out | with_reducible exact sk_drew HS1.out | with_reducible exact sk_alloc HS1.out _ | with_reducible exact sk_drew (sk_alloc HS1.out _) | with_reducible exact HS2.out | with_reducible exact sk_drew HS2.out | with_reducible exact sk_alloc HS2.out _ | with_reducible exact sk_drew (sk_alloc HS2.out _) | with_reducible exact HS3.out | with_reducible exact sk_drew HS3.out | with_reducible exact sk_alloc HS3.out _ | with_reducible exact sk_drew (sk_alloc HS3.out _) | with_reducible exact HS4.out | with_reducible exact sk_drew HS4.out | with_reducible exact sk_alloc HS4.out _ | with_reducible exact sk_drew (sk_alloc HS4.out _))
    (first
      | (go_at_call 47; refine (valid_any ao n cap t (some ⟨W.heap.size, 0, none⟩) 2 2 [f, k] _ (by omega) (by first | exact HW.out.below (alloc_below W _) | exact HW.out.below (alloc_below W _).drew) (by first | exact hasP_new W [f, k] 27 | exact (hasP_new W [f, k] 27).below (Below.refl _ _).drew)).mono ?_; rintro e w1 ⟨rfl, b1⟩; have B1 : Hid (Below W.heap.size W w1) := (by first | exact q_trans (alloc_below W _) b1 | exact q_trans (alloc_below W _).drew b1); have HS1 : Hid (SK w.heap.size f (w.heap.size + 1) k w1) := sk_keep hS B1.out; clear b1)
      | (go_at_call 52; refine (there_any ao n cap t f _ (by omega) (by first | exact HW.out.below B1.out | exact HW.out.below B1.out.drew)).mono ?_; rintro e w2 ⟨rfl, b2⟩; have B2 : Hid (Below W.heap.size W w2) := (by first | exact q_trans B1.out b2 | exact q_trans B1.out.drew b2); have HS2 : Hid (SK w.heap.size f (w.heap.size + 1) k w2) := sk_keep hS B2.out; clear b2)
      | (go_at_call 48; refine (unused_any ao n cap t k _ (by omega) (by first | exact HW.out.below B2.out | exact HW.out.below B2.out.drew)).mono ?_; rintro e w3 ⟨rfl, b3⟩; have B3 : Hid (Below W.heap.size W w3) := (by first | exact q_trans B2.out b3 | exact q_trans B2.out.drew b3); have HS3 : Hid (SK w.heap.size f (w.heap.size + 1) k w3) := sk_keep hS B3.out; clear b3)
      | (go_at_call 36; refine (or_low (some ⟨w3.heap.size, 0, none⟩) 3 3 [vdE t [f, k], thE t f, unE t k] _ (by omega) (by first | exact has_new w3 [vdE t [f, k], thE t f, unE t k] 32 | exact (has_new w3 [vdE t [f, k], thE t f, unE t k] 32).below (Below.refl _ _).drew)).mono ?_; rintro e w4 ⟨rfl, b4⟩; have B4 : Hid (Below W.heap.size W w4) := (by first | exact q_trans (q_alloc B3.out _) b4 | exact q_trans (q_alloc B3.out _).drew b4); have HS4 : Hid (SK w.heap.size f (w.heap.size + 1) k w4) := sk_keep hS B4.out; clear b4)
      | fail)
  rw [HQ.out]
  have BV := hid (q_trans B0.out B4.out)
  have HV := hid (HH.out.below BV.out)
  have HSV := hid HS4.out
  have HMV := hid (HM.out.below B4.out)
  clear B1 HS1 B2 HS2 B3 HS3 B4 HS4 hS
  by_cases h : moE t f k = 0
  · obtain ⟨i, _, _, hfd, _, hA⟩ := mo_ok h
    have HE : Hid (moE t f k = 0 ∧ moA t f k = t.set i (k, (t.getD i zB).2)) := ⟨h, hA⟩
    have hil := (fd_some.1 hfd).1
    have HPl := hid (plc_of hfd)
    have hin : i < n := by have := HN.out; omega
    have i3 : (i : Int) < (n : Int) := by omega
    have i4 : (0 : Int) ≤ (i : Int) := by omega
    have HIl := hid hil
    have HFd := hid hfd
    rw [h]
    clear h hA hfd hil
    obtain ⟨s0, s1, s2, s3⟩ := HSV.out
    go_wp2_with fail
    refine (find_any ao n cap t f w4 (by omega) HV).mono ?_
    rintro e w6 ⟨rfl, b6⟩
    have B6 := hid (q_trans BV.out b6)
    have S6 := hid (sk_keep HSV.out b6)
    have HM6 := hid (HMV.out.below b6)
    rw [HPl.out]
    clear b6 BV HV HSV HMV s0 s1 s2 s3
    obtain ⟨g, rfl⟩ : ∃ g, mo = some ⟨g, 0, none⟩ := own_some HM6.out (by omega)
    have c0 := own_cellB HM6.out HIl.out
    obtain ⟨y0, y1, y2, y3⟩ := c0
    have z0 := own_frozen (j := i * 4) HM6.out.2
    have z1 := own_frozen (j := i * 4 + 1) HM6.out.2
    have z3 := own_frozen (j := i * 4 + 3) HM6.out.2
    have HGl : Hid (w.heap.size ≤ g) := Nat.le_trans HVs.out (own_low HM6.out)
    obtain ⟨s0, s1, s2, s3⟩ := S6.out
    go_wp2_with fail
    refine bodyPost_ret (v := .tuple #[.slice (some ⟨g, 0, none⟩) n mc, .int .i64 0]) (by simp [results, Try.results29, go_sem]) rfl ⟨some ⟨g, 0, none⟩, n, mc, by rw [HE.out.1], by rw [HE.out.2]; exact ⟨own_move HM6.out HIl.out k, fun _ a e s => by cases e; exact absurd HGl.out (Nat.not_le.2 s)⟩, q_set (q_set B6.out HGl.out _) HGl.out _⟩
  · obtain ⟨x, hx⟩ : ∃ x, moE t f k = x := ⟨_, rfl⟩
    have HX := hid hx
    have HA := hid (HSame.out h)
    have hx2 : (x != 0) = true := by rw [hx] at h; simp [h]
    rw [hx]
    clear hx h
    go_wp2_with fail
    refine bodyPost_ret (v := .tuple #[.slice mo n mc, .int .i64 x]) (by simp [results, Try.results29, go_sem]) rfl ⟨mo, n, mc, by rw [HX.out], by rw [HA.out]; exact newB_mine HMV.out HVs.out, BV.out⟩
end Go.Proofs.Ytcldnacpddebcaa.Tr
