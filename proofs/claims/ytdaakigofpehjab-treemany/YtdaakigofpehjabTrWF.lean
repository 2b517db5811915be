/- What the program's Mark does. -/
import Derived.Test.YtdaakigofpehjabTrWA
namespace Go.Proofs.Ytdaakigofpehjab.Tr
open Go.RowKit

set_option maxRecDepth 100000 in
set_option maxHeartbeats 4000000 in
theorem mar_any (ao : Option Addr) (n cap : Nat) (t : List Br) (k : P) (on : Bool) (w : World) (hs : n ≤ 1000) (HH : Hid (HasB w ao n cap t)) :
    Calls Try.prog 17 #[.slice ao n cap, (.agg #[.int .i64 k.1, .int .i64 k.2]), .bool on] w fun e w' => ∃ xo xn xc, e = .returned (.tuple #[.slice xo xn xc, .int .i64 (maE t k)]) ∧ HasB w' xo xn xc (maA t k on) ∧ Below w.heap.size w w' := by
  have HN := hid HH.out.len
  have HSame : Hid (maE t k ≠ 0 → maA t k on = t) := fun h => by unfold maA; rw [if_neg h]
  have HQ : Hid (orV [vdE t [k], thE t k] = maE t k) := or_ma t k
  go_enter Try.func17, Try.ntmps17
  go_wp2_with fail
  have B0 := hid (alloc_below w (.cells #[.int .i64 k.1, .int .i64 k.2] 24))
  have K0 := hid (at_new w k 24)
  generalize w.alloc (.cells #[.int .i64 k.1, .int .i64 k.2] 24) = V at B0 K0 ⊢
  refine (clone_any ao n cap t V (by omega) (HH.out.below B0.out)).mono ?_
  rintro e W ⟨mo, mc, rfl, hm, bm⟩
  have HM := hid hm
  have BM := hid (q_trans B0.out bm)
  have KM := hid (AtP.below K0.out bm)
  have HVs : Hid (w.heap.size ≤ V.heap.size) := B0.out.size
  clear hm bm B0 K0
  have B0 := BM
  clear BM
  have HW := hid (HH.out.below B0.out)
  have hS : S1 w.heap.size k W := ⟨KM.out.c0, KM.out.c1⟩
  obtain ⟨s0, s1⟩ := hS
  go_wp2_with fail
  clear s0 s1
  have hS : S1 w.heap.size k W := ⟨KM.out.c0, KM.out.c1⟩
  go_region_held3 (S1 w.heap.size k) (first | with_reducible assumption | with_reducible exact s1_drew hS | with_reducible exact s1_alloc hS _ | with_reducible exact s1_drew (s1_alloc hS _) | with_reducible exact s1_alloc (s1_drew hS) _ | with_reducible exact HS1.out | with_reducible exact s1_drew HS1.out | with_reducible exact s1_alloc HS1.out _ | with_reducible exact s1_drew (s1_alloc HS1.out _) | with_reducible exact HS2.out | with_reducible exact s1_drew HS2.out | with_reducible exact s1_alloc HS2.out _ | with_reducible exact s1_drew (s1_alloc HS2.out _) | with_reducible exact HS3.out | with_reducible exact s1_drew HS3.out | with_reducible exact s1_alloc HS3.out _ | with_reducible exact s1_drew (s1_alloc HS3.out _))
    (first
      | (go_at_call 25; refine (valid_any ao n cap t (some ⟨W.heap.size, 0, none⟩) 1 1 [k] _ (by omega) (by first | exact HW.out.below (alloc_below W _) | exact HW.out.below (alloc_below W _).drew) (by first | exact hasP_new W [k] 24 | exact (hasP_new W [k] 24).below (Below.refl _ _).drew)).mono ?_; rintro e w1 ⟨rfl, b1⟩; have B1 : Hid (Below W.heap.size W w1) := (by first | exact q_trans (alloc_below W _) b1 | exact q_trans (alloc_below W _).drew b1); have HS1 : Hid (S1 w.heap.size k w1) := s1_keep hS B1.out; clear b1)
      | (go_at_call 30; refine (there_any ao n cap t k _ (by omega) (by first | exact HW.out.below B1.out | exact HW.out.below B1.out.drew)).mono ?_; rintro e w2 ⟨rfl, b2⟩; have B2 : Hid (Below W.heap.size W w2) := (by first | exact q_trans B1.out b2 | exact q_trans B1.out.drew b2); have HS2 : Hid (S1 w.heap.size k w2) := s1_keep hS B2.out; clear b2)
      | (go_at_call 24; refine (or_low (some ⟨w2.heap.size, 0, none⟩) 2 2 [vdE t [k], thE t k] _ (by omega) (by first | exact has_new w2 [vdE t [k], thE t k] 37 | exact (has_new w2 [vdE t [k], thE t k] 37).below (Below.refl _ _).drew)).mono ?_; rintro e w3 ⟨rfl, b3⟩; have B3 : Hid (Below W.heap.size W w3) := (by first | exact q_trans (q_alloc B2.out _) b3 | exact q_trans (q_alloc B2.out _).drew b3); have HS3 : Hid (S1 w.heap.size k w3) := s1_keep hS B3.out; clear b3)
      | fail)
  rw [HQ.out]
  have BV := hid (q_trans B0.out B3.out)
  have HV := hid (HH.out.below BV.out)
  have HSV := hid HS3.out
  have HMV := hid (HM.out.below B3.out)
  clear B1 HS1 B2 HS2 B3 HS3 hS
  by_cases h : maE t k = 0
  · obtain ⟨i, _, _, hfd, hA⟩ := ma_ok (on := on) h
    have HE : Hid (maE t k = 0 ∧ maA t k on = t.set i (k, D t i, on)) := ⟨h, hA⟩
    have hil := (fd_some.1 hfd).1
    have HPl := hid (plc_of hfd)
    have hin : i < n := by have := HN.out; omega
    have i3 : (i : Int) < (n : Int) := by omega
    have i4 : (0 : Int) ≤ (i : Int) := by omega
    have HIl := hid hil
    have HFd := hid hfd
    rw [h]
    clear h hA hfd hil
    obtain ⟨s0, s1⟩ := HSV.out
    go_wp2_with fail
    refine (find_any ao n cap t k w3 (by omega) HV).mono ?_
    rintro e w6 ⟨rfl, b6⟩
    have B6 := hid (q_trans BV.out b6)
    have S6 := hid (s1_keep HSV.out b6)
    have HM6 := hid (HMV.out.below b6)
    rw [HPl.out]
    clear b6 BV HV HSV HMV s0 s1
    obtain ⟨g, rfl⟩ : ∃ g, mo = some ⟨g, 0, none⟩ := own_some HM6.out (by omega)
    have c0 := own_cellB HM6.out HIl.out
    obtain ⟨y0, y1, y2, y3⟩ := c0
    have z0 := own_frozen (j := i * 4) HM6.out.2
    have z1 := own_frozen (j := i * 4 + 1) HM6.out.2
    have z3 := own_frozen (j := i * 4 + 3) HM6.out.2
    have HGl : Hid (w.heap.size ≤ g) := Nat.le_trans HVs.out (own_low HM6.out)
    obtain ⟨s0, s1⟩ := S6.out
    go_wp2_with fail
    refine bodyPost_ret (v := .tuple #[.slice (some ⟨g, 0, none⟩) n mc, .int .i64 0]) (by simp [results, Try.results17, go_sem]) rfl ⟨some ⟨g, 0, none⟩, n, mc, by rw [HE.out.1], by rw [HE.out.2]; exact own_mark HM6.out HFd.out on, q_set B6.out HGl.out _⟩
  · obtain ⟨x, hx⟩ : ∃ x, maE t k = x := ⟨_, rfl⟩
    have HX := hid hx
    have HA := hid (HSame.out h)
    have hx2 : (x != 0) = true := by rw [hx] at h; simp [h]
    rw [hx]
    clear hx h
    go_wp2_with fail
    refine bodyPost_ret (v := .tuple #[.slice mo n mc, .int .i64 x]) (by simp [results, Try.results17, go_sem]) rfl ⟨mo, n, mc, by rw [HX.out], by rw [HA.out]; exact HMV.out.has, BV.out⟩
end Go.Proofs.Ytdaakigofpehjab.Tr
