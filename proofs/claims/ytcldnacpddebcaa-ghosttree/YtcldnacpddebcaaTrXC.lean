/- (The answer lies in new blocks.) What the program's Insert does. -/
import Derived.Test.YtcldnacpddebcaaTrWA
import Derived.Test.YtcldnacpddebcaaTrXA
namespace Go.Proofs.Ytcldnacpddebcaa.Tr
open Go.RowKit

set_option maxRecDepth 100000 in
set_option maxHeartbeats 4000000 in
theorem ins_new (ao : Option Addr) (n cap : Nat) (t : List Br) (f k : P) (w : World) (hs : n ≤ 1000) (HH : Hid (HasB w ao n cap t)) :
    Calls Try.prog 28 #[.slice ao n cap, (.agg #[.int .i64 f.1, .int .i64 f.2]), (.agg #[.int .i64 k.1, .int .i64 k.2])] w fun e w' => ∃ xo xn xc, e = .returned (.tuple #[.slice xo xn xc, .int .i64 (inE t f k)]) ∧ NewB w.heap.size w' xo xn xc (inA t f k) ∧ Below w.heap.size w w' := by
  have HN := hid HH.out.len
  have HSame : Hid (inE t f k ≠ 0 → inA t f k = t) := fun h => by unfold inA; rw [if_neg h]
  have HQ : Hid (orV [vdE t [f, k], thE t f, unE t k, rmE n] = inE t f k) := by have h := or_in t f k; rwa [← HN.out] at h
  go_enter Try.func28, Try.ntmps28
  go_wp2_with fail
  have B0 := hid (q_alloc (alloc_below w (.cells #[.int .i64 f.1, .int .i64 f.2] 27)) (.cells #[.int .i64 k.1, .int .i64 k.2] 27))
  have K0 := hid (sk_new w f k 27)
  generalize (w.alloc (.cells #[.int .i64 f.1, .int .i64 f.2] 27)).alloc (.cells #[.int .i64 k.1, .int .i64 k.2] 27) = W at B0 K0 ⊢
  have HW := hid (HH.out.below B0.out)
  have hS : SK w.heap.size f (w.heap.size + 1) k W := K0.out
  go_region_held3 (SK w.heap.size f (w.heap.size + 1) k) (first | with_reducible assumption | with_reducible exact sk_drew hS | with_reducible exact sk_alloc hS _ | with_reducible exact sk_drew (sk_alloc hS _) | with_reducible exact sk_alloc (sk_drew hS) _ | with_reducible exact HS1.out | with_reducible exact sk_drew HS1.out | with_reducible exact sk_alloc HS1.out _ | with_reducible exact sk_drew (sk_alloc HS1.out _) | with_reducible exact HS2.out | with_reducible exact sk_drew HS2.out | with_reducible exact sk_alloc HS2.out _ | with_reducible exact sk_drew (sk_alloc HS2.out _) | with_reducible exact HS3.out | with_reducible exact sk_drew HS3.out | with_reducible exact sk_alloc HS3.out _ | with_reducible exact sk_drew (sk_alloc HS3.out _) | with_reducible exact HS4.out | with_reducible exact sk_drew HS4.out | with_reducible exact sk_alloc HS4.out _ | with_reducible exact sk_drew (sk_alloc HS4.out _) | with_reducible exact HS5.out | with_reducible exact sk_drew HS5.out | with_reducible exact sk_alloc HS5.out _ | with_reducible exact sk_drew (sk_alloc HS5.out _))
    (first
      | (go_at_call 47; refine (valid_any ao n cap t (some ⟨W.heap.size, 0, none⟩) 2 2 [f, k] _ (by omega) (by first | exact HW.out.below (alloc_below W _) | exact HW.out.below (alloc_below W _).drew) (by first | exact hasP_new W [f, k] 27 | exact (hasP_new W [f, k] 27).below (Below.refl _ _).drew)).mono ?_; rintro e w1 ⟨rfl, b1⟩; have B1 : Hid (Below W.heap.size W w1) := (by first | exact q_trans (alloc_below W _) b1 | exact q_trans (alloc_below W _).drew b1); have HS1 : Hid (SK w.heap.size f (w.heap.size + 1) k w1) := sk_keep hS B1.out; clear b1)
      | (go_at_call 52; refine (there_any ao n cap t f _ (by omega) (by first | exact HW.out.below B1.out | exact HW.out.below B1.out.drew)).mono ?_; rintro e w2 ⟨rfl, b2⟩; have B2 : Hid (Below W.heap.size W w2) := (by first | exact q_trans B1.out b2 | exact q_trans B1.out.drew b2); have HS2 : Hid (SK w.heap.size f (w.heap.size + 1) k w2) := sk_keep hS B2.out; clear b2)
      | (go_at_call 48; refine (unused_any ao n cap t k _ (by omega) (by first | exact HW.out.below B2.out | exact HW.out.below B2.out.drew)).mono ?_; rintro e w3 ⟨rfl, b3⟩; have B3 : Hid (Below W.heap.size W w3) := (by first | exact q_trans B2.out b3 | exact q_trans B2.out.drew b3); have HS3 : Hid (SK w.heap.size f (w.heap.size + 1) k w3) := sk_keep hS B3.out; clear b3)
      | (go_at_call 49; refine (room_low ao n cap _).mono ?_; rintro e w4 ⟨rfl, b4⟩; have B4 : Hid (Below W.heap.size W w4) := (by first | exact q_trans B3.out b4 | exact q_trans B3.out.drew b4); have HS4 : Hid (SK w.heap.size f (w.heap.size + 1) k w4) := sk_keep hS B4.out; clear b4)
      | (go_at_call 36; refine (or_low (some ⟨w4.heap.size, 0, none⟩) 4 4 [vdE t [f, k], thE t f, unE t k, rmE n] _ (by omega) (by first | exact has_new w4 [vdE t [f, k], thE t f, unE t k, rmE n] 32 | exact (has_new w4 [vdE t [f, k], thE t f, unE t k, rmE n] 32).below (Below.refl _ _).drew)).mono ?_; rintro e w5 ⟨rfl, b5⟩; have B5 : Hid (Below W.heap.size W w5) := (by first | exact q_trans (q_alloc B4.out _) b5 | exact q_trans (q_alloc B4.out _).drew b5); have HS5 : Hid (SK w.heap.size f (w.heap.size + 1) k w5) := sk_keep hS B5.out; clear b5)
      | fail)
  rw [HQ.out]
  have BV := hid (q_trans B0.out B5.out)
  have HV := hid (HH.out.below BV.out)
  have HSV := hid HS5.out
  clear B1 HS1 B2 HS2 B3 HS3 B4 HS4 B5 HS5 hS
  by_cases h : inE t f k = 0
  · obtain ⟨i, hok, hA⟩ := in_ok h
    have hfd := hok.at'
    have hil := (fd_some.1 hfd).1
    have hD := tree_D hok.tree hil
    have HE : Hid (inE t f k = 0 ∧ inA t f k = ins t (i + 1) (k, D t i + 1, false)) := ⟨h, hA⟩
    have HPl := hid (plc_of hfd)
    have HHs := hid (has_of hfd)
    have hin : i < n := by have := HN.out; omega
    have i3 : (i : Int) < (n : Int) := by omega
    obtain ⟨x, hx⟩ : ∃ b, D t i = b := ⟨_, rfl⟩
    rw [hx] at hD HE
    have HXX := hid hx
    obtain ⟨hD1, hD2⟩ := hD
    rw [h]
    clear h hok hA hfd hil hx
    obtain ⟨s0, s1, s2, s3⟩ := HSV.out
    go_wp2_with fail
    refine (find_any ao n cap t f w5 (by omega) HV).mono ?_
    rintro e w6 ⟨rfl, b6⟩
    have B6 := hid (q_trans BV.out b6)
    have S6 := hid (sk_keep HSV.out b6)
    rw [HPl.out]
    clear b6 BV HV HSV s0 s1 s2 s3
    obtain ⟨a, rfl, ca⟩ := (HH.out.below B6.out).at i hin
    have c2 := ca.c2
    rw [show (t.getD i zB).2.1 = x from HXX.out] at c2
    clear ca
    go_wp2_with fail
    obtain ⟨p, hp⟩ : ∃ p, p = i + 1 := ⟨_, rfl⟩
    have HPp := hid hp
    obtain ⟨y, hy⟩ : ∃ y : Int, x + 1 = y := ⟨_, rfl⟩
    have HYy := hid hy
    have hwr : ((i : Int) + 1 + 9223372036854775808) % 18446744073709551616 - 9223372036854775808 = (p : Int) := by omega
    have hwk : IntKind.i64.wrap ((i : Int) + 1) = (p : Int) := by rw [IntKind.wrap_i64]; exact hwr
    have hwy : (x + 1 + 9223372036854775808) % 18446744073709551616 - 9223372036854775808 = y := by omega
    have hwz : IntKind.i64.wrap (x + 1) = y := by rw [IntKind.wrap_i64]; exact hwy
    have HPt : Hid (∀ W : World, Below w.heap.size w W → Calls Try.prog 51 #[.slice (some a) n cap, .int .i64 p, .agg #[.int .i64 k.1, .int .i64 k.2, .int .i64 y, .bool false]] W fun e w' => ∃ xo xc, e = .returned (.slice xo (n + 1) xc) ∧ NewB W.heap.size w' xo (n + 1) xc (ins t p (k, y, false)) ∧ Below W.heap.size W w') := fun W hW => with_new (some a) n cap p t (k, y, false) W (by have := HPp.out; omega) hs (HH.out.below hW)
    have hS : SI (w.heap.size + 1) k (a.add (i * 4)) x w6 := ⟨S6.out.2.2.1, S6.out.2.2.2, c2⟩
    clear hp hy c2
    go_region_held3 (SI (w.heap.size + 1) k (a.add (i * 4)) x) (first | with_reducible assumption | with_reducible exact si_drew hS | exact si_keep hS b8 | go_keep)
      (first
        | (go_at_call 51; refine (HPt.out _ (by first | exact B6.out | exact B6.out.drew)).mono ?_; rintro e w7 ⟨xo, xc, rfl, h7, b7⟩; have b8 : Below w6.heap.size w6 w7 := (by first | exact b7 | exact q_trans (Below.refl _ w6).drew b7))
        | fail)
    all_goals
      have H7 := hid h7
      have B7 := hid (q_trans B6.out b8)
      clear h7 b7 b8
      go_wp2_with fail
      refine bodyPost_ret (v := .tuple #[.slice xo (n + 1) xc, .int .i64 0]) (by simp [results, Try.results28, go_sem]) rfl ⟨xo, n + 1, xc, by rw [HE.out.1], by rw [HE.out.2, ← HPp.out, HYy.out]; exact H7.out.mono B6.out.size, B7.out⟩
  · obtain ⟨x, hx⟩ : ∃ x, inE t f k = x := ⟨_, rfl⟩
    have HX := hid hx
    have HA := hid (HSame.out h)
    have hx2 : (x != 0) = true := by rw [hx] at h; simp [h]
    rw [hx]
    clear hx h
    go_wp2_with fail
    refine (clone_any ao n cap t w5 (by omega) HV.out).mono ?_
    rintro e w9 ⟨xo, xc, rfl, h9, b9⟩
    have H9 := hid h9
    have B9 := hid (q_trans BV.out b9)
    clear h9 b9
    go_wp2_with fail
    refine bodyPost_ret (v := .tuple #[.slice xo n xc, .int .i64 x]) (by simp [results, Try.results28, go_sem]) rfl ⟨xo, n, xc, by rw [HX.out], by rw [HA.out]; exact newB_mine H9.out BV.out.size, B9.out⟩
end Go.Proofs.Ytcldnacpddebcaa.Tr
