/- What the document's Remove does. -/
import Derived.Test.YtdaakigofpehjaaTrROut
import Derived.Test.YtdaakigofpehjaaTrKeep
namespace Go.Proofs.Ytdaakigofpehjaa.Tr
open Go.RowKit

set_option maxRecDepth 100000 in
set_option maxHeartbeats 2000000 in
theorem rRem_any (ao : Option Addr) (n cap : Nat) (t : List Br) (k : P) (w : World) (hs : n ≤ 1000) (HH : Hid (HasB w ao n cap t)) :
    Calls Try.prog 35 #[.slice ao n cap, (.agg #[.int .i64 k.1, .int .i64 k.2])] w fun e w' => ∃ xo xn xc, e = .returned (.tuple #[.slice xo xn xc, .int .i64 (reE t k)]) ∧ HasB w' xo xn xc (reA t k) ∧ Below w.heap.size w w' := by
  have HN := hid HH.out.len
  have HSame : Hid (∀ W : World, Below w.heap.size w W → reE t k ≠ 0 → HasB W ao n cap (reA t k)) := fun W hW h => by
    have : reA t k = t := by unfold reA; rw [if_neg h]
    rw [this]
    exact HH.out.below hW
  go_enter Try.func35, Try.ntmps35
  go_wp2_with fail
  have B0 := hid (alloc_below w (.cells #[.int .i64 k.1, .int .i64 k.2] 24))
  have K0 := hid (at_new w k 24)
  generalize w.alloc (.cells #[.int .i64 k.1, .int .i64 k.2] 24) = W0 at B0 K0 ⊢
  refine (rfind_any ao n cap t k W0 (by omega) (HH.out.below B0.out)).mono ?_
  rintro e w1 ⟨rfl, b1⟩
  have B1 := hid (q_trans B0.out b1)
  have K1 := hid (K0.out.below b1)
  clear b1 B0 K0
  go_wp2_with fail
  refine (ris_any ao n cap t w1 (HH.out.below B1.out)).mono ?_
  rintro e w2 ⟨rfl, b2⟩
  have B2 := hid (q_trans B1.out b2)
  have K2 := hid (K1.out.below b2)
  clear b2 B1 K1
  cases h1 : isB t with
  | false =>
    have HE : Hid (reE t k = 2) := by unfold Hid reE; rw [h1]; rfl
    clear h1
    go_wp2_with fail
    refine bodyPost_ret (v := .tuple #[.slice ao n cap, .int .i64 2]) (by simp [results, Try.results35, go_sem]) rfl ⟨ao, n, cap, by rw [HE.out], HSame.out _ B2.out (by rw [HE.out]; decide), B2.out⟩
  | true =>
    obtain ⟨k0, k1⟩ := K2.out
    go_wp2_with fail
    refine (ki_any k w2).mono ?_
    rintro e w3 ⟨rfl, b3⟩
    have B3 := hid (q_trans B2.out b3)
    have K3 := hid (K2.out.below b3)
    clear b3 B2 K2 k0 k1
    cases h2 : okK k with
    | false =>
      have HE : Hid (reE t k = 2) := by unfold Hid reE; rw [h1, h2]; rfl
      clear h1 h2
      go_wp2_with fail
      refine bodyPost_ret (v := .tuple #[.slice ao n cap, .int .i64 2]) (by simp [results, Try.results35, go_sem]) rfl ⟨ao, n, cap, by rw [HE.out], HSame.out _ B3.out (by rw [HE.out]; decide), B3.out⟩
    | true =>
      cases h3 : hasK t k with
      | false =>
        have HE : Hid (reE t k = 7) := by unfold Hid reE; rw [h1, h2, h3]; rfl
        clear h1 h2 h3
        go_wp2_with fail
        refine bodyPost_ret (v := .tuple #[.slice ao n cap, .int .i64 7]) (by simp [results, Try.results35, go_sem]) rfl ⟨ao, n, cap, by rw [HE.out], HSame.out _ B3.out (by rw [HE.out]; decide), B3.out⟩
      | true =>
        obtain ⟨i, hi⟩ := has_fd h3
        have hil := (fd_some.1 hi).1
        have hin : i < n := by have := HN.out; omega
        rw [plc_of hi]
        go_wp2_with fail
        refine (rcnt_any ao n cap i t _ hin hs (HH.out.below B3.out)).mono ?_
        rintro e w4 ⟨rfl, b4⟩
        have B4 := hid (q_trans B3.out b4)
        clear b4
        have hct := ct_in hil
        have hcl : ct t i ≤ 1000 := by have := HN.out; omega
        by_cases h4 : 0 < ct t i
        · have HE : Hid (reE t k = 130) := by unfold Hid reE; rw [h1, h2, h3, plc_of hi, if_pos h4]; rfl
          clear h1 h2 h3 hi hct
          generalize ct t i = c at h4 hcl ⊢
          have i4 : (c : Int) > 0 := by omega
          go_wp2_with fail
          refine bodyPost_ret (v := .tuple #[.slice ao n cap, .int .i64 130]) (by simp [results, Try.results35, go_sem]) rfl ⟨ao, n, cap, by rw [HE.out], HSame.out _ B4.out (by rw [HE.out]; decide), B4.out⟩
        · have HE : Hid (reE t k = 0 ∧ reA t k = del t i) := by
            have e : reE t k = 0 := by unfold reE; rw [h1, h2, h3, plc_of hi, if_neg h4]; rfl
            refine ⟨e, ?_⟩
            unfold reA
            rw [if_pos e, plc_of hi]
          have hz : ct t i = 0 := by omega
          rw [hz]
          clear h1 h2 h3 hi hct hz h4 hcl
          go_wp2_with fail
          refine (rout_any ao n cap i t _ hin hs (HH.out.below B4.out)).mono ?_
          rintro e w5 ⟨xo, xc, rfl, h5, b5⟩
          have H5 := hid h5
          have B5 := hid (q_trans B4.out b5)
          clear h5 b5
          go_wp2_with fail
          refine bodyPost_ret (v := .tuple #[.slice xo (n - 1) xc, .int .i64 0]) (by simp [results, Try.results35, go_sem]) rfl ⟨xo, n - 1, xc, by rw [HE.out.1], by rw [HE.out.2]; exact H5.out, B5.out⟩
end Go.Proofs.Ytdaakigofpehjaa.Tr
