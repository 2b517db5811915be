/- What the document's Root does. -/
import Derived.Test.YtdaakigofpehjaaTrROut
namespace Go.Proofs.Ytdaakigofpehjaa.Tr
open Go.RowKit

set_option maxRecDepth 100000 in
set_option maxHeartbeats 2000000 in
theorem rRoot_any (ao : Option Addr) (n cap : Nat) (t : List Br) (k : P) (w : World) (hs : n ≤ 1000) (HH : Hid (HasB w ao n cap t)) :
    Calls Try.prog 33 #[.slice ao n cap, (.agg #[.int .i64 k.1, .int .i64 k.2])] w fun e w' => ∃ xo xn xc, e = .returned (.tuple #[.slice xo xn xc, .int .i64 (roE t k)]) ∧ HasB w' xo xn xc (roA t k) ∧ Below w.heap.size w w' := by
  have HN := hid HH.out.len
  have HSame : Hid (∀ W : World, Below w.heap.size w W → roE t k ≠ 0 → HasB W ao n cap (roA t k)) := fun W hW h => by
    have : roA t k = t := by unfold roA; rw [if_neg h]
    rw [this]
    exact HH.out.below hW
  go_enter Try.func33, Try.ntmps33
  go_wp2_with fail
  have B0 := hid (alloc_below w (.cells #[.int .i64 k.1, .int .i64 k.2] 24))
  have K0 := hid (at_new w k 24)
  generalize w.alloc (.cells #[.int .i64 k.1, .int .i64 k.2] 24) = W0 at B0 K0 ⊢
  refine (rfind_any ao n cap t k W0 (by omega) (HH.out.below B0.out)).mono ?_
  rintro e w1 ⟨rfl, b1⟩
  have B1 := hid (q_trans B0.out b1)
  have K1 := hid (K0.out.below b1)
  clear b1 B0 K0
  go_wp2_with fail
  refine (ris_any ao n cap t w1 (HH.out.below B1.out)).mono ?_
  rintro e w2 ⟨rfl, b2⟩
  have B2 := hid (q_trans B1.out b2)
  have K2 := hid (K1.out.below b2)
  clear b2 B1 K1
  cases h1 : isB t with
  | false =>
    have HE : Hid (roE t k = 2) := by unfold Hid roE; rw [h1]; rfl
    clear h1
    go_wp2_with fail
    refine bodyPost_ret (v := .tuple #[.slice ao n cap, .int .i64 2]) (by simp [results, Try.results33, go_sem]) rfl ⟨ao, n, cap, by rw [HE.out], HSame.out _ B2.out (by rw [HE.out]; decide), B2.out⟩
  | true =>
    obtain ⟨k0, k1⟩ := K2.out
    go_wp2_with fail
    refine (ki_any k w2).mono ?_
    rintro e w3 ⟨rfl, b3⟩
    have B3 := hid (q_trans B2.out b3)
    have K3 := hid (K2.out.below b3)
    clear b3 B2 K2 k0 k1
    cases h2 : okK k with
    | false =>
      have HE : Hid (roE t k = 2) := by unfold Hid roE; rw [h1, h2]; rfl
      clear h1 h2
      go_wp2_with fail
      refine bodyPost_ret (v := .tuple #[.slice ao n cap, .int .i64 2]) (by simp [results, Try.results33, go_sem]) rfl ⟨ao, n, cap, by rw [HE.out], HSame.out _ B3.out (by rw [HE.out]; decide), B3.out⟩
    | true =>
      cases h3 : hasK t k with
      | true =>
        have HE : Hid (roE t k = 8) := by unfold Hid roE; rw [h1, h2, h3]; rfl
        clear h1 h2 h3
        go_wp2_with fail
        refine bodyPost_ret (v := .tuple #[.slice ao n cap, .int .i64 8]) (by simp [results, Try.results33, go_sem]) rfl ⟨ao, n, cap, by rw [HE.out], HSame.out _ B3.out (by rw [HE.out]; decide), B3.out⟩
      | false =>
        by_cases h4 : 512 ≤ n
        · have HE : Hid (roE t k = 6) := by unfold Hid roE; rw [h1, h2, h3, if_pos (by have := HN.out; omega : 512 ≤ t.length)]; rfl
          have i4 : (512 : Int) ≤ (n : Int) := by omega
          clear h1 h2 h3 h4
          go_wp2_with fail
          refine bodyPost_ret (v := .tuple #[.slice ao n cap, .int .i64 6]) (by simp [results, Try.results33, go_sem]) rfl ⟨ao, n, cap, by rw [HE.out], HSame.out _ B3.out (by rw [HE.out]; decide), B3.out⟩
        · have HE : Hid (roE t k = 0 ∧ roA t k = ins t n (k, 0, false)) := by
            have e : roE t k = 0 := by unfold roE; rw [h1, h2, h3, if_neg (by have := HN.out; omega : ¬ 512 ≤ t.length)]; rfl
            refine ⟨e, ?_⟩
            unfold roA ins
            rw [if_pos e, HN.out, List.take_length, List.drop_length]
          have i4 : ¬ (512 : Int) ≤ (n : Int) := by omega
          clear h1 h2 h3 h4
          obtain ⟨k0, k1⟩ := K3.out
          go_wp2_with fail
          refine (rput_any ao n cap n t (k, 0, false) _ (Nat.le_refl _) hs (HH.out.below B3.out)).mono ?_
          rintro e w5 ⟨xo, xc, rfl, h5, b5⟩
          have H5 := hid h5
          have B5 := hid (q_trans B3.out b5)
          clear h5 b5 k0 k1
          go_wp2_with fail
          refine bodyPost_ret (v := .tuple #[.slice xo (n + 1) xc, .int .i64 0]) (by simp [results, Try.results33, go_sem]) rfl ⟨xo, n + 1, xc, by rw [HE.out.1], by rw [HE.out.2]; exact H5.out, B5.out⟩
end Go.Proofs.Ytdaakigofpehjaa.Tr
