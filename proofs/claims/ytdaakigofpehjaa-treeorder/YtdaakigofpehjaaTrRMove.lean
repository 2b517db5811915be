/- What the document's Move does. -/
import Derived.Test.YtdaakigofpehjaaTrRIns
import Derived.Test.YtdaakigofpehjaaTrRMark
namespace Go.Proofs.Ytdaakigofpehjaa.Tr
open Go.RowKit

set_option maxRecDepth 100000 in
set_option maxHeartbeats 2000000 in
theorem rMove_any (ao : Option Addr) (n cap : Nat) (t : List Br) (f k : P) (w : World) (hs : n ≤ 1000) (HH : Hid (HasB w ao n cap t)) :
    Calls Try.prog 36 #[.slice ao n cap, (.agg #[.int .i64 f.1, .int .i64 f.2]), (.agg #[.int .i64 k.1, .int .i64 k.2])] w fun e w' => ∃ xo xn xc, e = .returned (.tuple #[.slice xo xn xc, .int .i64 (moE t f k)]) ∧ HasB w' xo xn xc (moA t f k) ∧ Below w.heap.size w w' := by
  have HN := hid HH.out.len
  have HSame : Hid (∀ W : World, Below w.heap.size w W → moE t f k ≠ 0 → HasB W ao n cap (moA t f k)) := fun W hW h => by
    have : moA t f k = t := by unfold moA; rw [if_neg h]
    rw [this]
    exact HH.out.below hW
  go_enter Try.func36, Try.ntmps36
  go_wp2_with fail
  have B0 := hid (q_alloc (alloc_below w (.cells #[.int .i64 f.1, .int .i64 f.2] 24)) (.cells #[.int .i64 k.1, .int .i64 k.2] 24))
  have F0 := hid (at_two0 w f k 24)
  have K0 := hid (at_new2 w f k 24)
  generalize (w.alloc (.cells #[.int .i64 f.1, .int .i64 f.2] 24)).alloc (.cells #[.int .i64 k.1, .int .i64 k.2] 24) = W0 at B0 F0 K0 ⊢
  refine (rfind_any ao n cap t f W0 (by omega) (HH.out.below B0.out)).mono ?_
  rintro e w1 ⟨rfl, b1⟩
  have B1 := hid (q_trans B0.out b1)
  have F1 := hid (F0.out.below b1)
  have K1 := hid (K0.out.below b1)
  clear b1 B0 F0 K0
  obtain ⟨k0, k1⟩ := K1.out
  go_wp2_with fail
  refine (rfind_any ao n cap t k w1 (by omega) (HH.out.below B1.out)).mono ?_
  rintro e w2 ⟨rfl, b2⟩
  have B2 := hid (q_trans B1.out b2)
  have F2 := hid (F1.out.below b2)
  have K2 := hid (K1.out.below b2)
  clear b2 B1 F1 K1 k0 k1
  go_wp2_with fail
  refine (ris_any ao n cap t w2 (HH.out.below B2.out)).mono ?_
  rintro e w3 ⟨rfl, b3⟩
  have B3 := hid (q_trans B2.out b3)
  have F3 := hid (F2.out.below b3)
  have K3 := hid (K2.out.below b3)
  clear b3 B2 F2 K2
  cases h1 : isB t with
  | false =>
    have HE : Hid (moE t f k = 2) := by unfold Hid moE; rw [h1]; rfl
    clear h1
    go_wp2_with fail
    refine bodyPost_ret (v := .tuple #[.slice ao n cap, .int .i64 2]) (by simp [results, Try.results36, go_sem]) rfl ⟨ao, n, cap, by rw [HE.out], HSame.out _ B3.out (by rw [HE.out]; decide), B3.out⟩
  | true =>
    obtain ⟨f0, f1⟩ := F3.out
    go_wp2_with fail
    refine (ki_any f w3).mono ?_
    rintro e w4 ⟨rfl, b4⟩
    have B4 := hid (q_trans B3.out b4)
    have K4 := hid (K3.out.below b4)
    clear b4 B3 F3 K3 f0 f1
    cases h2 : okK f with
    | false =>
      have HE : Hid (moE t f k = 2) := by unfold Hid moE; rw [h1, h2]; rfl
      clear h1 h2
      go_wp2_with fail
      refine bodyPost_ret (v := .tuple #[.slice ao n cap, .int .i64 2]) (by simp [results, Try.results36, go_sem]) rfl ⟨ao, n, cap, by rw [HE.out], HSame.out _ B4.out (by rw [HE.out]; decide), B4.out⟩
    | true =>
      obtain ⟨k0, k1⟩ := K4.out
      go_wp2_with fail
      refine (ki_any k w4).mono ?_
      rintro e w5 ⟨rfl, b5⟩
      have B5 := hid (q_trans B4.out b5)
      have K5 := hid (K4.out.below b5)
      clear b5 B4 K4 k0 k1
      cases h3 : okK k with
      | false =>
        have HE : Hid (moE t f k = 2) := by unfold Hid moE; rw [h1, h2, h3]; rfl
        clear h1 h2 h3
        go_wp2_with fail
        refine bodyPost_ret (v := .tuple #[.slice ao n cap, .int .i64 2]) (by simp [results, Try.results36, go_sem]) rfl ⟨ao, n, cap, by rw [HE.out], HSame.out _ B5.out (by rw [HE.out]; decide), B5.out⟩
      | true =>
        cases h4 : hasK t f with
        | false =>
          have HE : Hid (moE t f k = 7) := by unfold Hid moE; rw [h1, h2, h3, h4]; rfl
          clear h1 h2 h3 h4
          go_wp2_with fail
          refine bodyPost_ret (v := .tuple #[.slice ao n cap, .int .i64 7]) (by simp [results, Try.results36, go_sem]) rfl ⟨ao, n, cap, by rw [HE.out], HSame.out _ B5.out (by rw [HE.out]; decide), B5.out⟩
        | true =>
          cases h5 : hasK t k with
          | true =>
            have HE : Hid (moE t f k = 8) := by unfold Hid moE; rw [h1, h2, h3, h4, h5]; rfl
            clear h1 h2 h3 h4 h5
            go_wp2_with fail
            refine bodyPost_ret (v := .tuple #[.slice ao n cap, .int .i64 8]) (by simp [results, Try.results36, go_sem]) rfl ⟨ao, n, cap, by rw [HE.out], HSame.out _ B5.out (by rw [HE.out]; decide), B5.out⟩
          | false =>
            obtain ⟨i, hi⟩ := has_fd h4
            have hil := (fd_some.1 hi).1
            have hin : i < n := by have := HN.out; omega
            rw [plc_of hi]
            have HE : Hid (moE t f k = 0 ∧ moA t f k = ins (del t i) i (k, (t.getD i zB).2.1, (t.getD i zB).2.2)) := by
              have e : moE t f k = 0 := by unfold moE; rw [h1, h2, h3, h4, h5]; rfl
              refine ⟨e, ?_⟩
              unfold moA
              rw [if_pos e, plc_of hi, ins_del hil]
            obtain ⟨a, rfl, ca⟩ := (HH.out.below B5.out).at i hin
            obtain ⟨bb, hbb⟩ : ∃ b, t.getD i zB = b := ⟨_, rfl⟩
            have HBB := hid hbb
            rw [hbb] at ca
            clear hbb
            have i3 : (i : Int) < (n : Int) := by omega
            clear h1 h2 h3 h4 h5
            obtain ⟨c0, c1, c2, c3⟩ := ca
            obtain ⟨k0, k1⟩ := K5.out
            obtain ⟨k2, k3⟩ := K5.out.below (alloc_below w5 (.cells #[.int .i64 bb.1.1, .int .i64 bb.1.2, .int .i64 bb.2.1, .bool bb.2.2] 55))
            go_wp2_with fail
            have B4 := hid (q_alloc B5.out (.cells #[.int .i64 k.1, .int .i64 k.2, .int .i64 bb.2.1, .bool bb.2.2] 55))
            have hS : SB w5.heap.size (k, bb.2.1, bb.2.2) (w5.alloc (.cells #[.int .i64 k.1, .int .i64 k.2, .int .i64 bb.2.1, .bool bb.2.2] 55)) := by
              have := atB_new w5 (k, bb.2.1, bb.2.2) 55
              exact ⟨this.c0, this.c1, this.c2, this.c3⟩
            generalize w5.heap.size = cb at hS ⊢
            generalize w5.alloc (.cells #[.int .i64 k.1, .int .i64 k.2, .int .i64 bb.2.1, .bool bb.2.2] 55) = W4 at B4 hS ⊢
            have HOu : Hid (∀ W : World, Below w.heap.size w W → Calls Try.prog 55 #[.slice (some a) n cap, .int .i64 i] W fun e w' => ∃ xo xc, e = .returned (.slice xo (n - 1) xc) ∧ HasB w' xo (n - 1) xc (del t i) ∧ Below W.heap.size W w') := fun W hW => rout_any (some a) n cap i t W hin hs (HH.out.below hW)
            have HPt : Hid (∀ (W : World) (xo : Option Addr) (xc : Nat), HasB W xo (n - 1) xc (del t i) → Calls Try.prog 54 #[.slice xo (n - 1) xc, .int .i64 i, .agg #[.int .i64 k.1, .int .i64 k.2, .int .i64 bb.2.1, .bool bb.2.2]] W fun e w' => ∃ yo yc, e = .returned (.slice yo (n - 1 + 1) yc) ∧ HasB w' yo (n - 1 + 1) yc (ins (del t i) i (k, bb.2.1, bb.2.2)) ∧ Below W.heap.size W w') := fun W xo xc hW => rput_any xo (n - 1) xc i (del t i) (k, bb.2.1, bb.2.2) W (by omega) (by omega) hW
            clear c0 c1 c2 c3 hi hil i3
            go_region_held3 (SB cb (k, bb.2.1, bb.2.2)) (first | with_reducible assumption | with_reducible exact sb_drew hS | exact sb_keep hS b9 | exact sb_keep hS b8 | go_keep)
              (first
                | (go_at_call 55; refine (HOu.out _ (by first | exact B4.out | exact B4.out.drew)).mono ?_; rintro e w7 ⟨xo, xc, rfl, h5, b5⟩; have b8 : Below W4.heap.size W4 w7 := (by first | exact b5 | exact q_trans (Below.refl _ W4).drew b5))
                | (go_at_call 54; refine (HPt.out _ _ _ h5).mono ?_; rintro e w8 ⟨yo, yc, rfl, h6, b6⟩; have b9 : Below W4.heap.size W4 w8 := q_trans b8 b6)
                | fail)
            all_goals
              have H6 := hid h6
              have B6 := hid (q_trans B4.out b9)
              clear h6 b6 b9 h5 b5 b8
              go_wp2_with fail
              refine bodyPost_ret (v := .tuple #[.slice yo (n - 1 + 1) yc, .int .i64 0]) (by simp [results, Try.results36, go_sem]) rfl ⟨yo, n - 1 + 1, yc, by rw [HE.out.1], by rw [HE.out.2, HBB.out]; exact H6.out, B6.out⟩
end Go.Proofs.Ytdaakigofpehjaa.Tr
