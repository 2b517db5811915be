/- What the document's Mark does. -/
import Derived.Test.YtdaakigofpehjaaTrROut
import Derived.Test.YtdaakigofpehjaaTrKeep
namespace Go.Proofs.Ytdaakigofpehjaa.Tr
open Go.RowKit

theorem ins_del {t : List Br} {i : Nat} {b : Br} (h : i < t.length) : t.set i b = ins (del t i) i b := by
  have hl : (t.take i).length = i := by simp; omega
  rw [set_cut h]
  have e1 : (del t i).take i = t.take i := by
    unfold del
    rw [List.take_append_of_le_length (by omega), List.take_take, Nat.min_self]
  have e2 : (del t i).drop i = t.drop (i + 1) := by
    unfold del
    rw [List.drop_append_of_le_length (by omega), List.drop_of_length_le (by omega), List.nil_append]
  unfold ins
  rw [e1, e2]
set_option maxRecDepth 100000 in
set_option maxHeartbeats 2000000 in
theorem rMark_any (ao : Option Addr) (n cap : Nat) (t : List Br) (k : P) (on : Bool) (w : World) (hs : n ≤ 1000) (HH : Hid (HasB w ao n cap t)) :
    Calls Try.prog 37 #[.slice ao n cap, (.agg #[.int .i64 k.1, .int .i64 k.2]), .bool on] w fun e w' => ∃ xo xn xc, e = .returned (.tuple #[.slice xo xn xc, .int .i64 (maE t k)]) ∧ HasB w' xo xn xc (maA t k on) ∧ Below w.heap.size w w' := by
  have HN := hid HH.out.len
  have HSame : Hid (∀ W : World, Below w.heap.size w W → maE t k ≠ 0 → HasB W ao n cap (maA t k on)) := fun W hW h => by
    have : maA t k on = t := by unfold maA; rw [if_neg h]
    rw [this]
    exact HH.out.below hW
  go_enter Try.func37, Try.ntmps37
  go_wp2_with fail
  have B0 := hid (alloc_below w (.cells #[.int .i64 k.1, .int .i64 k.2] 24))
  have K0 := hid (at_new w k 24)
  generalize w.alloc (.cells #[.int .i64 k.1, .int .i64 k.2] 24) = W0 at B0 K0 ⊢
  refine (rfind_any ao n cap t k W0 (by omega) (HH.out.below B0.out)).mono ?_
  rintro e w1 ⟨rfl, b1⟩
  have B1 := hid (q_trans B0.out b1)
  have K1 := hid (K0.out.below b1)
  clear b1 B0 K0
  go_wp2_with fail
  refine (ris_any ao n cap t w1 (HH.out.below B1.out)).mono ?_
  rintro e w2 ⟨rfl, b2⟩
  have B2 := hid (q_trans B1.out b2)
  have K2 := hid (K1.out.below b2)
  clear b2 B1 K1
  cases h1 : isB t with
  | false =>
    have HE : Hid (maE t k = 2) := by unfold Hid maE; rw [h1]; rfl
    clear h1
    go_wp2_with fail
    refine bodyPost_ret (v := .tuple #[.slice ao n cap, .int .i64 2]) (by simp [results, Try.results37, go_sem]) rfl ⟨ao, n, cap, by rw [HE.out], HSame.out _ B2.out (by rw [HE.out]; decide), B2.out⟩
  | true =>
    obtain ⟨k0, k1⟩ := K2.out
    go_wp2_with fail
    refine (ki_any k w2).mono ?_
    rintro e w3 ⟨rfl, b3⟩
    have B3 := hid (q_trans B2.out b3)
    have K3 := hid (K2.out.below b3)
    clear b3 B2 K2 k0 k1
    cases h2 : okK k with
    | false =>
      have HE : Hid (maE t k = 2) := by unfold Hid maE; rw [h1, h2]; rfl
      clear h1 h2
      go_wp2_with fail
      refine bodyPost_ret (v := .tuple #[.slice ao n cap, .int .i64 2]) (by simp [results, Try.results37, go_sem]) rfl ⟨ao, n, cap, by rw [HE.out], HSame.out _ B3.out (by rw [HE.out]; decide), B3.out⟩
    | true =>
      cases h3 : hasK t k with
      | false =>
        have HE : Hid (maE t k = 7) := by unfold Hid maE; rw [h1, h2, h3]; rfl
        clear h1 h2 h3
        go_wp2_with fail
        refine bodyPost_ret (v := .tuple #[.slice ao n cap, .int .i64 7]) (by simp [results, Try.results37, go_sem]) rfl ⟨ao, n, cap, by rw [HE.out], HSame.out _ B3.out (by rw [HE.out]; decide), B3.out⟩
      | true =>
        obtain ⟨i, hi⟩ := has_fd h3
        have hil := (fd_some.1 hi).1
        have hin : i < n := by have := HN.out; omega
        rw [plc_of hi]
        have HE : Hid (maE t k = 0 ∧ maA t k on = ins (del t i) i (k, D t i, on)) := by
          have e : maE t k = 0 := by unfold maE; rw [h1, h2, h3]; rfl
          refine ⟨e, ?_⟩
          unfold maA
          rw [if_pos e, plc_of hi, ins_del hil]
        obtain ⟨a, rfl, ca⟩ := (HH.out.below B3.out).at i hin
        have hK : (t.getD i zB).1 = k := (fd_some.1 hi).2.1
        obtain ⟨bb, hbb⟩ : ∃ b, t.getD i zB = b := ⟨_, rfl⟩
        have HBB := hid hbb
        rw [hbb] at ca hK
        clear hbb
        have i3 : (i : Int) < (n : Int) := by omega
        clear h1 h2 h3
        obtain ⟨c0, c1, c2, c3⟩ := ca
        go_wp2_with fail
        have HDx : Hid (D t i = bb.2.1) := by unfold Hid D; rw [HBB.out]
        have B4 := hid (q_alloc B3.out (.cells #[.int .i64 k.1, .int .i64 k.2, .int .i64 bb.2.1, .bool on] 55))
        have hS : SB w3.heap.size (k, bb.2.1, on) (w3.alloc (.cells #[.int .i64 k.1, .int .i64 k.2, .int .i64 bb.2.1, .bool on] 55)) := by
          have := atB_new w3 (k, bb.2.1, on) 55
          exact ⟨this.c0, this.c1, this.c2, this.c3⟩
        generalize w3.heap.size = cb at hS ⊢
        generalize w3.alloc (.cells #[.int .i64 k.1, .int .i64 k.2, .int .i64 bb.2.1, .bool on] 55) = W4 at B4 hS ⊢
        have HOu : Hid (∀ W : World, Below w.heap.size w W → Calls Try.prog 55 #[.slice (some a) n cap, .int .i64 i] W fun e w' => ∃ xo xc, e = .returned (.slice xo (n - 1) xc) ∧ HasB w' xo (n - 1) xc (del t i) ∧ Below W.heap.size W w') := fun W hW => rout_any (some a) n cap i t W hin hs (HH.out.below hW)
        have HPt : Hid (∀ (W : World) (xo : Option Addr) (xc : Nat), HasB W xo (n - 1) xc (del t i) → Calls Try.prog 54 #[.slice xo (n - 1) xc, .int .i64 i, .agg #[.int .i64 k.1, .int .i64 k.2, .int .i64 bb.2.1, .bool on]] W fun e w' => ∃ yo yc, e = .returned (.slice yo (n - 1 + 1) yc) ∧ HasB w' yo (n - 1 + 1) yc (ins (del t i) i (k, bb.2.1, on)) ∧ Below W.heap.size W w') := fun W xo xc hW => rput_any xo (n - 1) xc i (del t i) (k, bb.2.1, on) W (by omega) (by omega) hW
        clear c0 c1 c2 c3 hK hi hil i3
        go_region_held3 (SB cb (k, bb.2.1, on)) (first | with_reducible assumption | with_reducible exact sb_drew hS | exact sb_keep hS b9 | exact sb_keep hS b8 | go_keep)
          (first
            | (go_at_call 55; refine (HOu.out _ (by first | exact B4.out | exact B4.out.drew)).mono ?_; rintro e w5 ⟨xo, xc, rfl, h5, b5⟩; have b8 : Below W4.heap.size W4 w5 := (by first | exact b5 | exact q_trans (Below.refl _ W4).drew b5))
            | (go_at_call 54; refine (HPt.out _ _ _ h5).mono ?_; rintro e w6 ⟨yo, yc, rfl, h6, b6⟩; have b9 : Below W4.heap.size W4 w6 := q_trans b8 b6)
            | fail)
        all_goals
          have H6 := hid h6
          have B6 := hid (q_trans B4.out b9)
          clear h6 b6 b9 h5 b5 b8
          go_wp2_with fail
          refine bodyPost_ret (v := .tuple #[.slice yo (n - 1 + 1) yc, .int .i64 0]) (by simp [results, Try.results37, go_sem]) rfl ⟨yo, n - 1 + 1, yc, by rw [HE.out.1], by rw [HE.out.2, HDx.out]; exact H6.out, B6.out⟩
end Go.Proofs.Ytdaakigofpehjaa.Tr
