/- What the document's Below, Descends do. -/
import Derived.Test.YtdaakigofpehjaaTrRCnt
import Derived.Test.YtdaakigofpehjaaTrKeep
import Derived.Test.YtdaakigofpehjaaTrKSame
import Derived.Deep.RegionHeld3
namespace Go.Proofs.Ytdaakigofpehjaa.Tr
open Go.RowKit

set_option maxRecDepth 100000 in
set_option maxHeartbeats 2000000 in
theorem rbl_any (ao : Option Addr) (n cap : Nat) (t : List Br) (k : P) (w : World) (hs : n ≤ 1000) (HH : Hid (HasB w ao n cap t)) :
    Calls Try.prog 23 #[.slice ao n cap, (.agg #[.int .i64 k.1, .int .i64 k.2])] w fun e w' => ∃ xo xn xc, e = .returned (.slice xo xn xc) ∧ HasP w' xo xn xc (blL t k) ∧ Below w.heap.size w w' := by
  have HN := hid HH.out.len
  go_enter Try.func23, Try.ntmps23
  go_wp2_with fail
  have B0 := hid (alloc_below w (.cells #[.int .i64 k.1, .int .i64 k.2] 24))
  generalize w.alloc (.cells #[.int .i64 k.1, .int .i64 k.2] 24) = W0 at B0 ⊢
  refine (rfind_any ao n cap t k W0 (by omega) (HH.out.below B0.out)).mono ?_
  rintro e w1 ⟨rfl, b1⟩
  have B1 := hid (q_trans B0.out b1)
  clear b1 B0
  cases h3 : hasK t k with
  | false =>
    have HE : Hid (blL t k = []) := by unfold Hid blL; rw [has_no h3]
    clear h3
    go_wp2_with fail
    go_ret
    exact ⟨none, 0, 0, rfl, by rw [HE.out]; exact hasP_nil _, B1.out⟩
  | true =>
    obtain ⟨i, hi⟩ := has_fd h3
    have HF := hid hi
    have hin : i < n := by have := (fd_some.1 hi).1; have := HN.out; omega
    have HLB := hid (len_bl hi)
    have hcl := ct_in (fd_some.1 hi).1
    obtain ⟨c, hc⟩ : ∃ c, ct t i = c := ⟨_, rfl⟩
    have HC := hid hc
    have hic : i + c < n := by have := HN.out; omega
    rw [plc_of hi]
    clear h3 hi hcl hc
    go_wp2_with fail
    go_loopw [7, 8] (fun l x wr => ∃ (q : Nat) (lo : Option Addr) (lc : Nat), q ≤ c ∧ x = .int .i64 q ∧ l = .slice lo q lc ∧ Hid (MineP 24 wr w.heap.size lo q lc ((blL t k).take q)) ∧ Hid (Below w.heap.size w wr)) (fun _ x _ => c - (intOf x).toNat)
    case atStart => exact ⟨0, none, 0, Nat.zero_le _, rfl, rfl, mineP_nil _ _ _, B1⟩
    case round =>
      obtain ⟨q, lo, lc, hq, rfl, rfl, HM, HB⟩ := hrel
      clear B1
      go_wp2_with fail
      refine (rcnt_any ao n cap i t wr hin hs (HH.out.below HB.out)).mono ?_
      rintro e w2 ⟨rfl, b2⟩
      rw [HC.out]
      have HB2 := hid (q_trans HB.out b2)
      have HM2 := hid (HM.out.below b2)
      clear b2 HB HM
      by_cases hlt : q < c
      · have i1 : (q : Int) < (c : Int) := by omega
        obtain ⟨p, hp⟩ : ∃ p, p = i + 1 + q := ⟨_, rfl⟩
        have HPp := hid hp
        have hkp : (i : Int) + 1 + (q : Int) = (p : Int) := by omega
        have hp0 : (0 : Int) ≤ (p : Int) := by omega
        have hp1 : (p : Int) < (n : Int) := by omega
        have hpn : p < n := by omega
        have hi1 : (i : Int) ≤ 1000 := by omega
        have hq1 : (q : Int) ≤ 1000 := by omega
        have HG := hid (bl_get HF.out (n := q) (by have := HLB.out; have := HC.out; omega)).2
        have HTk := hid (xtake_snoc (blL t k) q (by have := HLB.out; have := HC.out; omega))
        obtain ⟨a, rfl, ca⟩ := (HH.out.below HB2.out).at p hpn
        obtain ⟨x, hx⟩ : ∃ x, (t.getD p zB).1 = x := ⟨_, rfl⟩
        have HX := hid hx
        obtain ⟨f0, f1, _, _⟩ := ca
        rw [hx] at f0 f1
        clear hx hp
        have HO := hid (HM2.out.2.alloc (.cells #[.int .i64 x.1, .int .i64 x.2] 24))
        have HRw := hid (one_pair w2 x 24)
        have HZ := hid (q_alloc HB2.out (.cells #[.int .i64 x.1, .int .i64 x.2] 24)).size
        go_wp2_with (at_builtin; go_loud (refine wpList_append_row _ rfl (.tmp 23) (.tmp 32) 41 24 _ 2 16 rfl Try.underlying41 infoK rfl (by decide) (by decide) w.heap.size _ q (prs ((blL t k).take q)) rfl HO.out _ 1 1 (prs [x]) rfl rfl (fun h => by cases h) HRw.out (prs_one _) (by omega) HZ.out ?_; intro ao3 cap3 w3 own3 grow3; apply Hid.out))
        have HMB : Hid (MineP 24 w3 w.heap.size ao3 (q + 1) cap3 ((blL t k).take (q + 1)) ∧ Below w.heap.size w w3) := by
          have h1 := MineP.append (HM2.out.below (alloc_below _ _)) HZ.out (k := [x]) rfl own3 grow3
          refine ⟨?_, (q_alloc HB2.out _).trans h1.2⟩
          rw [HTk.out, HG.out, ← HPp.out]
          show MineP _ _ _ _ _ _ (_ ++ [(t.getD p zB).1])
          rw [HX.out]
          exact h1.1
        clear own3 grow3 HO HRw HZ f0 f1
        unfold Hid
        go_wp2_with fail
        go_roundw
        case rel => exact ⟨q + 1, ao3, cap3, by omega, by go_num, rfl, HMB.out.1, HMB.out.2⟩
        case measure => simp [intOf]; omega
      · obtain rfl : q = c := by omega
        go_wp2_with fail
        go_ret
        refine ⟨lo, q, lc, rfl, ?_, HB2.out⟩
        have h := HM2.out.has
        rwa [List.take_of_length_le (by have := HLB.out; have := HC.out; omega)] at h
/-- Two keys' boxes. -/
abbrev SK (c : Nat) (x : P) (d : Nat) (y : P) (w : World) : Prop := w.cell? ⟨c, 0, none⟩ = some (.int .i64 x.1) ∧ w.cell? ⟨c, 1, none⟩ = some (.int .i64 x.2) ∧ w.cell? ⟨d, 0, none⟩ = some (.int .i64 y.1) ∧ w.cell? ⟨d, 1, none⟩ = some (.int .i64 y.2)
theorem sk_keep {c d : Nat} {x y : P} {w w' : World} (h : SK c x d y w) (q : Below w.heap.size w w') : SK c x d y w' :=
  ⟨(q.cell (World.block_lt_of_cell? w _ h.1)).trans h.1, (q.cell (World.block_lt_of_cell? w _ h.2.1)).trans h.2.1, (q.cell (World.block_lt_of_cell? w _ h.2.2.1)).trans h.2.2.1, (q.cell (World.block_lt_of_cell? w _ h.2.2.2)).trans h.2.2.2⟩
theorem sk_drew {c d : Nat} {x y : P} {w : World} (h : SK c x d y w) : SK c x d y w.drew := h
theorem sk_new (w : World) (x y : P) (t : TypeId) : SK w.heap.size x (w.heap.size + 1) y ((w.alloc (.cells #[.int .i64 x.1, .int .i64 x.2] t)).alloc (.cells #[.int .i64 y.1, .int .i64 y.2] t)) := by
  have h1 := (at_new w x t).below (alloc_below _ (.cells #[.int .i64 y.1, .int .i64 y.2] t))
  have h2 := at_new2 w x y t
  exact ⟨h1.c0, h1.c1, h2.c0, h2.c1⟩
set_option maxRecDepth 100000 in
set_option maxHeartbeats 2000000 in
theorem rds_any (ao : Option Addr) (n cap : Nat) (t : List Br) (a b : P) (w : World) (hs : n ≤ 1000) (HH : Hid (HasB w ao n cap t)) :
    Calls Try.prog 25 #[.slice ao n cap, (.agg #[.int .i64 a.1, .int .i64 a.2]), (.agg #[.int .i64 b.1, .int .i64 b.2])] w fun e w' => e = .returned (.bool (dsB t a b)) ∧ Below w.heap.size w w' := by
  have HR : Hid (hasB (blL t b) a = dsB t a b) := rfl
  have HL : Hid (∀ xo xn xc W, HasP W xo xn xc (blL t b) → xn ≤ 9223372036854775806) := fun xo xn xc W h => by
    have h1 := h.len
    have h2 := HH.out.len
    have h3 : (blL t b).length ≤ t.length := by
      unfold blL
      split
      · exact Nat.zero_le _
      · simp; omega
    omega
  go_enter Try.func25, Try.ntmps25
  go_wp2_with fail
  have B0 := hid (q_alloc (alloc_below w (.cells #[.int .i64 a.1, .int .i64 a.2] 24)) (.cells #[.int .i64 b.1, .int .i64 b.2] 24))
  have S0 := hid (sk_new w a b 24)
  generalize (w.alloc (.cells #[.int .i64 a.1, .int .i64 a.2] 24)).alloc (.cells #[.int .i64 b.1, .int .i64 b.2] 24) = W at B0 S0 ⊢
  have hS : SK w.heap.size a (w.heap.size + 1) b W := S0.out
  go_region_held3 (SK w.heap.size a (w.heap.size + 1) b) (first | with_reducible assumption | with_reducible exact sk_drew hS | with_reducible exact HS3.out | with_reducible exact sk_drew HS3.out | with_reducible exact HS4.out | with_reducible exact sk_drew HS4.out)
    (first
      | (go_at_call 23; refine (rbl_any ao n cap t b _ hs (by first | exact HH.out.below B0.out | exact HH.out.below B0.out.drew)).mono ?_; rintro e w3 ⟨xo, xn, xc, rfl, h3, b3⟩; have HX := hid h3; have B3 : Hid (Below W.heap.size W w3) := (by first | exact b3 | exact q_trans (Below.refl _ W).drew b3); have HS3 : Hid (SK w.heap.size a (w.heap.size + 1) b w3) := sk_keep hS B3.out; clear h3 b3)
      | (go_at_call 44; refine (rhas_any xo xn xc (blL t b) a _ (HL.out _ _ _ _ HX.out) (by first | exact HX | exact HX.out.below (Below.refl _ _).drew)).mono ?_; rintro e w4 ⟨rfl, b4⟩; have B4 : Hid (Below w.heap.size w w4) := (by first | exact q_trans (q_trans B0.out B3.out) b4 | exact q_trans (q_trans B0.out B3.out).drew b4); have HS4 : Hid (SK w.heap.size a (w.heap.size + 1) b w4) := (by first | exact sk_keep HS3.out b4 | exact sk_keep (sk_drew HS3.out) b4); clear b4)
      | fail)
  all_goals
    go_wp2_with fail
    go_ret
    exact ⟨ret_bool HR.out, by first | exact B4.out | exact B4.out.drew⟩
end Go.Proofs.Ytdaakigofpehjaa.Tr
