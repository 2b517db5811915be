/- TreeRuns. -/
import Derived.Test.YtdaakigofpehjaaTrLive
import Derived.Test.YtdaakigofpehjaaTrGrown
namespace Go.Proofs.Ytdaakigofpehjaa.Tr
open Go.RowKit

set_option maxHeartbeats 800000 in
theorem runs_long (ao : Option Addr) (n cap : Nat) (w : World) (h : 60 < n) :
    Calls Try.prog 5 #[.slice ao n cap] w fun e w' => e = .returned (.bool true) ∧ Below w.heap.size w w' := by
  have i1 : (n : Int) > 60 := by omega
  clear h
  go_enter Try.func5, Try.ntmps5
  go_wp2_with (go_at_call 9; refine (live_any _).mono ?_; rintro e w2 ⟨rfl, b⟩)
  go_ret
  exact ⟨rfl, b⟩
set_option maxRecDepth 100000 in
set_option maxHeartbeats 4000000 in
theorem runs_in (ao : Option Addr) (n cap : Nat) (l : List Ac) (w : World) (hn : n ≤ 60) (HH : Hid (HasC w ao n cap l)) :
    Calls Try.prog 5 #[.slice ao n cap] w fun e w' => e = .returned (.bool true) ∧ Below w.heap.size w w' := by
  have HN := hid HH.out.len
  have j1 : ¬ (n : Int) > 60 := by omega
  go_enter Try.func5, Try.ntmps5
  go_wp2_with fail
  go_loopw [3, 4, 5] (fun s r i wr => ∃ (q : Nat) (to : Option Addr) (tn tc : Nat) (uo : Option Addr) (un uc : Nat), q ≤ n ∧ i = .int .i64 q ∧ s = .slice to tn tc ∧ r = .slice uo un uc ∧ Hid (HasB wr to tn tc (gr (l.take q))) ∧ Hid (HasB wr uo un uc (gr (l.take q))) ∧ Hid (Below w.heap.size w wr)) (fun _ _ i _ => n - (intOf i).toNat)
  case atStart => exact ⟨0, none, 0, 0, none, 0, 0, Nat.zero_le _, rfl, rfl, rfl, by rw [List.take_zero]; exact hasB_nil _, by rw [List.take_zero]; exact hasB_nil _, Below.refl _ _⟩
  case round =>
    obtain ⟨q, to, tn, tc, uo, un, uc, hq, rfl, rfl, rfl, HT, HU, HB⟩ := hrel
    by_cases hlt : q < n
    · have i1 : (0 : Int) ≤ (q : Int) := by omega
      have i2 : (q : Int) < (n : Int) := by omega
      obtain ⟨a, rfl, ca⟩ := (HH.out.below HB.out).at q hlt
      obtain ⟨z, hz⟩ : ∃ z, l.getD q zA = z := ⟨_, rfl⟩
      have HZ : Hid (gr (l.take (q + 1)) = doA (gr (l.take q)) z) := by unfold Hid; rw [ctake_snoc l q (by have := HN.out; omega), gr_snoc, hz]
      rw [hz] at ca
      have HCA := hid ca
      clear hz
      obtain ⟨c0, c1, c2, c3, c4, c5⟩ := ca
      have hl : tn ≤ 1000 := by have h1 := HT.out.len; have h2 := gr_len (l.take q); omega
      have hl2 : un ≤ 1000 := by have h1 := HU.out.len; have h2 := gr_len (l.take q); omega
      go_wp2_with fail
      refine (does_any to tn tc _ z wr hl HT).mono ?_
      rintro e w2 ⟨xo, xn, xc, rfl, h2, b2⟩
      have X2 := hid h2
      have B2 := hid (q_trans HB.out b2)
      have U2 := hid (HU.out.below b2)
      have C2 := hid (HCA.out.1.trans rfl)
      have A2 : Hid (AtC w2 (a.add (q * 6)) z) := by
        have h := HCA.out
        have hlt := World.block_lt_of_cell? wr _ h.c0
        exact ⟨(b2.cell hlt).trans h.c0, (b2.cell (p := ⟨(a.add (q * 6)).block, (a.add (q * 6)).off + 1, none⟩) hlt).trans h.c1, (b2.cell (p := ⟨(a.add (q * 6)).block, (a.add (q * 6)).off + 2, none⟩) hlt).trans h.c2, (b2.cell (p := ⟨(a.add (q * 6)).block, (a.add (q * 6)).off + 3, none⟩) hlt).trans h.c3, (b2.cell (p := ⟨(a.add (q * 6)).block, (a.add (q * 6)).off + 4, none⟩) hlt).trans h.c4, (b2.cell (p := ⟨(a.add (q * 6)).block, (a.add (q * 6)).off + 5, none⟩) hlt).trans h.c5⟩
      clear h2 b2 c0 c1 c2 c3 c4 c5 C2 HCA HT HU HB
      obtain ⟨c0, c1, c2, c3, c4, c5⟩ := A2.out
      go_wp2_with fail
      refine (model_any uo un uc _ z w2 hl2 U2).mono ?_
      rintro e w3 ⟨yo, yn, yc, rfl, h3, b3⟩
      have Y3 := hid h3
      have X3 := hid (X2.out.below b3)
      have B3 := hid (q_trans B2.out b3)
      clear h3 b3 c0 c1 c2 c3 c4 c5 A2 B2 U2 X2
      have HTr : Hid (Tree (doA (gr (l.take q)) z)) := do_tree (gr_tree _) z
      have hxl : xn ≤ 1000 := by have h1 := X3.out.len; have h2 := HTr.out.len; omega
      generalize doE (gr (l.take q)) z = de
      have hde : (de != de) = false := by simp
      go_wp2_with fail
      refine (bsame_yes (by omega) X3.out Y3.out).mono ?_
      rintro e w4 ⟨rfl, b4⟩
      have X4 := hid (X3.out.below b4)
      have Y4 := hid (Y3.out.below b4)
      have B4 := hid (q_trans B3.out b4)
      clear b4 X3 Y3 B3
      go_wp2_with fail
      refine (ck_at 0 X4.out (ck_yes HTr.out)).mono ?_
      rintro e w5 ⟨rfl, b5⟩
      have X5 := hid (X4.out.below b5)
      have Y5 := hid (Y4.out.below b5)
      have B5 := hid (q_trans B4.out b5)
      clear b5 X4 Y4 B4
      go_wp2_with (go_at_call 13; refine (num_any _ _).mono ?_; rintro e wq ⟨rfl, hq⟩; rw [hq]; clear hq wq)
      go_roundw
      case rel => exact ⟨q + 1, xo, xn, xc, yo, yn, yc, by omega, by go_num, rfl, rfl, by rw [HZ.out]; exact X5, by rw [HZ.out]; exact Y5, B5⟩
      case measure => simp [intOf]; omega
    · obtain rfl : q = n := by omega
      go_wp2_with (go_at_call 9; refine (live_any _).mono ?_; rintro e w2 ⟨rfl, b⟩)
      go_ret
      exact ⟨rfl, q_trans HB.out b⟩
/-- TREERUNS. -/
theorem runs_any (ao : Option Addr) (n cap : Nat) (l : List Ac) (w : World) (HH : HasC w ao n cap l) :
    Calls Try.prog 5 #[.slice ao n cap] w fun e w' => e = .returned (.bool true) ∧ Below w.heap.size w w' := by
  rcases Nat.lt_or_ge 60 n with q | q
  · exact runs_long ao n cap w q
  · exact runs_in ao n cap l w q HH
end Go.Proofs.Ytdaakigofpehjaa.Tr
