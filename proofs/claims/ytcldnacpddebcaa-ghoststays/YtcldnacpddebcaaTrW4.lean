/- What the program's with, without do. -/
import Derived.Test.YtcldnacpddebcaaTrW3
import Derived.Test.YtcldnacpddebcaaTrApp
import Derived.Test.YtcldnacpddebcaaTrROut
namespace Go.Proofs.Ytcldnacpddebcaa.Tr
open Go.RowKit

theorem run_to3 (ao : Option Addr) (k n cap : Nat) (hk : k ≤ cap) (W : World) :
    (Instr.slice 51 (.slice ao n cap) none (some (.int .i64 k)) (some (.int .i64 k))).run Try.prog W = .ok (.slice ao k k) W := by
  have hb := fun code => run_sliceBound (P := Try.prog) (w := W) .i64 (k : Int) cap code (by omega) (by omega)
  have hb2 := fun code => run_sliceBound (P := Try.prog) (w := W) .i64 (k : Int) k code (by omega) (by omega)
  have ha : ao.map (fun a => a.add 0) = ao := by cases ao <;> simp [Addr.add]
  simp [Instr.slice, Instr.sliceBounds, run_underlying Try.underlying51, hb, hb2, Try.sizeOf79, ha]
set_option maxRecDepth 100000 in
set_option maxHeartbeats 2000000 in
theorem with_any (ao : Option Addr) (n cap i : Nat) (t : List Br) (b : Br) (w : World) (hi : i ≤ n) (hs : n ≤ 1000) (HH : Hid (HasB w ao n cap t)) :
    Calls Try.prog 51 #[.slice ao n cap, .int .i64 i, (.agg #[.int .i64 b.1.1, .int .i64 b.1.2, .int .i64 b.2.1, .bool b.2.2])] w fun e w' => ∃ xo xc, e = .returned (.slice xo (n + 1) xc) ∧ HasB w' xo (n + 1) xc (ins t i b) ∧ Below w.heap.size w w' := by
  have HN := hid HH.out.len
  have HC := hid HH.out.cap
  have rt := run_to3 ao i n cap (by have := HC.out; omega)
  obtain ⟨ao2, hao2⟩ : ∃ x, (if cap = i then ao else ao.map (·.add (i * 4))) = x := ⟨_, rfl⟩
  have rf := run_from ao i n cap hi
  have hd := HH.out.drop i hi
  rw [hao2] at rf hd
  clear hao2
  go_enter Try.func51, Try.ntmps51
  go_wp2_with fail
  have HBW := hid (alloc_below w (.cells #[.int .i64 b.1.1, .int .i64 b.1.2, .int .i64 b.2.1, .bool b.2.2] 79))
  have HBX : Hid (SB w.heap.size b (w.alloc (.cells #[.int .i64 b.1.1, .int .i64 b.1.2, .int .i64 b.2.1, .bool b.2.2] 79))) := by
    have := atB_new w b 79
    exact ⟨this.c0, this.c1, this.c2, this.c3⟩
  generalize w.alloc (.cells #[.int .i64 b.1.1, .int .i64 b.1.2, .int .i64 b.2.1, .bool b.2.2] 79) = W at HBW HBX ⊢
  have HT := hid ((HH.out.take i hi).below HBW.out)
  have HD := hid (hd.below HBW.out)
  have HZ : Hid ((t.take i ++ [b]) ++ t.drop i = ins t i b) := by unfold Hid ins; simp
  have HLN : Hid (n + 1 = (ins t i b).length) := by unfold Hid; rw [ins_len, HN.out]
  have hS : SB w.heap.size b W := HBX.out
  clear hd
  go_region_held3 (SB w.heap.size b) (first | with_reducible assumption | with_reducible exact sb_drew hS | with_reducible exact sb_alloc hS _ | with_reducible exact sb_drew (sb_alloc hS _) | with_reducible exact sb_alloc (sb_drew hS) _ | with_reducible exact HS1.out | with_reducible exact sb_drew HS1.out | with_reducible exact HS3.out | with_reducible exact sb_drew HS3.out)
    (first
      | (refine step_full _ (by rfl) (.tmp 10) (.tmp 12) (by rfl) ao i (t.take i) (by rfl) HT.out.len (by first | exact HT.out.row.below (alloc_below W _) | exact HT.out.row.below (alloc_below W _).drew) (some ⟨W.heap.size, 0, none⟩) 1 1 [b] (by rfl) (by rfl) (by omega) (by first | exact one_branch W b 79 | exact (one_branch W b 79).below (Below.refl _ _).drew) (i + 1) (by rfl) (t.take i ++ [b]) (by rfl) (by omega) ?_; intro ao1 cap1 w1 own1' b1'; have b1 : Below W.heap.size W w1 := (by first | exact q_trans (alloc_below W _) b1' | exact q_trans (alloc_below W _).drew b1'); have own1 : w1.ownsRow W.heap.size 79 4 (.slice ao1 (i + 1) cap1) (i + 1) (brs (t.take i ++ [b])) := own_base own1' (fun k e => Nat.le_trans (by simp) (own1'.lt k e).1); have HS1 : Hid (SB w.heap.size b w1) := sb_keep hS b1; clear own1' b1')
      | (refine step_br _ (by rfl) (.tmp 13) (.tmp 16) (by rfl) W.heap.size _ _ _ (by rfl) own1 ao2 (n - i) (cap - i) (t.drop i) (by rfl) HD.out.len HD.out.nil (HD.out.row.below b1) (n + 1) (by omega) (ins t i b) HZ.out (by omega) b1.size ?_; intro ao3 cap3 w3 own3 grow3; have b3 := b1.grown grow3 b1.size (fun k e => (own1.lt k e).1); have HS3 : Hid (SB w.heap.size b w3) := sb_keep hS b3))
  all_goals
    have H3 := hid (own_hasB own3 HLN.out)
    have B3 := hid (q_trans HBW.out b3)
    clear own1 b1 own3 grow3 b3
    go_wp2_with fail
    go_ret
    exact ⟨ao3, cap3, rfl, H3.out, B3.out⟩
set_option maxRecDepth 100000 in
set_option maxHeartbeats 2000000 in
theorem without_one (ao : Option Addr) (cap i : Nat) (t : List Br) (w : World) (hi0 : i = 0) (HH : Hid (HasB w ao 1 cap t)) :
    Calls Try.prog 54 #[.slice ao 1 cap, .int .i64 (i : Nat)] w fun e w' => e = .returned (.slice ao 0 0) ∧ HasB w' ao 0 0 (del t 0) ∧ Below w.heap.size w w' := by
  have HN := hid HH.out.len
  have HC := hid HH.out.cap
  have rt := run_to ao 0 1 cap (by omega)
  have rt3 := run_to3 ao 0 1 cap (by omega)
  obtain ⟨p, hp⟩ : ∃ p, p = i + 1 := ⟨_, rfl⟩
  obtain ⟨ao2, hao2⟩ : ∃ x, (if cap = 1 then ao else ao.map (·.add (1 * 4))) = x := ⟨_, rfl⟩
  have rf := run_from ao 1 1 cap (by omega)
  rw [hao2] at rf
  clear hao2
  have rf1 : ∀ W : World, (Instr.slice 51 (.slice ao 1 cap) (some (.int .i64 (p : Int))) none none).run Try.prog W = .ok (.slice ao2 0 (cap - 1)) W := fun W => by
    have e : p = 1 := by omega
    rw [e]
    exact rf W
  have rt1 : ∀ W : World, (Instr.slice 51 (.slice ao 1 cap) none (some (.int .i64 (i : Int))) none).run Try.prog W = .ok (.slice ao 0 cap) W := fun W => by
    rw [hi0]
    exact rt W
  have hi3 : (i : Int) ≤ 1000 := by omega
  have hi4 : (0 : Int) ≤ (i : Int) := by omega
  have hwr : ((i : Int) + 1 + 9223372036854775808) % 18446744073709551616 - 9223372036854775808 = (p : Int) := by omega
  have hwk : IntKind.i64.wrap ((i : Int) + 1) = (p : Int) := by rw [IntKind.wrap_i64]; exact hwr
  clear rf rt hp hi0
  have HZ : Hid (del t 0 = []) := by
    have h1 := HN.out
    unfold Hid del
    match t, h1 with
    | [x], _ => rfl
  go_enter Try.func54, Try.ntmps54
  go_wp2_with fail
  have hS : Tr0 w := trivial
  go_region_held3 Tr0 (exact trivial)
    (first
      | (refine step_none _ (by rfl) (.tmp 6) (.tmp 9) (by rfl) ao 0 0 (by rfl) (Nat.le_refl _) ao cap (by rfl) ?_)
      | (refine step_none _ (by rfl) (.tmp 10) (.tmp 14) (by rfl) ao 0 0 (by rfl) (Nat.le_refl _) ao2 (cap - 1) (by rfl) ?_))
  all_goals
    go_wp2_with fail
    go_ret
    exact ⟨rfl, by rw [HZ.out]; exact ⟨rfl, fun _ => rfl, Nat.le_refl _, row_nil _ _⟩, by first | exact Below.refl _ _ | exact (Below.refl _ _).drew⟩
set_option maxRecDepth 100000 in
set_option maxHeartbeats 2000000 in
theorem without_fst (ao : Option Addr) (n cap i : Nat) (t : List Br) (w : World) (hi0 : i = 0) (hn : 1 < n) (hs : n ≤ 1000) (HH : Hid (HasB w ao n cap t)) :
    Calls Try.prog 54 #[.slice ao n cap, .int .i64 (i : Nat)] w fun e w' => ∃ xo xc, e = .returned (.slice xo (n - 1) xc) ∧ HasB w' xo (n - 1) xc (del t 0) ∧ Below w.heap.size w w' := by
  have HN := hid HH.out.len
  have HC := hid HH.out.cap
  have rt := run_to ao 0 n cap (by omega)
  have rt3 := run_to3 ao 0 n cap (by omega)
  obtain ⟨p, hp⟩ : ∃ p, p = i + 1 := ⟨_, rfl⟩
  obtain ⟨ao2, hao2⟩ : ∃ x, (if cap = 1 then ao else ao.map (·.add (1 * 4))) = x := ⟨_, rfl⟩
  have rf := run_from ao 1 n cap (by omega)
  have hd := HH.out.drop 1 (by omega)
  rw [hao2] at rf hd
  clear hao2
  have rf1 : ∀ W : World, (Instr.slice 51 (.slice ao n cap) (some (.int .i64 (p : Int))) none none).run Try.prog W = .ok (.slice ao2 (n - 1) (cap - 1)) W := fun W => by
    have e : p = 1 := by omega
    rw [e]
    exact rf W
  have rt1 : ∀ W : World, (Instr.slice 51 (.slice ao n cap) none (some (.int .i64 (i : Int))) none).run Try.prog W = .ok (.slice ao 0 cap) W := fun W => by
    rw [hi0]
    exact rt W
  have hi3 : (i : Int) ≤ 1000 := by omega
  have hi4 : (0 : Int) ≤ (i : Int) := by omega
  have hwr : ((i : Int) + 1 + 9223372036854775808) % 18446744073709551616 - 9223372036854775808 = (p : Int) := by omega
  have hwk : IntKind.i64.wrap ((i : Int) + 1) = (p : Int) := by rw [IntKind.wrap_i64]; exact hwr
  clear rf rt hp hi0
  have HD := hid hd
  clear hd
  have HZ : Hid (([] : List Br) ++ t.drop 1 = del t 0) := by unfold Hid del; simp
  have HLN : Hid (n - 1 = (del t 0).length) := by have h1 := del_len (t := t) (i := 0) (by have := HN.out; omega); have := HN.out; unfold Hid; omega
  go_enter Try.func54, Try.ntmps54
  go_wp2_with fail
  have hS : Tr0 w := trivial
  go_region_held3 Tr0 (exact trivial)
    (first
      | (refine step_none _ (by rfl) (.tmp 6) (.tmp 9) (by rfl) ao 0 0 (by rfl) (Nat.le_refl _) ao cap (by rfl) ?_)
      | (refine step_full _ (by rfl) (.tmp 10) (.tmp 14) (by rfl) ao 0 [] (by rfl) (by rfl) (row_nil _ _) ao2 (n - 1) (cap - 1) (t.drop 1) (by rfl) HD.out.len (by omega) (by first | exact HD.out.row | exact HD.out.row.below (Below.refl _ _).drew) (n - 1) (by omega) (del t 0) HZ.out (by omega) ?_; intro ao3 cap3 w3 own3 b3'; have b3 : Below w.heap.size w w3 := (by first | exact b3' | exact q_trans (Below.refl _ _).drew b3'); clear b3'))
  all_goals
    have H3 := hid (own_hasB own3 HLN.out)
    have B3 := hid b3
    clear own3 b3
    go_wp2_with fail
    go_ret
    exact ⟨ao3, cap3, rfl, H3.out, B3.out⟩
set_option maxRecDepth 100000 in
set_option maxHeartbeats 2000000 in
theorem without_in (ao : Option Addr) (n cap i : Nat) (t : List Br) (w : World) (h0 : 0 < i) (hi : i < n) (hs : n ≤ 1000) (HH : Hid (HasB w ao n cap t)) :
    Calls Try.prog 54 #[.slice ao n cap, .int .i64 i] w fun e w' => ∃ xo xc, e = .returned (.slice xo (n - 1) xc) ∧ HasB w' xo (n - 1) xc (del t i) ∧ Below w.heap.size w w' := by
  have HN := hid HH.out.len
  have HC := hid HH.out.cap
  have rt := run_to ao i n cap (by have := HC.out; omega)
  have rt3 := run_to3 ao 0 n cap (by omega)
  obtain ⟨p, hp⟩ : ∃ p, p = i + 1 := ⟨_, rfl⟩
  have HPp := hid hp
  obtain ⟨ao2, hao2⟩ : ∃ x, (if cap = p then ao else ao.map (·.add (p * 4))) = x := ⟨_, rfl⟩
  have rf := run_from ao p n cap (by omega)
  have hd := HH.out.drop p (by omega)
  rw [hao2] at rf hd
  clear hao2 hp
  have hi3 : (i : Int) ≤ 1000 := by omega
  have hi4 : (0 : Int) ≤ (i : Int) := by omega
  have hp3 : (p : Int) ≤ (n : Int) := by have := HPp.out; omega
  have hp4 : (0 : Int) ≤ (p : Int) := by omega
  go_enter Try.func54, Try.ntmps54
  go_wp2_with fail
  have HT := hid (HH.out.take i (by omega))
  have HD := hid hd
  have HZ : Hid (t.take i ++ t.drop p = del t i) := by unfold Hid; rw [HPp.out]; rfl
  have HLN : Hid (n - 1 = (del t i).length) := by have h1 := del_len (t := t) (i := i) (by have := HN.out; omega); have := HN.out; unfold Hid; omega
  have hS : Tr0 w := trivial
  have hwr : ((i : Int) + 1 + 9223372036854775808) % 18446744073709551616 - 9223372036854775808 = (p : Int) := by have := HPp.out; omega
  have hwk : IntKind.i64.wrap ((i : Int) + 1) = (p : Int) := by rw [IntKind.wrap_i64]; exact hwr
  clear hd
  go_region_held3 Tr0 (exact trivial)
    (first
      | (refine step_full _ (by rfl) (.tmp 6) (.tmp 9) (by rfl) ao 0 [] (by rfl) (by rfl) (row_nil _ _) ao i cap (t.take i) (by rfl) HT.out.len h0 (by first | exact HT.out.row | exact HT.out.row.below (Below.refl _ _).drew) i (by omega) (t.take i) (by rfl) (by omega) ?_; intro ao1 cap1 w1 own1' b1'; have b1 : Below w.heap.size w w1 := (by first | exact b1' | exact q_trans (Below.refl _ _).drew b1'); have own1 : w1.ownsRow w.heap.size 79 4 (.slice ao1 i cap1) i (brs (t.take i)) := own_base own1' (fun k e => Nat.le_trans (by simp) (own1'.lt k e).1); clear own1' b1')
      | (refine step_br _ (by rfl) (.tmp 10) (.tmp 14) (by rfl) w.heap.size _ _ _ (by rfl) own1 ao2 (n - p) (cap - p) (t.drop p) (by rfl) HD.out.len HD.out.nil (HD.out.row.below b1) (n - 1) (by have := HPp.out; omega) (del t i) HZ.out (by omega) b1.size ?_; intro ao3 cap3 w3 own3 grow3; have b3 := b1.grown grow3 b1.size (fun k e => (own1.lt k e).1)))
  all_goals
    have H3 := hid (own_hasB own3 HLN.out)
    have B3 := hid b3
    clear own1 b1 own3 grow3 b3
    go_wp2_with fail
    go_ret
    exact ⟨ao3, cap3, rfl, H3.out, B3.out⟩
/-- WITHOUT ONE. -/
theorem without_any (ao : Option Addr) (n cap i : Nat) (t : List Br) (w : World) (hi : i < n) (hs : n ≤ 1000) (HH : Hid (HasB w ao n cap t)) :
    Calls Try.prog 54 #[.slice ao n cap, .int .i64 i] w fun e w' => ∃ xo xc, e = .returned (.slice xo (n - 1) xc) ∧ HasB w' xo (n - 1) xc (del t i) ∧ Below w.heap.size w w' := by
  rcases Nat.eq_zero_or_pos i with h | h
  · rw [show del t i = del t 0 by rw [h]]
    rcases Nat.lt_or_ge 1 n with q | q
    · exact without_fst ao n cap i t w h q hs HH
    · obtain rfl : n = 1 := by omega
      refine (without_one ao cap i t w h HH).mono ?_
      rintro e w' ⟨rfl, h1, h2⟩
      exact ⟨ao, 0, rfl, h1, h2⟩
  · exact without_in ao n cap i t w h hi hs HH
end Go.Proofs.Ytcldnacpddebcaa.Tr
