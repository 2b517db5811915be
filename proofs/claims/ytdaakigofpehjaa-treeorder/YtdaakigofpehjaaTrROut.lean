/- What the document's out does. -/
import Derived.Test.YtdaakigofpehjaaTrRPut
namespace Go.Proofs.Ytdaakigofpehjaa.Tr
open Go.RowKit

abbrev Tr0 (_ : World) : Prop := True
theorem del_len {t : List Br} {i : Nat} (h : i < t.length) : (del t i).length + 1 = t.length := by unfold del; simp; omega
set_option maxRecDepth 100000 in
set_option maxHeartbeats 2000000 in
theorem rout_any (ao : Option Addr) (n cap i : Nat) (t : List Br) (w : World) (hi : i < n) (hs : n ≤ 1000) (HH : Hid (HasB w ao n cap t)) :
    Calls Try.prog 55 #[.slice ao n cap, .int .i64 i] w fun e w' => ∃ xo xc, e = .returned (.slice xo (n - 1) xc) ∧ HasB w' xo (n - 1) xc (del t i) ∧ Below w.heap.size w w' := by
  have HN := hid HH.out.len
  have HC := hid HH.out.cap
  have rt := run_to ao i n cap (by have := HC.out; omega)
  obtain ⟨p, hp⟩ : ∃ p, p = i + 1 := ⟨_, rfl⟩
  have HPp := hid hp
  obtain ⟨ao2, hao2⟩ : ∃ x, (if cap = p then ao else ao.map (·.add (p * 4))) = x := ⟨_, rfl⟩
  have rf := run_from ao p n cap (by omega)
  have hd := HH.out.drop p (by omega)
  rw [hao2] at rf hd
  clear hao2 hp
  have rf2 : ∀ W : World, (Instr.slice 22 (.slice ao n cap) (some (.int .i64 ((i : Int) + 1))) none none).run Try.prog W = .ok (.slice ao2 (n - p) (cap - p)) W := fun W => by rw [show (i : Int) + 1 = (p : Int) by have := HPp.out; omega]; exact rf W
  have hi3 : (i : Int) ≤ 1000 := by omega
  have hi4 : (0 : Int) ≤ (i : Int) := by omega
  have hp3 : (p : Int) ≤ (n : Int) := by have := HPp.out; omega
  have hp4 : (0 : Int) ≤ (p : Int) := by omega
  go_enter Try.func55, Try.ntmps55
  go_wp2_with fail
  have HT := hid (HH.out.take i (by omega))
  have HD := hid hd
  have HZ : Hid (t.take i ++ t.drop p = del t i) := by unfold Hid; rw [HPp.out]; rfl
  have HLN : Hid (n - 1 = (del t i).length) := by have h1 := del_len (t := t) (i := i) (by have := HN.out; omega); have := HN.out; unfold Hid; omega
  have hS : Tr0 w := trivial
  have hwr : ((i : Int) + 1 + 9223372036854775808) % 18446744073709551616 - 9223372036854775808 = (p : Int) := by have := HPp.out; omega
  have hwk : IntKind.i64.wrap ((i : Int) + 1) = (p : Int) := by rw [IntKind.wrap_i64]; exact hwr
  clear hd
  go_region_held3 Tr0 (exact trivial)
    (first
      | (refine step_br _ (by rfl) (.tmp 5) (.tmp 8) (by rfl) w.heap.size (.slice (some ⟨w.heap.size, 0, none⟩) 0 0) 0 [] (by rfl) ((own0 w 55 4).drew) ao i cap (t.take i) (by rfl) HT.out.len HT.out.nil (HT.out.row.below ((alloc_below w _).drew)) i (by omega) (t.take i) (by rfl) (by omega) (by simp) ?_; intro ao1 cap1 w1 own1' grow1; have b1 := grow_below ((alloc_below w _).drew) grow1 (Nat.le_refl _))
      | (refine step_br _ (by rfl) (.tmp 9) (.tmp 13) (by rfl) w.heap.size _ _ _ (by rfl) own1' ao2 (n - p) (cap - p) (t.drop p) (by rfl) HD.out.len HD.out.nil (HD.out.row.below b1) (n - 1) (by have := HPp.out; omega) (del t i) HZ.out (by omega) b1.size ?_; intro ao3 cap3 w3 own3 grow3; have b3 := b1.grown grow3 b1.size (fun k e => (own1'.lt k e).1)))
  all_goals
    have H3 := hid (own_hasB own3 HLN.out)
    have B3 := hid b3
    clear own1' grow1 b1 own3 grow3 b3
    go_wp2_with fail
    go_ret
    exact ⟨ao3, cap3, rfl, H3.out, B3.out⟩
end Go.Proofs.Ytdaakigofpehjaa.Tr
