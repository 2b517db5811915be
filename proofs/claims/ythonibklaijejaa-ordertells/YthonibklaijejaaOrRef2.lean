/- What the document's Sort and Merge do. -/
import Derived.Test.YthonibklaijejaaOrIns
import Derived.Test.YthonibklaijejaaOrSorts
namespace Go.Proofs.Ythonibklaijejaa.Or
open Go.RowKit

theorem srt_take (l : List K) (k : Nat) (h : k < l.length) : srt (l.take (k + 1)) = ins (srt (l.take k)) (l.getD k (0, 0)) := by rw [take_snoc l k h, srt_snoc]
theorem srt_take2 (m l : List K) (k : Nat) (h : k < l.length) : srt (m ++ l.take (k + 1)) = ins (srt (m ++ l.take k)) (l.getD k (0, 0)) := by rw [take_snoc l k h, ← List.append_assoc, srt_snoc]
theorem len_take (l : List K) (k : Nat) : (srt (l.take k)).length ≤ k := by have := len_srt (l.take k); simp at this; omega

set_option maxRecDepth 100000 in
set_option maxHeartbeats 1000000 in
theorem rsort_any (ao : Option Addr) (n cap : Nat) (l : List K) (w : World) (hs : n ≤ 1000) (HH : Hid (Has w ao n cap l)) :
    Calls Try.prog 20 #[.slice ao n cap] w fun e w' => ∃ ao' cap', e = .returned (.tuple #[.slice ao' (srtL l).length cap', .int .i64 (srtE l)]) ∧ Has w' ao' (srtL l).length cap' (srtL l) ∧ Below w.heap.size w w' := by
  go_enter Try.func20, Try.ntmps20
  go_wp2
  go_loopw [4, 5] (fun s i wr => ∃ (k mo dd : Nat) (xo : Option Addr), k ≤ n ∧ i = .int .i64 k ∧ s = .slice xo mo dd ∧ mo ≤ k ∧ Hid (Has wr xo mo dd (srt (l.take k))) ∧ Hid (∀ j, j < k → okK (l.getD j (0, 0)) = true) ∧ Hid (Below w.heap.size w wr)) (fun _ i _ => n - (intOf i).toNat)
  case atStart => exact ⟨0, 0, 0, none, Nat.zero_le _, rfl, rfl, Nat.le_refl _, by simp only [List.take_zero]; exact ⟨rfl, fun _ => rfl, Nat.le_refl _, row_nil _ _⟩, fun j hj => absurd hj (by omega), Below.refl _ _⟩
  case round =>
    obtain ⟨k, mo, dd, xo, hk, rfl, rfl, hmo, HO, HA, HB⟩ := hrel
    by_cases hlt : k < n
    · have i1 : (0 : Int) ≤ (k : Int) := by omega
      have i2 : (k : Int) < (n : Int) := by omega
      obtain ⟨a, rfl, ca⟩ := atK_of (HH.out.row.below HB.out) k (by have := HH.out.len; omega)
      obtain ⟨x, hx⟩ : ∃ x, l.getD k (0, 0) = x := ⟨_, rfl⟩
      rw [hx] at ca
      have HX := hid hx
      clear hx
      obtain ⟨c0, c1⟩ := ca
      cases hok : okK x with
      | true =>
        have hc := fun W => ris_is hok W
        have HOK := hid hok
        clear hok
        go_wp2_with fail
        refine (hc _).mono ?_
        rintro e w1 ⟨rfl, b1⟩
        have HB1 := hid (q_trans HB.out b1)
        have c0' := (b1.cell (World.block_lt_of_cell? wr _ c0)).trans c0
        have c1' := (b1.cell (World.block_lt_of_cell? wr _ c1)).trans c1
        have HO1 := hid (HO.out.below b1)
        clear b1 hc c0 c1 HO
        have HI := hid (insert_any xo mo dd _ x w1 (by omega) HO1)
        have HSN := hid (srt_take l k (by have := HH.out.len; omega))
        go_wp2_with fail
        refine HI.out.mono ?_
        rintro e w2 ⟨ao2, cap2, rfl, hh, b2⟩
        have HH2 : Hid (Has w2 ao2 (srt (l.take (k + 1))).length cap2 (srt (l.take (k + 1)))) := by rw [HSN.out, HX.out]; exact hh
        have HL2 : Hid ((ins (srt (l.take k)) x).length = (srt (l.take (k + 1))).length) := by rw [HSN.out, HX.out]; exact rfl
        have HB2 := hid (q_trans HB1.out b2)
        clear hh b2 HI c0' c1'
        rw [HL2.out]
        go_wp2_with fail
        go_roundw
        case rel =>
          refine ⟨k + 1, _, cap2, ao2, by omega, by go_num, rfl, len_take l (k + 1), HH2, fun j hj => ?_, HB2⟩
          by_cases e : j = k
          · subst e
            rw [HX.out]
            exact HOK.out
          · exact HA.out j (by omega)
        case measure => simp [intOf]; omega
      | false =>
        have hc := fun W => ris_is hok W
        have HN := hid (all_no (l := l) (k := k) (by have := HH.out.len; omega) (by rw [HX.out]; exact hok))
        clear hok
        go_wp2_with fail
        refine (hc _).mono ?_
        rintro e w1 ⟨rfl, b1⟩
        have HB1 := hid (q_trans HB.out b1)
        clear b1 hc c0 c1
        go_wp2
        have e1 : srtL l = [] := by simp [srtL, HN.out]
        have e2 : srtE l = 2 := by simp [srtE, HN.out]
        go_ret2
        exact ⟨none, 0, by rw [e1, e2]; rfl, by rw [e1]; exact ⟨rfl, fun _ => rfl, Nat.le_refl _, row_nil _ _⟩, HB1.out⟩
    · have HT : Hid (l.take k = l) := List.take_of_length_le (by have := HH.out.len; omega)
      have HY := hid (all_yes (l := l) (fun j hj => HA.out j (by have := HH.out.len; omega)))
      have E1 : Hid (srtL l = srt l) := by simp [Hid, srtL, HY.out]
      have E2 : Hid (srtE l = 0) := by simp [Hid, srtE, HY.out]
      have HL : Hid (mo = (srt l).length) := by have := HO.out.len; rwa [HT.out] at this
      go_wp2
      go_ret2
      refine ⟨xo, dd, by rw [E1.out, E2.out, ← HL.out]; rfl, ?_, HB.out⟩
      rw [E1.out, ← HL.out]
      have h := HO.out
      rwa [HT.out] at h
set_option maxRecDepth 100000 in
set_option maxHeartbeats 1000000 in
theorem rmerge_any (aa ab : Option Addr) (na nb ca cb : Nat) (la lb : List K) (w : World) (hna : na ≤ 400) (hnb : nb ≤ 400) (HA : Hid (Has w aa na ca la)) (HB : Hid (Has w ab nb cb lb)) :
    Calls Try.prog 27 #[.slice aa na ca, .slice ab nb cb] w fun e w' => ∃ ao' cap', e = .returned (.slice ao' (srt (la ++ lb)).length cap') ∧ Has w' ao' (srt (la ++ lb)).length cap' (srt (la ++ lb)) ∧ Below w.heap.size w w' := by
  go_enter Try.func27, Try.ntmps27
  go_wp2
  go_loopw [5, 6] (fun s i wr => ∃ (k mo dd : Nat) (xo : Option Addr), k ≤ na ∧ i = .int .i64 k ∧ s = .slice xo mo dd ∧ mo ≤ k ∧ Hid (Has wr xo mo dd (srt (la.take k))) ∧ Hid (Below w.heap.size w wr)) (fun _ i _ => na - (intOf i).toNat)
  case atStart => exact ⟨0, 0, 0, none, Nat.zero_le _, rfl, rfl, Nat.le_refl _, by simp only [List.take_zero]; exact ⟨rfl, fun _ => rfl, Nat.le_refl _, row_nil _ _⟩, Below.refl _ _⟩
  case round =>
    obtain ⟨k, mo, dd, xo, hk, rfl, rfl, hmo, HO, HL⟩ := hrel
    by_cases hlt : k < na
    · have i1 : (0 : Int) ≤ (k : Int) := by omega
      have i2 : (k : Int) < (na : Int) := by omega
      obtain ⟨a, rfl, cc⟩ := atK_of (HA.out.row.below HL.out) k (by have := HA.out.len; omega)
      obtain ⟨x, hx⟩ : ∃ x, la.getD k (0, 0) = x := ⟨_, rfl⟩
      rw [hx] at cc
      have HX := hid hx
      clear hx
      obtain ⟨c0, c1⟩ := cc
      have HI := hid (insert_any xo mo dd _ x wr (by omega) HO)
      have HSN := hid (srt_take la k (by have := HA.out.len; omega))
      go_wp2_with fail
      refine HI.out.mono ?_
      rintro e w2 ⟨ao2, cap2, rfl, hh, b2⟩
      have HH2 : Hid (Has w2 ao2 (srt (la.take (k + 1))).length cap2 (srt (la.take (k + 1)))) := by rw [HSN.out, HX.out]; exact hh
      have HL2 : Hid ((ins (srt (la.take k)) x).length = (srt (la.take (k + 1))).length) := by rw [HSN.out, HX.out]; exact rfl
      have HB2 := hid (q_trans HL.out b2)
      clear hh b2 HI c0 c1
      rw [HL2.out]
      go_wp2_with fail
      go_roundw
      case rel => exact ⟨k + 1, _, cap2, ao2, by omega, by go_num, rfl, len_take la (k + 1), HH2, HB2⟩
      case measure => simp [intOf]; omega
    · have HT : Hid (la.take k = la) := List.take_of_length_le (by have := HA.out.len; omega)
      have hmo2 : mo ≤ na := by omega
      have HO2 : Hid (Has wr xo mo dd (srt la)) := by have h := HO.out; rw [HT.out] at h; exact h
      clear HO HT
      go_wp2_with fail
      go_loopw [5, 7] (fun s i wr => ∃ (k mo dd : Nat) (xo : Option Addr), k ≤ nb ∧ i = .int .i64 k ∧ s = .slice xo mo dd ∧ mo ≤ na + k ∧ Hid (Has wr xo mo dd (srt (la ++ lb.take k))) ∧ Hid (Below w.heap.size w wr)) (fun _ i _ => nb - (intOf i).toNat)
      case atStart => exact ⟨0, mo, dd, xo, Nat.zero_le _, rfl, rfl, by omega, by simp only [List.take_zero, List.append_nil]; exact HO2, HL⟩
      case round =>
        obtain ⟨k, mo, dd, xo, hk, rfl, rfl, hmo, HO, HL⟩ := hrel
        by_cases hlt : k < nb
        · have i1 : (0 : Int) ≤ (k : Int) := by omega
          have i2 : (k : Int) < (nb : Int) := by omega
          obtain ⟨a, rfl, cc⟩ := atK_of (HB.out.row.below HL.out) k (by have := HB.out.len; omega)
          obtain ⟨x, hx⟩ : ∃ x, lb.getD k (0, 0) = x := ⟨_, rfl⟩
          rw [hx] at cc
          have HX := hid hx
          clear hx
          obtain ⟨c0, c1⟩ := cc
          have HI := hid (insert_any xo mo dd _ x wr (by omega) HO)
          have HSN := hid (srt_take2 la lb k (by have := HB.out.len; omega))
          go_wp2_with fail
          refine HI.out.mono ?_
          rintro e w2 ⟨ao2, cap2, rfl, hh, b2⟩
          have HH2 : Hid (Has w2 ao2 (srt (la ++ lb.take (k + 1))).length cap2 (srt (la ++ lb.take (k + 1)))) := by rw [HSN.out, HX.out]; exact hh
          have HL2 : Hid ((ins (srt (la ++ lb.take k)) x).length = (srt (la ++ lb.take (k + 1))).length) := by rw [HSN.out, HX.out]; exact rfl
          have HB2 := hid (q_trans HL.out b2)
          clear hh b2 HI c0 c1
          rw [HL2.out]
          go_wp2_with fail
          go_roundw
          case rel => exact ⟨k + 1, _, cap2, ao2, by omega, by go_num, rfl, by have h1 := len_srt (la ++ lb.take (k + 1)); have := HA.out.len; simp at h1; omega, HH2, HB2⟩
          case measure => simp [intOf]; omega
        · have HT : Hid (lb.take k = lb) := List.take_of_length_le (by have := HB.out.len; omega)
          have HN : Hid (mo = (srt (la ++ lb)).length) := by have := HO.out.len; rwa [HT.out] at this
          go_wp2
          go_ret
          refine ⟨xo, dd, by rw [← HN.out]; rfl, ?_, HL.out⟩
          rw [← HN.out]
          have h := HO.out
          rwa [HT.out] at h
end Go.Proofs.Ythonibklaijejaa.Or
