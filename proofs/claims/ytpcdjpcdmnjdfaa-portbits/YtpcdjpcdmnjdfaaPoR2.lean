/- What the document's Same, without do. -/
import Derived.Test.YtpcdjpcdmnjdfaaPoR1
import Derived.Test.YtpcdjpcdmnjdfaaPoW2
import Derived.Test.YtpcdjpcdmnjdfaaPoCut
import Derived.Deep.CutRange
import Derived.Deep.RegionLaw
import Derived.Deep.RegionHeld3
namespace Go.Proofs.Ytpcdjpcdmnjdfaa.Po
open Go.RowKit

set_option maxRecDepth 100000 in
set_option maxHeartbeats 2000000 in
/-- Same: WHETHER TWO PORTS ARE THE SAME. -/
theorem rsame_any (p q : Pt) (y z : Hd) (w : World) (hs : y.n ≤ 5000) (HY : Hid (HasQ w y p.l)) (HZ : Hid (HasQ w z q.l)) :
    Calls Try.prog 12 #[(.agg #[.int .i64 p.k, .int .i64 p.w, .slice y.o y.n y.c]), (.agg #[.int .i64 q.k, .int .i64 q.w, .slice z.o z.n z.c])] w fun e w' => e = .returned (.bool (eqP p q)) ∧ Below w.heap.size w w' := by
  have HA := hid HY.out.len
  have HB := hid HZ.out.len
  go_enter Try.func12, Try.ntmps12
  go_upto_region 1 with fail
  have HT := hid (two_ports w p q y z)
  generalize (w.alloc (.cells #[.int .i64 p.k, .int .i64 p.w, .slice y.o y.n y.c] 24)).alloc (.cells #[.int .i64 q.k, .int .i64 q.w, .slice z.o z.n z.c] 24) = W at HT ⊢
  have HL := hid HT.out.2.2
  have HP := hid HT.out.1
  have HQ := hid HT.out.2.1
  clear HT
  have c0 := HP.out.c0
  have c1 := HP.out.c1
  have c2 := HP.out.c2
  have d0 := HQ.out.c0
  have d1 := HQ.out.c1
  have d2 := HQ.out.c2
  by_cases h1 : p.k = q.k
  · by_cases h2 : p.w = q.w
    · by_cases h3 : y.n = z.n
      · have HR : Hid (eqP p q = eqL p.l q.l) := by simp [Hid, eqP, h1, h2]
        have e1 : (p.k != q.k) = false := by simp [h1]
        have e2 : (p.w != q.w) = false := by simp [h2]
        have e3 : ((y.n : Int) != (z.n : Int)) = false := by simp [h3]
        have H3 := hid h3
        clear h1 h2 h3
        go_wp2_with fail
        clear c0 c1 c2 d0 d1 d2
        go_loopw [5] (fun i wr => ∃ k : Nat, k ≤ y.n ∧ i = .int .i64 k ∧ Hid (p.l.take k = q.l.take k) ∧ ∃ nd, wr = W.drewN nd) (fun i _ => y.n - (intOf i).toNat)
        case atStart => exact ⟨0, Nat.zero_le _, rfl, by simp [Hid], 0, rfl⟩
        case round =>
          obtain ⟨k, hk, rfl, HT, nd, rfl⟩ := hrel
          have c2 := HP.out.c2
          have d2 := HQ.out.c2
          by_cases hlt : k < y.n
          · have i1 : (0 : Int) ≤ (k : Int) := by omega
            have i2 : (k : Int) < (y.n : Int) := by omega
            have i3 : (k : Int) < (z.n : Int) := by have := H3.out; omega
            obtain ⟨a, ea, ca⟩ := (HY.out.below HL.out).at k hlt
            obtain ⟨b, eb, cb⟩ := (HZ.out.below HL.out).at k (by have := H3.out; omega)
            rw [ea] at c2
            rw [eb] at d2
            obtain ⟨x, hx⟩ : ∃ x, p.l.getD k z0 = x := ⟨_, rfl⟩
            obtain ⟨v, hv⟩ : ∃ v, q.l.getD k z0 = v := ⟨_, rfl⟩
            rw [hx] at ca
            rw [hv] at cb
            have HX := hid hx
            have HV := hid hv
            clear hx hv ea eb
            obtain ⟨a0, a1, a2, a3, a4, a5, a6, a7⟩ := ca
            obtain ⟨b0, b1, b2, b3, b4, b5, b6, b7⟩ := cb
            by_cases hxy : x = v
            · have he := eqw_yes hxy
              have HXY := hid hxy
              clear hxy
              go_wp2
              go_quiet (fail)
              go_wp2
              go_roundw
              case rel => exact ⟨k + 1, by omega, by go_num, by rw [take_snoc p.l k (by have := HA.out; omega), take_snoc q.l k (by have := HB.out; have := H3.out; omega), HT.out, HX.out, HV.out, HXY.out]; exact rfl, _, rfl⟩
              case measure => simp [intOf]; omega
            · have he := eqw_no hxy
              have HXY := hid hxy
              clear hxy
              go_wp2
              go_quiet (fail)
              go_wp2
              go_ret
              exact ⟨ret_bool (HR.out.trans (eqL_not.2 (fun e => HXY.out (by rw [← HX.out, ← HV.out, e])))).symm, q_drewN (q_drewN HL.out _) _⟩
          · obtain rfl : k = y.n := by omega
            go_wp2
            go_ret
            exact ⟨ret_bool (HR.out.trans (eqL_iff.2 (take_full (HA.out.symm.trans (H3.out.trans HB.out)) (by rw [← HA.out]; exact HT.out)))).symm, q_drewN HL.out _⟩
      · have HR : Hid (eqP p q = false) := by
          have : eqL p.l q.l = false := eqL_not.2 (fun e => h3 (by rw [HA.out, HB.out, e]))
          simp [Hid, eqP, this]
        have e1 : (p.k != q.k) = false := by simp [h1]
        have e2 : (p.w != q.w) = false := by simp [h2]
        have e3 : ((y.n : Int) != (z.n : Int)) = true := by simp; omega
        clear h1 h2 h3
        go_wp2_with fail
        go_ret
        exact ⟨ret_bool HR.out.symm, HL.out⟩
    · have HR : Hid (eqP p q = false) := by simp [Hid, eqP, h2]
      have e1 : (p.k != q.k) = false := by simp [h1]
      have e2 : (p.w != q.w) = true := by simp [h2]
      clear h1 h2
      go_wp2_with fail
      go_ret
      exact ⟨ret_bool HR.out.symm, HL.out⟩
  · have HR : Hid (eqP p q = false) := by simp [Hid, eqP, h1]
    have e1 : (p.k != q.k) = true := by simp [h1]
    clear h1
    go_wp2_with fail
    go_ret
    exact ⟨ret_bool HR.out.symm, HL.out⟩
end Go.Proofs.Ytpcdjpcdmnjdfaa.Po
