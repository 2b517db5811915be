/- What the document's Apart does. -/
import Derived.Test.YteohoipkdjhllaaCaApart
namespace Go.Proofs.Yteohoipkdjhllaa.Ca
open Go.RowKit

/-- All ahead of k may be, and no two of them meet. -/
def Pp (l : List X) (k : Nat) : Prop := (∀ j, j < k → okX (l.getD j (0, 0)) = true) ∧ ∀ i j, i < j → j < k → meB (l.getD j (0, 0)) (l.getD i (0, 0)) = false
theorem pp_step {l : List X} {k : Nat} (h : Pp l k) (h1 : okX (l.getD k (0, 0)) = true) (h2 : ∀ i, i < k → meB (l.getD k (0, 0)) (l.getD i (0, 0)) = false) : Pp l (k + 1) := by
  refine ⟨fun j hj => ?_, fun i j hij hj => ?_⟩
  · by_cases e : j = k
    · subst e; exact h1
    · exact h.1 j (by omega)
  · by_cases e : j = k
    · subst e; exact h2 i hij
    · exact h.2 i j hij (by omega)
theorem pp_ap {l : List X} (h : Pp l l.length) : Ap l := by
  refine ⟨fun a ha => ?_, ?_⟩
  · obtain ⟨i, hi, rfl⟩ := List.getElem_of_mem ha
    have := h.1 i hi
    rwa [getD_lt hi] at this
  · rw [List.pairwise_iff_getElem]
    intro i j hi hj hij
    have := h.2 i j hij hj
    rw [getD_lt hi, getD_lt hj] at this
    rw [me_comm]
    exact this
set_option maxRecDepth 100000 in
set_option maxHeartbeats 2000000 in
/-- APART: the document's. -/
theorem rapart_any (ao : Option Addr) (n cap : Nat) (l : List X) (w : World) (hs : n ≤ 1000) (HH : Hid (HasX w ao n cap l)) :
    Calls Try.prog 27 #[.slice ao n cap] w fun e w' => e = .returned (.bool (apB l)) ∧ Below w.heap.size w w' := by
  go_enter Try.func27, Try.ntmps27
  go_wp2_with fail
  go_loopw [3] (fun i wr => ∃ k : Nat, k ≤ n ∧ i = .int .i64 k ∧ Hid (Pp l k) ∧ Hid (Below w.heap.size w wr)) (fun i _ => n - (intOf i).toNat)
  case atStart => exact ⟨0, Nat.zero_le _, rfl, ⟨fun j hj => absurd hj (by omega), fun i j _ hj => absurd hj (by omega)⟩, Below.refl _ _⟩
  case round =>
    obtain ⟨k, hk, rfl, HB, HL⟩ := hrel
    by_cases hlt : k < n
    · have i1 : (0 : Int) ≤ (k : Int) := by omega
      have i2 : (k : Int) < (n : Int) := by omega
      have HN := hid HH.out.len
      obtain ⟨a, rfl, ca⟩ := atX_of (HH.out.row.below HL.out) k (by have := HN.out; omega)
      obtain ⟨x, hx⟩ : ∃ x, l.getD k (0, 0) = x := ⟨_, rfl⟩
      rw [hx] at ca
      have HX := hid hx
      have HCA := hid ca
      clear hx
      obtain ⟨c0, c1⟩ := ca
      cases hok : okX x with
      | false =>
        have HF : Hid (apB l = false) := ap_not (not_ap_ok (k := k) (by have := HN.out; omega) (by rw [HX.out]; exact hok))
        have hc := fun (W : World) => is_ris (w := W) hok
        clear hok
        go_wp2_with fail
        refine (hc _).mono ?_
        rintro e w1 ⟨rfl, b1⟩
        have B1 := hid (q_trans HL.out b1)
        clear b1 c0 c1 hc
        go_wp2_with fail
        go_ret
        exact ⟨ret_bool HF.out.symm, B1.out⟩
      | true =>
        have hc := fun (W : World) => is_ris (w := W) hok
        have HK := hid hok
        clear hok
        go_wp2_with fail
        refine (hc _).mono ?_
        rintro e w1 ⟨rfl, b1⟩
        have B1 := hid (q_trans HL.out b1)
        clear b1 c0 c1 hc HCA
        go_wp2_with fail
        go_loopw [4] (fun i wq => ∃ m : Nat, m ≤ k ∧ i = .int .i64 m ∧ Hid (∀ i, i < m → meB x (l.getD i (0, 0)) = false) ∧ Hid (Below w.heap.size w wq)) (fun i _ => k - (intOf i).toNat)
        case atStart => exact ⟨0, Nat.zero_le _, rfl, fun i hi => absurd hi (by omega), B1⟩
        case round =>
          obtain ⟨m, hm, rfl, HM, HLm⟩ := hrel
          by_cases hlt2 : m < k
          · have j1 : (0 : Int) ≤ (m : Int) := by omega
            have j2 : (m : Int) < (n : Int) := by omega
            obtain ⟨a', e, ca⟩ := atX_of (HH.out.row.below HLm.out) k (by have := HN.out; omega)
            cases e
            obtain ⟨a', e, cb⟩ := atX_of (HH.out.row.below HLm.out) m (by have := HN.out; omega)
            cases e
            rw [HX.out] at ca
            obtain ⟨y, hy⟩ : ∃ y, l.getD m (0, 0) = y := ⟨_, rfl⟩
            rw [hy] at cb
            have HY := hid hy
            clear hy
            obtain ⟨f0, f1⟩ := ca.always
            obtain ⟨g0, g1⟩ := cb.always
            have hne : Nonempty (Later wr) := ⟨⟨wr, Below.refl _ _⟩⟩
            cases hme : meB x y with
            | true =>
              have HF : Hid (apB l = false) := ap_not (not_ap_me (i := m) (k := k) hlt2 (by have := HN.out; omega) (by rw [HX.out, HY.out, me_comm]; exact hme))
              have hl := fun (W : World) => is_rmeet (w := W) hme
              clear hme ca cb
              go_wp2_with fail
              refine wp_region_later (by kernel_rfl) (by kernel_rfl) ?_
              repeat (go_big_quiet_step (first | (go_at_call 19; exact later_call (hl _))))
              refine wpQuiet_nil ?_
              rintro w9 ⟨⟨_, b9⟩, rfl⟩
              have HBE := hid (q_trans HLm.out b9)
              clear f0 f1 g0 g1 hne hl b9
              go_wp2_with fail
              go_ret
              exact ⟨ret_bool HF.out.symm, HBE.out⟩
            | false =>
              have hl := fun (W : World) => is_rmeet (w := W) hme
              have HME := hid hme
              clear hme ca cb
              go_wp2_with fail
              refine wp_region_later (by kernel_rfl) (by kernel_rfl) ?_
              repeat (go_big_quiet_step (first | (go_at_call 19; exact later_call (hl _))))
              refine wpQuiet_nil ?_
              rintro w9 ⟨⟨_, b9⟩, rfl⟩
              have HBE := hid (q_trans HLm.out b9)
              clear f0 f1 g0 g1 hne hl b9
              go_wp2_with fail
              go_roundw
              case rel =>
                refine ⟨m + 1, by omega, by go_num, fun i hi => ?_, HBE⟩
                by_cases e : i = m
                · subst e; rw [HY.out]; exact HME.out
                · exact HM.out i (by omega)
              case measure => simp [intOf]; omega
          · obtain rfl : m = k := by omega
            go_wp2_with fail
            go_roundw
            case rel => exact ⟨m + 1, by omega, by go_num, pp_step HB.out (by rw [HX.out]; exact HK.out) (by rw [HX.out]; exact HM.out), HLm⟩
            case measure => simp [intOf]; omega
    · have HA : Hid (apB l = true) := by
        unfold Hid
        rw [ap_iff]
        have : k = l.length := by have := HH.out.len; omega
        exact pp_ap (this ▸ HB.out)
      go_wp2_with fail
      go_ret
      exact ⟨ret_bool HA.out.symm, HL.out⟩
end Go.Proofs.Yteohoipkdjhllaa.Ca
