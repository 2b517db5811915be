/- What the document's Is, count do. -/
import Derived.Test.YtdaakigofpehjaaTrRFind
namespace Go.Proofs.Ytdaakigofpehjaa.Tr
open Go.RowKit

set_option maxHeartbeats 1000000 in
theorem ki_any (k : P) (w : World) : Calls Try.prog 39 #[(.agg #[.int .i64 k.1, .int .i64 k.2])] w fun e w' => e = .returned (.bool (okK k)) ∧ Below w.heap.size w w' := by
  by_cases h1 : 0 ≤ k.1
  · by_cases h2 : k.1 ≤ 1023
    · by_cases h3 : -1 ≤ k.2
      · by_cases h4 : k.2 ≤ 7
        · have H : Hid (okK k = true) := okK_iff.2 ⟨h1, h2, h3, h4⟩
          go_enter Try.func39, Try.ntmps39
          go_wp2
          go_ret
          exact ⟨ret_bool H.out.symm, alloc_below _ _⟩
        · have H : Hid (okK k = false) := by unfold Hid okK; rw [decide_eq_false_iff_not]; omega
          go_enter Try.func39, Try.ntmps39
          go_wp2
          go_ret
          exact ⟨ret_bool H.out.symm, alloc_below _ _⟩
      · have H : Hid (okK k = false) := by unfold Hid okK; rw [decide_eq_false_iff_not]; omega
        go_enter Try.func39, Try.ntmps39
        go_wp2
        go_ret
        exact ⟨ret_bool H.out.symm, alloc_below _ _⟩
    · have H : Hid (okK k = false) := by unfold Hid okK; rw [decide_eq_false_iff_not]; omega
      go_enter Try.func39, Try.ntmps39
      go_wp2
      go_ret
      exact ⟨ret_bool H.out.symm, alloc_below _ _⟩
  · have H : Hid (okK k = false) := by unfold Hid okK; rw [decide_eq_false_iff_not]; omega
    go_enter Try.func39, Try.ntmps39
    go_wp2
    go_ret
    exact ⟨ret_bool H.out.symm, alloc_below _ _⟩
theorem not_gd {t : List Br} {k : Nat} (hk : k < t.length) (h : ¬ Gd t k) : isB t = false := isB_not.2 fun q => h ((tree_gd.1 q).2 k hk)
theorem good_step {t : List Br} {k : Nat} (h : ∀ j, j < k → Gd t j) (g : Gd t k) : ∀ j, j < k + 1 → Gd t j := fun j hj => by
  rcases Nat.lt_or_ge j k with q | q
  · exact h j q
  · obtain rfl : j = k := by omega
    exact g
theorem gd_bound {t : List Br} : ∀ k, (∀ j, j < k → Gd t j) → ∀ j, j < k → 0 ≤ D t j ∧ D t j ≤ j := by
  intro k h j
  induction j with
  | zero => exact fun hj => ⟨(h 0 hj).pos, by have := (h 0 hj).dep; simp at this; omega⟩
  | succ j ih =>
    intro hj
    have h1 := ih (by omega)
    have h2 := (h (j + 1) hj).dep
    rw [if_neg (by omega), Nat.add_sub_cancel] at h2
    exact ⟨(h (j + 1) hj).pos, by omega⟩
set_option maxRecDepth 100000 in
set_option maxHeartbeats 2000000 in
theorem ris_in (ao : Option Addr) (n cap : Nat) (t : List Br) (w : World) (hs : n ≤ 512) (HH : Hid (HasB w ao n cap t)) :
    Calls Try.prog 15 #[.slice ao n cap] w fun e w' => e = .returned (.bool (isB t)) ∧ Below w.heap.size w w' := by
  have HN := hid HH.out.len
  go_enter Try.func15, Try.ntmps15
  go_wp2_with fail
  go_loopw [3] (fun i wr => ∃ k : Nat, k ≤ n ∧ i = .int .i64 k ∧ Hid (∀ j, j < k → Gd t j) ∧ Hid (Below w.heap.size w wr)) (fun i _ => n - (intOf i).toNat)
  case atStart => exact ⟨0, Nat.zero_le _, rfl, fun c hc => absurd hc (by omega), Below.refl _ _⟩
  case round =>
    obtain ⟨k, hk, rfl, HU, HB⟩ := hrel
    by_cases hlt : k < n
    · have i1 : (0 : Int) ≤ (k : Int) := by omega
      have i2 : (k : Int) < (n : Int) := by omega
      have HKL : Hid (k < t.length) := by have := HN.out; unfold Hid; omega
      have HL := hid (HH.out.below HB.out)
      obtain ⟨a, rfl, ca⟩ := HL.out.at k hlt
      obtain ⟨⟨x, dx, mx⟩, hb⟩ : ∃ b, t.getD k zB = b := ⟨_, rfl⟩
      rw [hb] at ca
      have HX : Hid (Ky t k = x ∧ D t k = dx) := ⟨by unfold Ky; rw [hb], by unfold D; rw [hb]⟩
      clear hb
      have CA := hid ca
      obtain ⟨c0, c1, c2, c3⟩ := ca
      simp only at c0 c1 c2 c3
      go_wp2_with fail
      refine (rfind_any (some a) n cap t x wr (by omega) HL).mono ?_
      rintro e w3 ⟨rfl, b3⟩
      have HB3 := hid (q_trans HB.out b3)
      obtain ⟨f0, f1, f2, f3⟩ := (CA.out.below b3).always
      simp only at f0 f1 f2 f3
      have hne : Nonempty (Later w3) := ⟨⟨_, Below.refl _ _⟩⟩
      have HL3 := hid (HL.out.below b3)
      clear b3 c0 c1 c2 c3 f3 CA HL
      have HIk : Hid (∀ W : World, Calls Try.prog 39 #[(.agg #[.int .i64 x.1, .int .i64 x.2])] W fun e w' => e = .returned (.bool (okK x)) ∧ Below W.heap.size W w') := fun W => ki_any x W
      by_cases hA : plc t x = k
      · have HAt : Hid (fd (Ky t k) t = some k) := by
          have h1 : hasK t (Ky t k) = true := by
            cases q : hasK t (Ky t k) with
            | true => rfl
            | false => exact absurd rfl (fd_none.1 (by simpa [hasK] using q) k HKL.out)
          obtain ⟨m, hm⟩ := Option.isSome_iff_exists.1 h1
          have h2 : plc t (Ky t k) = m := by simp [plc, hm]
          rw [HX.out.1, hA] at h2
          unfold Hid
          rw [hm, h2]
        rw [hA]
        clear hA
        cases hB : okK x with
        | false =>
          have HF : Hid (isB t = false) := not_gd HKL.out fun g => by have := g.key; rw [HX.out.1, hB] at this; cases this
          rw [hB] at HIk
          clear hB
          go_wp2_with fail
          refine wp_region_later (by kernel_rfl) (by kernel_rfl) ?_
          repeat (go_big_quiet_step (first | (go_at_call 39; exact later_call (HIk.out _))))
          refine wpQuiet_nil ?_
          rintro w9 ⟨⟨_, b9⟩, rfl⟩
          have HB9 := hid (q_trans HB3.out b9)

          clear b9 f0 f1 f2 hne
          go_wp2_with fail
          go_ret
          exact ⟨ret_bool HF.out.symm, HB9.out⟩
        | true =>
          have HOk := hid hB
          rw [hB] at HIk
          clear hB
          by_cases hC : dx < 0
          · have HF : Hid (isB t = false) := not_gd HKL.out fun g => by have := g.pos; rw [HX.out.2] at this; omega
            go_wp2_with fail
            refine wp_region_later (by kernel_rfl) (by kernel_rfl) ?_
            repeat (go_big_quiet_step (first | (go_at_call 39; exact later_call (HIk.out _))))
            refine wpQuiet_nil ?_
            rintro w9 ⟨⟨_, b9⟩, rfl⟩
            have HB9 := hid (q_trans HB3.out b9)

            clear b9 f0 f1 f2 hne
            go_wp2_with fail
            go_ret
            exact ⟨ret_bool HF.out.symm, HB9.out⟩
          · have hC0 : 0 ≤ dx := by omega
            rcases Nat.eq_zero_or_pos k with hz | hz
            · subst hz
              by_cases hD : dx = 0
              · subst hD
                simp only [Nat.zero_mul, add_zero_addr] at f0 f1 f2
                have HG : Hid (Gd t 0) := ⟨HAt.out, by rw [HX.out.1]; exact HOk.out, by rw [HX.out.2]; omega, by rw [HX.out.2]; simp⟩
                go_wp2_with fail
                refine wp_region_later (by kernel_rfl) (by kernel_rfl) ?_
                repeat (go_big_quiet_step (first | (go_at_call 39; exact later_call (HIk.out _))))
                refine wpQuiet_nil ?_
                rintro w9 ⟨⟨_, b9⟩, rfl⟩
                have HB9 := hid (q_trans HB3.out b9)

                clear b9 f0 f1 f2 hne
                go_wp2_with fail
                go_roundw
                case rel => exact ⟨0 + 1, by omega, by go_num, good_step HU.out HG.out, HB9⟩
                case measure => simp [intOf]; omega
              · have HF : Hid (isB t = false) := not_gd HKL.out fun g => by have := g.dep; rw [HX.out.2] at this; simp at this; omega
                simp only [Nat.zero_mul, add_zero_addr] at f0 f1 f2
                have hD2 : (dx != 0) = true := by simpa using hD
                clear hD
                go_wp2_with fail
                have hC2 : ¬ dx < 0 := by omega
                refine wp_region_later (by kernel_rfl) (by kernel_rfl) ?_
                repeat (go_big_quiet_step (first | (go_at_call 39; exact later_call (HIk.out _))))
                refine wpQuiet_nil ?_
                rintro w9 ⟨⟨_, b9⟩, rfl⟩
                have HB9 := hid (q_trans HB3.out b9)

                clear b9 f0 f1 f2 hne
                go_wp2_with fail
                go_ret
                exact ⟨ret_bool HF.out.symm, HB9.out⟩
            · obtain ⟨j, hj⟩ : ∃ j, k = j + 1 := ⟨k - 1, by omega⟩
              have HJ := hid hj
              have hkj : (k : Int) - 1 = (j : Int) := by omega
              have hz2 : ((k : Int) == 0) = false := by rw [beq_eq_false_iff_ne]; omega
              have i3 : (j : Int) < (n : Int) := by omega
              have hbd := gd_bound k HU.out j (by omega)
              obtain ⟨a2, ea, ca⟩ := HL3.out.at j (by omega)
              cases ea
              obtain ⟨py, hpy⟩ : ∃ b, D t j = b := ⟨_, rfl⟩
              have HPy := hid hpy
              obtain ⟨_, _, g2, _⟩ := ca.always
              rw [show (t.getD j zB).2.1 = py from hpy] at g2
              rw [hpy] at hbd
              obtain ⟨hb1, hb2⟩ := hbd
              have hb3 : py ≤ 512 := by omega
              clear ca hpy hj hb2 hz
              by_cases hE : dx ≤ py + 1
              · have HG : Hid (Gd t k) := ⟨HAt.out, by rw [HX.out.1]; exact HOk.out, by rw [HX.out.2]; omega, by rw [HX.out.2, if_neg (by have := HJ.out; omega), show k - 1 = j by have := HJ.out; omega, HPy.out]; exact hE⟩
                go_wp2_with fail
                have hC2 : ¬ dx < 0 := by omega
                have hE2 : ¬ dx > py + 1 := by omega
                have hz3 : (k : Int) > 0 := by omega
                have hz4 : 0 < k := by omega
                refine wp_region_later (by kernel_rfl) (by kernel_rfl) ?_
                repeat (go_big_quiet_step (first | (go_at_call 39; exact later_call (HIk.out _))))
                refine wpQuiet_nil ?_
                rintro w9 ⟨⟨_, b9⟩, rfl⟩
                have HB9 := hid (q_trans HB3.out b9)

                clear b9 f0 f1 f2 hne
                go_wp2_with fail
                go_roundw
                case rel => exact ⟨k + 1, by omega, by go_num, good_step HU.out HG.out, HB9⟩
                case measure => simp [intOf]; omega
              · have HF : Hid (isB t = false) := not_gd HKL.out fun g => by have := g.dep; rw [HX.out.2, if_neg (by have := HJ.out; omega), show k - 1 = j by have := HJ.out; omega, HPy.out] at this; omega
                go_wp2_with fail
                have hC2 : ¬ dx < 0 := by omega
                have hE2 : dx > py + 1 := by omega
                have hz3 : (k : Int) > 0 := by omega
                have hz4 : 0 < k := by omega
                refine wp_region_later (by kernel_rfl) (by kernel_rfl) ?_
                repeat (go_big_quiet_step (first | (go_at_call 39; exact later_call (HIk.out _))))
                refine wpQuiet_nil ?_
                rintro w9 ⟨⟨_, b9⟩, rfl⟩
                have HB9 := hid (q_trans HB3.out b9)

                clear b9 f0 f1 f2 hne
                go_wp2_with fail
                go_ret
                exact ⟨ret_bool HF.out.symm, HB9.out⟩
      · have HF : Hid (isB t = false) := not_gd HKL.out fun g => by
          have := g.at'
          rw [HX.out.1] at this
          exact hA (by simp [plc, this])
        have hA2 : (((plc t x : Nat) : Int) != (k : Int)) = true := by simp; omega
        clear hA
        generalize ((plc t x : Nat) : Int) = z at hA2 ⊢
        go_wp2_with fail
        refine wp_region_later (by kernel_rfl) (by kernel_rfl) ?_
        repeat (go_big_quiet_step (first | (go_at_call 39; exact later_call (HIk.out _))))
        refine wpQuiet_nil ?_
        rintro w9 ⟨⟨_, b9⟩, rfl⟩
        have HB9 := hid (q_trans HB3.out b9)

        clear b9 f0 f1 f2 hne
        go_wp2_with fail
        go_ret
        exact ⟨ret_bool HF.out.symm, HB9.out⟩
    · obtain rfl : k = n := by omega
      have HF : Hid (isB t = true) := isB_iff.2 (tree_gd.2 ⟨by have := HN.out; omega, fun j hj => HU.out j (by have := HN.out; omega)⟩)
      go_wp2_with fail
      go_ret
      exact ⟨ret_bool HF.out.symm, HB.out⟩
end Go.Proofs.Ytdaakigofpehjaa.Tr
