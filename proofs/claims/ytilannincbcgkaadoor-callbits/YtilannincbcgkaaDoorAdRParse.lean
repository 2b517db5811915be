/- What the document's Parse does. -/
import Derived.Test.YtilannincbcgkaaDoorAdApp
namespace Go.Proofs.YtilannincbcgkaaDoor.Ad
open Go.RowKit

/-- One field got: as the walk meets it. -/
theorem rget_at (x a : Nat) (w : World) (hx : x < 18446744073709551616) (ha : a ≤ 60) (b : Int) (hb : b = a) :
    Calls Tryd.prog 24 #[.int .u64 (x : Nat), .int .i64 b, .int .i64 3] w fun e w' => e = .returned (.int .u64 (getN x a 3 : Nat)) ∧ w' = w := by
  subst hb
  exact rget_yes x a 3 w hx (by omega) (by omega)
theorem get_le (x a : Nat) : getN x a 3 ≤ 7 := by unfold getN; omega
theorem par_ok {x : Nat} (h : parB x = true) : putA (parL x) = x ∧ chkA (parL x) = 0 := by
  simp only [parB, Bool.and_eq_true, beq_iff_eq] at h
  simp [putA, chkA, h.1, h.2]
theorem par_bad {x : Nat} (h : parB x = false) : chkA (parL x) = 120 ∨ (chkA (parL x) = 0 ∧ ((putA (parL x) : Int) != (x : Int)) = true) := by
  cases q : okA (parL x) with
  | false => left; simp [chkA, q]
  | true =>
    right
    simp only [parB, q, Bool.true_and, beq_eq_false_iff_ne] at h
    refine ⟨by simp [chkA, q], ?_⟩
    simp only [putA, q, if_true, bne_iff_ne]
    omega
set_option maxRecDepth 100000 in
set_option maxHeartbeats 1000000 in
theorem rParse_any (x : Nat) (w : World) (hx : x < 18446744073709551616) :
    Calls Tryd.prog 37 #[.int .u64 (x : Nat)] w fun e w' => ∃ ao n cap, e = .returned (.tuple #[.slice ao n cap, .int .i64 (parE x)]) ∧ HasP w' ao n cap (parA x) ∧ Below w.heap.size w w' := by
  have HX := hid hx
  go_enter Tryd.func37, Tryd.ntmps37
  go_wp2_with fail
  go_loopw [4, 5] (fun s i wr => ∃ (k : Nat) (ao : Option Addr) (cap : Nat), k ≤ 4 ∧ k ≤ x % 8 ∧ s = .slice ao k cap ∧ i = .int .i64 k ∧ Hid (MineP 70 wr w.heap.size ao k cap (dec k (x / 8))) ∧ Hid (Below w.heap.size w wr)) (fun _ i _ => 4 - (intOf i).toNat)
  case atStart => exact ⟨0, none, 0, by omega, by omega, rfl, rfl, mineP_nil _ _ _, Below.refl _ _⟩
  case round =>
    obtain ⟨k, ao, cap, hk, hk8, rfl, rfl, HM, HB⟩ := hrel
    by_cases h1 : k < x % 8
    · by_cases h2 : k < 4
      · have hg := hid (fun W : World => rget_at x (3 + 6 * k) W HX.out (by omega) (3 + 6 * (k : Int)) (by omega))
        have hj := hid (fun W : World => rget_at x (6 + 6 * k) W HX.out (by omega) (6 + 6 * (k : Int)) (by omega))
        have HP := hid (par_more x k)
        have lg := get_le x (3 + 6 * k)
        have lj := get_le x (6 + 6 * k)
        go_wp2_with fail
        refine (hg.out _).mono ?_
        rintro e w1 ⟨rfl, hw⟩
        rw [hw]; clear hw w1 hg
        generalize getN x (3 + 6 * k) 3 = g at HP lg ⊢
        go_wp2_with fail
        refine (hj.out _).mono ?_
        rintro e w1 ⟨rfl, hw⟩
        rw [hw]; clear hw w1 hj
        generalize getN x (6 + 6 * k) 3 = j at HP lj ⊢
        have HO := hid (own_below HM.out.2 (alloc_below wr (.cells #[.int .i64 (g : Nat), .int .i64 (j : Nat)] 70)))
        have HRw := hid (one_pair wr ((g : Int), (j : Int)) 70)
        have HZ : Hid (w.heap.size ≤ (wr.alloc (.cells #[.int .i64 (g : Nat), .int .i64 (j : Nat)] 70)).heap.size) := (q_alloc HB.out _).size
        go_wp2_with (at_builtin; go_loud (refine wpList_append_row _ rfl (.tmp 19) (.tmp 33) 63 70 _ 2 16 rfl Tryd.underlying63 infoS rfl (by decide) (by decide) w.heap.size _ k (prs (dec k (x / 8))) rfl HO.out _ 1 1 (prs [((g : Int), (j : Int))]) rfl rfl (fun h => by cases h) HRw.out (prs_one _) (by omega) HZ.out ?_; intro ao3 cap3 w3 own3 grow3; apply Hid.out))
        have HM3 : Hid (MineP 70 w3 w.heap.size ao3 (k + 1) cap3 (dec (k + 1) (x / 8))) := by
          refine ⟨(dec_len _ _).symm, ?_⟩
          rw [HP.out, prs_app]
          exact own3
        have HB3 : Hid (Below w.heap.size w w3) := (q_alloc HB.out _).grown grow3 (q_alloc HB.out _).size (fun q e => (World.ownsRow.lt HO.out q e).1)
        clear own3 grow3 HO HRw HZ HP
        unfold Hid
        go_wp2_with fail
        go_roundw
        case rel => exact ⟨k + 1, ao3, cap3, by omega, by omega, rfl, by go_num, HM3, HB3⟩
        case measure => simp [intOf]; omega
      · have i4 : ¬ (k : Int) < 4 := by omega
        have HK : Hid (k = min (x % 8) 4) := by unfold Hid; omega
        have HPt : Hid (∀ W : World, HasP W ao k cap (dec k (x / 8)) → Calls Tryd.prog 41 #[.slice ao k cap] W fun e w' => e = .returned (.tuple #[.int .u64 (putA (parL x) : Nat), .int .i64 (chkA (parL x))]) ∧ Below W.heap.size W w') := by
          intro W hW
          have := rPut_any ao k cap _ W hW
          rwa [show dec k (x / 8) = parL x by rw [HK.out]; rfl] at this
        go_wp2_with fail
        refine (HPt.out _ (HM.out.has)).mono ?_
        rintro e w2 ⟨rfl, b2⟩
        replace b2 := hid b2
        clear HPt
        cases hb : parB x with
        | true =>
          have HY := hid (par_yes hb)
          have hc := (par_ok hb).1
          have hd := (par_ok hb).2
          rw [hc, hd]
          clear hc hd hb
          go_wp2_with fail
          refine bodyPost_ret (v := .tuple #[.slice ao k cap, .int .i64 0]) (by simp [results, Tryd.results37, go_sem]) rfl ⟨ao, k, cap, by rw [HY.out.2], ?_, q_trans HB.out b2.out⟩
          rw [HY.out.1]
          have := HM.out.has.below b2.out
          rw [HK.out] at this
          rw [HK.out]
          exact this
        | false =>
          have HY := hid (par_no hb)
          have hc := par_bad hb
          clear hb
          rcases hc with hc | hc
          · have hq : (chkA (parL x) != 0) = true := by rw [hc]; rfl
            clear hc
            generalize chkA (parL x) = q at hq ⊢
            go_wp2_with fail
            refine bodyPost_ret (v := .tuple #[.slice none 0 0, .int .i64 120]) (by simp [results, Tryd.results37, go_sem]) rfl ⟨none, 0, 0, by rw [HY.out.2], by rw [HY.out.1]; exact hasP_nil _, q_trans HB.out b2.out⟩
          · obtain ⟨hc, hd⟩ := hc
            rw [hc]
            clear hc
            generalize (putA (parL x) : Int) = q at hd ⊢
            go_wp2_with fail
            refine bodyPost_ret (v := .tuple #[.slice none 0 0, .int .i64 120]) (by simp [results, Tryd.results37, go_sem]) rfl ⟨none, 0, 0, by rw [HY.out.2], by rw [HY.out.1]; exact hasP_nil _, q_trans HB.out b2.out⟩
    · have i4 : ¬ (k : Int) < (x : Int) % 8 := by omega
      have HK : Hid (k = min (x % 8) 4) := by unfold Hid; omega
      have HPt : Hid (∀ W : World, HasP W ao k cap (dec k (x / 8)) → Calls Tryd.prog 41 #[.slice ao k cap] W fun e w' => e = .returned (.tuple #[.int .u64 (putA (parL x) : Nat), .int .i64 (chkA (parL x))]) ∧ Below W.heap.size W w') := by
        intro W hW
        have := rPut_any ao k cap _ W hW
        rwa [show dec k (x / 8) = parL x by rw [HK.out]; rfl] at this
      go_wp2_with fail
      refine (HPt.out _ (HM.out.has)).mono ?_
      rintro e w2 ⟨rfl, b2⟩
      replace b2 := hid b2
      clear HPt
      cases hb : parB x with
      | true =>
        have HY := hid (par_yes hb)
        have hc := (par_ok hb).1
        have hd := (par_ok hb).2
        rw [hc, hd]
        clear hc hd hb
        go_wp2_with fail
        refine bodyPost_ret (v := .tuple #[.slice ao k cap, .int .i64 0]) (by simp [results, Tryd.results37, go_sem]) rfl ⟨ao, k, cap, by rw [HY.out.2], ?_, q_trans HB.out b2.out⟩
        rw [HY.out.1]
        have := HM.out.has.below b2.out
        rw [HK.out] at this
        rw [HK.out]
        exact this
      | false =>
        have HY := hid (par_no hb)
        have hc := par_bad hb
        clear hb
        rcases hc with hc | hc
        · have hq : (chkA (parL x) != 0) = true := by rw [hc]; rfl
          clear hc
          generalize chkA (parL x) = q at hq ⊢
          go_wp2_with fail
          refine bodyPost_ret (v := .tuple #[.slice none 0 0, .int .i64 120]) (by simp [results, Tryd.results37, go_sem]) rfl ⟨none, 0, 0, by rw [HY.out.2], by rw [HY.out.1]; exact hasP_nil _, q_trans HB.out b2.out⟩
        · obtain ⟨hc, hd⟩ := hc
          rw [hc]
          clear hc
          generalize (putA (parL x) : Int) = q at hd ⊢
          go_wp2_with fail
          refine bodyPost_ret (v := .tuple #[.slice none 0 0, .int .i64 120]) (by simp [results, Tryd.results37, go_sem]) rfl ⟨none, 0, 0, by rw [HY.out.2], by rw [HY.out.1]; exact hasP_nil _, q_trans HB.out b2.out⟩
end Go.Proofs.YtilannincbcgkaaDoor.Ad
