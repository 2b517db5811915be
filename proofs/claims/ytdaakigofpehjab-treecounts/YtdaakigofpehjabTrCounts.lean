/- TreeCounts. -/
import Derived.Test.YtdaakigofpehjabTrLive
import Derived.Test.YtdaakigofpehjabTrGrown
namespace Go.Proofs.Ytdaakigofpehjab.Tr
open Go.RowKit

set_option maxHeartbeats 1600000 in
theorem counts_long (ao : Option Addr) (n cap : Nat) (k : P) (w : World) (h : 60 < n) :
    Calls Try.prog 3 #[.slice ao n cap, (.agg #[.int .i64 k.1, .int .i64 k.2])] w fun e w' => e = .returned (.bool true) ∧ Below w.heap.size w w' := by
  have B0 := hid (alloc_below w (.cells #[.int .i64 k.1, .int .i64 k.2] 24))
  have i1 : (n : Int) > 60 := by omega
  clear h
  go_enter Try.func3, Try.ntmps3
  go_wp2_with (go_at_call 5; refine (live_any _).mono ?_; rintro e w2 ⟨rfl, b⟩)
  go_ret
  exact ⟨rfl, q_trans B0.out b⟩
theorem ct_le (t : List Br) (i : Nat) : ct t i ≤ t.length := by
  have := cn_le (D t i) (t.drop (i + 1))
  unfold ct
  simp at this
  omega
theorem kc_le (t : List Br) (p n : Nat) : kc t p n ≤ n := by
  induction n with
  | zero => exact Nat.le_refl _
  | succ n ih => rw [kc]; split <;> omega
set_option maxRecDepth 100000 in
theorem ks_le {t : List Br} (h : t.length ≤ 512) (p n : Nat) : ks t p n ≤ n * 513 := by
  induction n with
  | zero => simp [ks]
  | succ n ih =>
    have := ct_le t n
    rw [ks]
    split <;> omega
theorem kc_yes {t : List Br} {p n : Nat} (h : kid t p n) : kc t p (n + 1) = kc t p n + 1 ∧ ks t p (n + 1) = ks t p n + 1 + ct t n := by simp [kc, ks, h]
theorem kc_no {t : List Br} {p n : Nat} (h : ¬ kid t p n) : kc t p (n + 1) = kc t p n ∧ ks t p (n + 1) = ks t p n := by simp [kc, ks, h]
set_option maxRecDepth 100000 in
set_option maxHeartbeats 8000000 in
theorem counts_in (ao : Option Addr) (n cap : Nat) (l : List Ac) (k : P) (w : World) (hn : n ≤ 60) (HH : Hid (HasC w ao n cap l)) :
    Calls Try.prog 3 #[.slice ao n cap, (.agg #[.int .i64 k.1, .int .i64 k.2])] w fun e w' => e = .returned (.bool true) ∧ Below w.heap.size w w' := by
  have j1 : ¬ (n : Int) > 60 := by omega
  go_enter Try.func3, Try.ntmps3
  go_wp2_with fail
  have B := hid (alloc_below w (.cells #[.int .i64 k.1, .int .i64 k.2] 24))
  have K0 := hid (at_new w k 24)
  generalize w.alloc (.cells #[.int .i64 k.1, .int .i64 k.2] 24) = W at B K0 ⊢
  refine (grown_any ao n cap l W (by omega) (HH.out.below B.out)).mono ?_
  rintro e w0 ⟨to, tn, tc, rfl, hh, bb⟩
  have G := hid hh
  replace B := hid (q_trans B.out bb)
  replace K0 := hid (K0.out.below bb)
  clear hh bb
  obtain ⟨t, ht⟩ : ∃ t, gr l = t := ⟨_, rfl⟩
  have HTr : Hid (Tree t) := by unfold Hid; rw [← ht]; exact gr_tree l
  rw [ht] at G
  clear ht
  have hl : tn ≤ 512 := by have h1 := G.out.len; have h2 := HTr.out.len; omega
  have HN := hid G.out.len
  obtain ⟨s0, s1⟩ := K0.out
  rcases Bool.eq_false_or_eq_true (hasK t k) with ho | ho
  · obtain ⟨p, hp⟩ := has_fd ho
    have HF := hid hp
    have HPl := hid (fd_some.1 hp).1
    go_wp2_with fail
    refine (find_at (k := k) p true (by omega) G.out (plc_of hp) ho).mono ?_
    rintro e w1 ⟨rfl, bb⟩
    replace B := hid (q_trans B.out bb)
    replace K0 := hid (K0.out.below bb)
    replace G := hid (G.out.below bb)
    clear bb s0 s1 ho hp
    obtain ⟨s0, s1⟩ := K0.out
    go_wp2_with fail
    refine (bl_any to tn tc t k w1 (by omega) G).mono ?_
    rintro e w2 ⟨bo, bn, bc, rfl, hh, bb⟩
    have HP := hid hh
    replace B := hid (q_trans B.out bb)
    replace K0 := hid (K0.out.below bb)
    replace G := hid (G.out.below bb)
    clear bb hh s0 s1
    have HBn : Hid (bn = ct t p) := by unfold Hid; rw [HP.out.len, len_bl HF.out]
    have hpn : p < tn := by have := HN.out; have := HPl.out; omega
    have hbn : p + bn < tn := by have h1 := ct_in HPl.out; have := HN.out; have := HBn.out; omega
    go_wp2_with fail
    go_loopw [9, 10, 11] (fun a s i wr => ∃ q c d : Nat, q ≤ tn ∧ i = .int .i64 q ∧ a = .int .i64 c ∧ s = .int .i64 d ∧ Hid (c = kc t p q) ∧ Hid (d = ks t p q) ∧ Hid (Below w2.heap.size w2 wr)) (fun _ _ i _ => tn - (intOf i).toNat)
    case atStart => exact ⟨0, 0, 0, Nat.zero_le _, rfl, rfl, rfl, rfl, rfl, Below.refl _ _⟩
    case round =>
      obtain ⟨q, c, d, hq, rfl, rfl, rfl, HC, HD, HW⟩ := hrel
      have hc : (c : Int) ≤ 1000 := by have h1 := HC.out; have h2 := kc_le t p q; omega
      have hd : (d : Int) ≤ 1000000 := by have h1 := HD.out; have h2 := ks_le HTr.out.len p q; omega
      have hc0 : (0 : Int) ≤ (c : Int) := by omega
      have hd0 : (0 : Int) ≤ (d : Int) := by omega
      by_cases hlt : q < tn
      · have i1 : (0 : Int) ≤ (q : Int) := by omega
        have i2 : (q : Int) < (tn : Int) := by omega
        have HQl : Hid (q < t.length) := by have := HN.out; unfold Hid; omega
        obtain ⟨a, rfl, ca⟩ := (G.out.below HW.out).at q hlt
        obtain ⟨x, hx⟩ : ∃ x, t.getD q zB = x := ⟨_, rfl⟩
        have HXk : Hid (Ky t q = x.1) := by unfold Hid Ky; rw [hx]
        have HXd : Hid (D t q = x.2.1) := by unfold Hid D; rw [hx]
        rw [hx] at ca
        have HCA := hid ca
        obtain ⟨f0, f1, _, _⟩ := ca
        have HDep : Hid (prB t x.1 = !(x.2.1 == 0)) := by have h := par_dep HTr.out HQl.out; rwa [HXk.out, HXd.out] at h
        have HKid : Hid ((prB t x.1 = true ∧ prK t x.1 = k) ↔ kid t p q) := by have h := par_kid HTr.out HQl.out HF.out; rwa [HXk.out] at h
        have HFx : Hid (fd x.1 t = some q) := by have h := fd_one HTr.out HQl.out; rwa [HXk.out] at h
        clear hx
        obtain ⟨y, hy⟩ : ∃ y, prK t x.1 = y := ⟨_, rfl⟩
        rw [hy] at HKid
        have HYy := hid hy
        clear hy
        rcases Bool.eq_false_or_eq_true (prB t x.1) with hb | hb
        · have hdz : (x.2.1 == 0) = false := by rw [HDep.out] at hb; simpa using hb
          go_wp2_with fail
          refine (par_at (k := x.1) y true (by omega) (G.out.below HW.out) HYy.out hb).mono ?_
          rintro e w3 ⟨rfl, bb⟩
          have W3 := hid (q_alloc (q_trans HW.out bb) (.cells #[.int .i64 y.1, .int .i64 y.2] 24))
          have C3 := hid ((HCA.out.below bb).below (alloc_below w3 (.cells #[.int .i64 y.1, .int .i64 y.2] 24)))
          have Y3 := hid (at_new w3 y 24)
          have K3 := hid (K0.out.below W3.out)
          clear bb f0 f1
          obtain ⟨f0, f1, f2, _⟩ := C3.out
          obtain ⟨y0, y1⟩ := Y3.out
          obtain ⟨s0, s1⟩ := K3.out
          by_cases he : y = k
          · have ee := eqk_yes he
            have HK := hid (kc_yes (HKid.out.1 ⟨hb, he⟩))
            clear he hb
            go_wp2_with fail
            refine (bl_any (some a) tn tc t x.1 _ (by omega) (G.out.below W3.out)).mono ?_
            rintro e w4 ⟨zo, zn, zc, rfl, hh, bb⟩
            have HZn : Hid (zn = ct t q) := by unfold Hid; rw [hh.len, len_bl HFx.out]
            have hzn : (zn : Int) ≤ 1000 := by have h1 := HZn.out; have h2 := ct_le t q; have h3 := HTr.out.len; omega
            have hzn0 : (0 : Int) ≤ (zn : Int) := by omega
            have W4 := hid (q_trans W3.out bb)
            have C4 := hid (C3.out.below bb)
            clear hh bb f0 f1 f2 y0 y1 s0 s1
            obtain ⟨f0, f1, f2, _⟩ := C4.out
            have hre : (true == false) = false := rfl
            go_wp2_with fail
            go_roundw
            case rel => exact ⟨q + 1, c + 1, d + 1 + zn, by omega, by go_num, by go_num, by go_num, by have h1 := HC.out; unfold Hid; rw [HK.out.1]; omega, by have h1 := HD.out; have h2 := HZn.out; unfold Hid; rw [HK.out.2]; omega, W4⟩
            case measure => simp [intOf]; omega
          · have ee := eqk_no he
            have HK := hid (kc_no (fun h => he (HKid.out.2 h).2))
            clear he hb
            have hre : (true == false) = false := rfl
            go_wp2_with fail
            go_roundw
            case rel => exact ⟨q + 1, c, d, by omega, by go_num, rfl, rfl, by unfold Hid; rw [HK.out.1]; exact HC.out, by unfold Hid; rw [HK.out.2]; exact HD.out, W3⟩
            case measure => simp [intOf]; omega
        · have hdz : (x.2.1 == 0) = true := by rw [HDep.out] at hb; simpa using hb
          have HK := hid (kc_no (fun h => by have h2 := (HKid.out.2 h).1; rw [hb] at h2; cases h2))
          go_wp2_with fail
          refine (par_at (k := x.1) y false (by omega) (G.out.below HW.out) HYy.out hb).mono ?_
          rintro e w3 ⟨rfl, bb⟩
          have W3 := hid (q_alloc (q_trans HW.out bb) (.cells #[.int .i64 y.1, .int .i64 y.2] 24))
          have C3 := hid ((HCA.out.below bb).below (alloc_below w3 (.cells #[.int .i64 y.1, .int .i64 y.2] 24)))
          clear bb f0 f1 hb
          obtain ⟨f0, f1, f2, _⟩ := C3.out
          have hre : (false == true) = false := rfl
          go_wp2_with fail
          go_roundw
          case rel => exact ⟨q + 1, c, d, by omega, by go_num, rfl, rfl, by unfold Hid; rw [HK.out.1]; exact HC.out, by unfold Hid; rw [HK.out.2]; exact HD.out, W3⟩
          case measure => simp [intOf]; omega
      · obtain rfl : q = tn := by omega
        have HSum : Hid (d = bn) := by have h1 := HD.out; have h2 := ks_all HPl.out; have h3 := HN.out; have h4 := HBn.out; unfold Hid; rw [h1, h4, ← h2, h3]
        have HKd : Hid (c = 0 ↔ bn = 0) := by have h1 := HC.out; have h2 := kc_iff (t := t) (p := p); have h3 := HN.out; have h4 := HBn.out; unfold Hid; rw [h1, h4, ← h2, h3]
        go_wp2_with fail
        go_loopw [14] (fun i wr => ∃ m : Nat, m ≤ bn ∧ i = .int .i64 m ∧ Hid (Below w2.heap.size w2 wr)) (fun i _ => bn - (intOf i).toNat)
        case atStart => exact ⟨0, Nat.zero_le _, rfl, HW⟩
        case round =>
          obtain ⟨m, hm, rfl, HV⟩ := hrel
          by_cases hlm : m < bn
          · have i3 : (m : Int) < (bn : Int) := by omega
            have i4 : (0 : Int) ≤ (m : Int) := by omega
            obtain ⟨r, hr⟩ : ∃ r, r = p + 1 + m := ⟨_, rfl⟩
            have hr1 : (p : Int) + 1 + (m : Int) = (r : Int) := by omega
            have hrn : r < q := by omega
            have hr2 : (r : Int) < (q : Int) := by omega
            have hr3 : (0 : Int) ≤ (r : Int) := by omega
            have hp3 : (p : Int) ≤ 1000 := by omega
            have hm3 : (m : Int) ≤ 1000 := by omega
            have HR := hid hr
            have HG := hid (bl_get HF.out (n := m) (by rw [len_bl HF.out, ← HBn.out]; exact hlm)).2
            obtain ⟨a, rfl, ca⟩ := (G.out.below HV.out).at r hrn
            obtain ⟨b2, rfl, cb⟩ := (HP.out.below HV.out).at m hlm
            obtain ⟨z, hz⟩ : ∃ z, Ky t r = z := ⟨_, rfl⟩
            rw [HG.out, ← hr, hz] at cb
            obtain ⟨f0, f1, _, _⟩ := ca.always
            rw [show (t.getD r zB).1 = z from hz] at f0 f1
            obtain ⟨g0, g1⟩ := cb.always
            have hne : Nonempty (Later wr) := ⟨⟨_, Below.refl _ _⟩⟩
            have ee : ∀ w : World, (Op.equalIn 10000 24 (.agg #[.int .i64 z.1, .int .i64 z.2]) (.agg #[.int .i64 z.1, .int .i64 z.2])).run Try.prog w = .ok true w := eqk_yes rfl
            clear ca cb hz hr
            go_wp2_with fail
            have hr4 : ¬ (r : Int) ≥ (q : Int) := by omega
            refine wp_region_later (by kernel_rfl) (by kernel_rfl) ?_
            repeat (go_big_quiet_step (fail))
            refine wpQuiet_nil ?_
            rintro w9 ⟨⟨_, b9⟩, rfl⟩
            have HV9 := hid (q_trans HV.out b9)
            clear b9 f0 f1 g0 g1 hne ee hr1
            go_wp2_with fail
            go_roundw
            case rel => exact ⟨m + 1, by omega, by go_num, HV9⟩
            case measure => simp [intOf]; omega
          · obtain rfl : m = bn := by omega
            have hsum : ((d : Int) == (m : Int)) = true := by have := HSum.out; simp; omega
            rcases Nat.eq_zero_or_pos m with hz | hz
            · have h1 : ((c : Int) == 0) = true := by have := HKd.out.2 hz; simp [this]
              have h2 : ((m : Int) == 0) = true := by simp [hz]
              have h3 : (true == true) = true := rfl
              clear hz
              go_wp2_with fail
              refine (live_any _).mono ?_
              rintro e wz ⟨rfl, bb⟩
              have BZ := hid (q_trans (q_trans B.out HV.out) bb)
              clear bb
              go_wp2_with fail
              go_ret
              exact ⟨rfl, BZ.out⟩
            · have h1 : ((c : Int) == 0) = false := by have := HKd.out; simp; omega
              have h2 : ((m : Int) == 0) = false := by simp; omega
              have h3 : (false == false) = true := rfl
              clear hz
              go_wp2_with fail
              refine (live_any _).mono ?_
              rintro e wz ⟨rfl, bb⟩
              have BZ := hid (q_trans (q_trans B.out HV.out) bb)
              clear bb
              go_wp2_with fail
              go_ret
              exact ⟨rfl, BZ.out⟩
  · go_wp2_with fail
    refine (find_at (k := k) (plc t k) false (by omega) G.out rfl ho).mono ?_
    rintro e w1 ⟨rfl, bb⟩
    replace B := hid (q_trans B.out bb)
    replace K0 := hid (K0.out.below bb)
    replace G := hid (G.out.below bb)
    clear bb s0 s1
    obtain ⟨s0, s1⟩ := K0.out
    go_wp2_with fail
    refine (bl_at2 (k := k) [] 0 (by omega) G.out (by unfold blL; rw [has_no ho]) rfl).mono ?_
    rintro e w2 ⟨bo, bc, rfl, hh, bb⟩
    replace B := hid (q_trans B.out bb)
    clear bb hh s0 s1 ho
    go_wp2_with fail
    refine (live_any _).mono ?_
    rintro e wz ⟨rfl, bb⟩
    have BZ := hid (q_trans B.out bb)
    clear bb
    go_wp2_with fail
    go_ret
    exact ⟨rfl, BZ.out⟩
/-- TREECOUNTS. -/
theorem counts_any (ao : Option Addr) (n cap : Nat) (l : List Ac) (k : P) (w : World) (HH : HasC w ao n cap l) :
    Calls Try.prog 3 #[.slice ao n cap, (.agg #[.int .i64 k.1, .int .i64 k.2])] w fun e w' => e = .returned (.bool true) ∧ Below w.heap.size w w' := by
  rcases Nat.lt_or_ge 60 n with q | q
  · exact counts_long ao n cap k w q
  · exact counts_in ao n cap l k w q HH
end Go.Proofs.Ytdaakigofpehjab.Tr
