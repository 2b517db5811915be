/- GrabAlone answers true. -/
import Derived.Test.YtaihabkacjbfjaaGrSys
import Derived.Test.YtaihabkacjbfjaaGrLive
namespace Go.Proofs.Ytaihabkacjbfjaa.Gr
open Go.RowKit Go.Proofs.Ytaihabkacjbfjaa.Ce

set_option maxRecDepth 100000 in
set_option maxHeartbeats 4000000 in
theorem alonel_any (ao : Option Addr) (ws : List (Bool × List Int)) (n cap : Nat) (po : Option Addr) (ps : List Int) (m kap : Nat) (w : World) (hn : n ≤ 9223372036854775807) (HW : Hid (HasW w ao n ws)) (hm : m ≤ 9223372036854775807) (HP : Hid (Has w po m kap ps)) :
    Calls Try.prog 5 #[.slice ao n cap, .slice po m kap] w fun e w' => e = .returned (.bool true) ∧ Below w.heap.size w w' := by
  have CB := hid (begins_any ao n cap ws w hn HW)
  go_enter Try.func5, Try.ntmps5
  go_wp2_with fail
  refine CB.out.mono ?_
  rintro e w1 (⟨rfl, b1⟩ | ⟨h6, go, gcap, xs, rfl, hG, hL, hA⟩)
  · have HB1 := hid b1
    clear b1 CB
    go_wp2_with fail
    refine (live_any _).mono ?_
    rintro e w2 ⟨rfl, b2⟩
    have HB2 := hid (q_trans HB1.out b2)
    clear b2
    go_wp2_with fail
    go_ret
    exact ⟨rfl, HB2.out⟩
  · have HG := hid hG
    have HL := hid hL
    have HA := hid hA
    clear hG hL hA CB
    by_cases h300 : (300 : Int) < (m : Int)
    · go_wp2_with fail
      refine (live_any _).mono ?_
      rintro e w2 ⟨rfl, b2⟩
      have HB2 := hid (q_trans HG.out.low b2)
      clear b2
      go_wp2_with fail
      go_ret
      exact ⟨rfl, HB2.out⟩
    · go_wp2_with fail
      refine (new_yes 8 _ (by decide)).mono ?_
      rintro e w2 ⟨rfl, hc2, b2⟩
      have HS := hid (sys_start HG.out hc2 b2)
      have HI : Hid (Inv (stOf xs (S.new 8).vs)) := inv_start (fun j hj => HA.out j (by rw [← HL.out]; exact hj))
      have HR : Hid (Rn xs (S.new 8) 0) := rn_start (fun j hj => HA.out j (by rw [← HL.out]; exact hj))
      have HPW := hid (HP.out.below HS.out.low)
      clear hc2 b2 HG HA HW
      generalize w1.heap.size = gb at HS ⊢
      go_wp2_with fail
      refine (num_any 0 _).mono ?_
      rintro e w3 ⟨rfl, hw⟩
      rw [hw]
      clear hw w3
      go_wp2_with fail
      go_loopw [9] (fun i wr => ∃ (j : Nat) (tao : Option Addr) (tcap : Nat) (s : S) (xs : List Gh), j ≤ m ∧ i = .int .i64 j ∧ Hid (Sys w wr (gb + 1) gb 8 tao tcap s go gcap xs) ∧ Hid (Inv (stOf xs s.vs)) ∧ Hid (Rn xs s j) ∧ Hid (xs.length = n)) (fun i _ => m - (intOf i).toNat)
      case atStart => exact ⟨0, none, 0, S.new 8, xs, Nat.zero_le _, rfl, HS, HI, HR, HL⟩
      case round =>
        clear HS HI HR HL HPW
        obtain ⟨j, tao, tcap, s, xs, hj, rfl, HS, HI, HR, HL⟩ := hrel
        by_cases hlt : j < m
        · have i1 : (0 : Int) ≤ (j : Int) := by omega
          have i2 : (j : Int) < (m : Int) := by omega
          obtain ⟨a, e, ck⟩ := (HP.out.below HS.out.low).cell j hlt
          subst e
          obtain ⟨x, hx⟩ : ∃ x, ps.getD j 0 = x := ⟨_, rfl⟩
          rw [hx] at ck
          clear hx
          by_cases hx0 : x < 0
          · go_wp2_with fail
            go_roundw
            case rel => exact ⟨j + 1, tao, tcap, s, xs, by omega, by go_num, HS, HI, HR.out.mono (by omega), HL⟩
            case measure => simp [intOf]; omega
          · by_cases hxn : (n : Int) ≤ x
            · go_wp2_with fail
              go_roundw
              case rel => exact ⟨j + 1, tao, tcap, s, xs, by omega, by go_num, HS, HI, HR.out.mono (by omega), HL⟩
              case measure => simp [intOf]; omega
            · obtain ⟨K, rfl⟩ : ∃ K : Nat, x = (K : Int) := ⟨x.toNat, by omega⟩
              have hKx : K < xs.length := by rw [HL.out]; omega
              obtain ⟨g, e⟩ := HS.out.blk (by omega)
              subst e
              have k1 : (0 : Int) ≤ (K : Int) := by omega
              have k2 : (K : Int) < (n : Int) := by omega
              have CD := hid (does_sys HS.out HI.out HR.out (by omega) hKx)
              have hAt := HS.out.at_ K hKx
              have HKX := hid hKx
              have a0 := hAt 0 _ rfl
              have a1 := hAt 1 _ rfl
              have a2 := hAt 2 _ rfl
              have a3 := hAt 3 _ rfl
              have a4 := hAt 4 _ rfl
              have a5 := hAt 5 _ rfl
              simp only [Nat.add_zero] at a0
              clear hKx hAt
              go_wp2_with fail
              refine CD.out.mono ?_
              rintro e w4 ⟨ao4, cap4, tao4, tcap4, rfl, d⟩
              have HS4 := hid (HS.out.store (x := nxG xs s K ao4 cap4) HKX.out d (do_cs _ _))
              have HI4 : Hid (Inv (stOf (xs.set K (nxG xs s K ao4 cap4)) (doS (xs.getD K Gh.zero).g s).vs)) := by
                rw [st_step xs s K ao4 cap4 HKX.out]
                exact (turnX HI.out (by rw [stOf_len]; exact HKX.out)).1
              have HR4 := hid (HR.out.step (ao := ao4) (cap := cap4) HKX.out)
              have HL4 : Hid ((xs.set K (nxG xs s K ao4 cap4)).length = n) := by rw [List.length_set]; exact HL.out
              obtain ⟨hAt, d6⟩ := after_does HS.out d HKX.out
              clear a0 a1 a2 a3 a4 a5
              have d0 := hAt 0 _ rfl
              have d1 := hAt 1 _ rfl
              have d2 := hAt 2 _ rfl
              have d3 := hAt 3 _ rfl
              have d4 := hAt 4 _ rfl
              have d5 := hAt 5 _ rfl
              simp only [Nat.add_zero] at d0
              clear d CD hAt HS HI HR
              generalize doS (xs.getD K Gh.zero).g s = s4 at HS4 HI4 HR4
              generalize hy : nxG xs s K ao4 cap4 = y at HS4 HI4 HR4 HL4 ⊢
              have hy1 : y.ao = ao4 := by rw [← hy]; rfl
              have hy2 : y.cap = cap4 := by rw [← hy]; rfl
              subst hy1
              subst hy2
              generalize xs.set K y = xs4 at HS4 HI4 HR4 HL4
              clear hy
              go_wp2_with fail
              clear d0 d1 d2 d3 d4 d5 d6
              generalize (((((w4.setCell _ _).setCell _ _).setCell _ _).setCell _ _).setCell _ _).setCell _ _ = W5 at HS4 ⊢
              refine (alone_any n HS4 HI4 HL4 h6).mono ?_
              rintro e w6 ⟨rfl, b6⟩
              have HS6 := hid (HS4.out.below b6)
              clear b6 HS4
              go_wp2_with fail
              go_roundw
              case rel => exact ⟨j + 1, tao4, tcap4, s4, xs4, by omega, by go_num, HS6, HI4, HR4, HL4⟩
              case measure => simp [intOf]; omega
        · go_wp2_with fail
          refine (live_any _).mono ?_
          rintro e w3 ⟨rfl, b3⟩
          have HB3 := hid (q_trans HS.out.low b3)
          clear b3
          go_wp2_with fail
          go_ret
          exact ⟨rfl, HB3.out⟩
end Go.Proofs.Ytaihabkacjbfjaa.Gr
