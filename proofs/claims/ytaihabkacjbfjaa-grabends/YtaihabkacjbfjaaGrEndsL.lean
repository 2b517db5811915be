/- GrabEnds answers true. -/
import Derived.Test.YtaihabkacjbfjaaGrSys
import Derived.Test.YtaihabkacjbfjaaGrLive
import Derived.Deep.Cut
namespace Go.Proofs.Ytaihabkacjbfjaa.Gr
open Go.RowKit Go.Proofs.Ytaihabkacjbfjaa.Ce

theorem round_mod (n r k : Nat) (hk : k < n) : (n * r + k) % n = k := by rw [Nat.mul_add_mod, Nat.mod_eq_of_lt hk]
set_option maxRecDepth 100000 in
set_option maxHeartbeats 8000000 in
theorem endsl_any (ao : Option Addr) (ws : List (Bool × List Int)) (n cap : Nat) (po : Option Addr) (ps : List Int) (m kap : Nat) (w : World) (hn : n ≤ 9223372036854775807) (HW : Hid (HasW w ao n ws)) (hm : m ≤ 9223372036854775807) (HP : Hid (Has w po m kap ps)) :
    Calls Try.prog 6 #[.slice ao n cap, .slice po m kap] w fun e w' => e = .returned (.bool true) ∧ Below w.heap.size w w' := by
  have CB := hid (begins_any ao n cap ws w hn HW)
  go_enter Try.func6, Try.ntmps6
  go_wp2_with fail
  refine CB.out.mono ?_
  rintro e w1 (⟨rfl, b1⟩ | ⟨h6, go, gcap, xs, rfl, hG, hL, hA⟩)
  · have HB1 := hid b1
    clear b1 CB
    go_wp2_with fail
    refine (live_any _).mono ?_
    rintro e w2 ⟨rfl, b2⟩
    have HB2 := hid (q_trans HB1.out b2)
    clear b2
    go_wp2_with fail
    go_ret
    exact ⟨rfl, HB2.out⟩
  · have HG := hid hG
    have HL := hid hL
    have HA := hid hA
    clear hG hL hA CB
    by_cases h300 : (300 : Int) < (m : Int)
    · go_wp2_with fail
      refine (live_any _).mono ?_
      rintro e w2 ⟨rfl, b2⟩
      have HB2 := hid (q_trans HG.out.low b2)
      clear b2
      go_wp2_with fail
      go_ret
      exact ⟨rfl, HB2.out⟩
    · have HM3 := hid (show m ≤ 300 by omega)
      go_wp2_with fail
      refine (new_yes 8 _ (by decide)).mono ?_
      rintro e w2 ⟨rfl, hc2, b2⟩
      have HS := hid (sys_start HG.out hc2 b2)
      have HI : Hid (Inv (stOf xs (S.new 8).vs)) := inv_start (fun j hj => HA.out j (by rw [← HL.out]; exact hj))
      have HR : Hid (Rn xs (S.new 8) 0) := rn_start (fun j hj => HA.out j (by rw [← HL.out]; exact hj))
      clear hc2 b2 HG HA HW
      generalize w1.heap.size = gb at HS ⊢
      go_wp2_with fail
      refine (num_any 0 _).mono ?_
      rintro e w3 ⟨rfl, hw⟩
      rw [hw]
      clear hw w3
      go_wp2_with fail
      go_loopw [9] (fun i wr => ∃ (j : Nat) (tao : Option Addr) (tcap : Nat) (s : S) (xs : List Gh), j ≤ m ∧ i = .int .i64 j ∧ Hid (Sys w wr (gb + 1) gb 8 tao tcap s go gcap xs) ∧ Hid (Inv (stOf xs s.vs)) ∧ Hid (Rn xs s j) ∧ Hid (xs.length = n)) (fun i _ => m - (intOf i).toNat)
      case atStart => exact ⟨0, none, 0, S.new 8, xs, Nat.zero_le _, rfl, HS, HI, HR, HL⟩
      case round =>
        clear HS HI HR HL
        obtain ⟨j, tao, tcap, s, xs, hj, rfl, HS, HI, HR, HL⟩ := hrel
        by_cases hlt : j < m
        · have i1 : (0 : Int) ≤ (j : Int) := by omega
          have i2 : (j : Int) < (m : Int) := by omega
          obtain ⟨a, e, ck⟩ := (HP.out.below HS.out.low).cell j hlt
          subst e
          obtain ⟨x, hx⟩ : ∃ x, ps.getD j 0 = x := ⟨_, rfl⟩
          rw [hx] at ck
          clear hx
          by_cases hx0 : x < 0
          · go_wp2_with fail
            go_roundw
            case rel => exact ⟨j + 1, tao, tcap, s, xs, by omega, by go_num, HS, HI, HR.out.mono (by omega), HL⟩
            case measure => simp [intOf]; omega
          · by_cases hxn : (n : Int) ≤ x
            · go_wp2_with fail
              go_roundw
              case rel => exact ⟨j + 1, tao, tcap, s, xs, by omega, by go_num, HS, HI, HR.out.mono (by omega), HL⟩
              case measure => simp [intOf]; omega
            · obtain ⟨K, rfl⟩ : ∃ K : Nat, x = (K : Int) := ⟨x.toNat, by omega⟩
              have hKx : K < xs.length := by rw [HL.out]; omega
              have k1 : (0 : Int) ≤ (K : Int) := by omega
              have k2 : (K : Int) < (n : Int) := by omega
              obtain ⟨g, e⟩ := HS.out.blk (by omega)
              subst e
              have CD := hid (does_sys HS.out HI.out HR.out (by omega) hKx)
              have hAt := HS.out.at_ K hKx
              have HKX := hid hKx
              have a0 := hAt 0 _ rfl
              have a1 := hAt 1 _ rfl
              have a2 := hAt 2 _ rfl
              have a3 := hAt 3 _ rfl
              have a4 := hAt 4 _ rfl
              have a5 := hAt 5 _ rfl
              simp only [Nat.add_zero] at a0
              clear hKx hAt
              go_wp2_with fail
              refine CD.out.mono ?_
              rintro e w4 ⟨ao4, cap4, tao4, tcap4, rfl, d⟩
              have HS4 := hid (HS.out.store (x := nxG xs s K ao4 cap4) HKX.out d (do_cs _ _))
              have HI4 : Hid (Inv (stOf (xs.set K (nxG xs s K ao4 cap4)) (doS (xs.getD K Gh.zero).g s).vs)) := by
                rw [st_step xs s K ao4 cap4 HKX.out]
                exact (turnX HI.out (by rw [stOf_len]; exact HKX.out)).1
              have HR4 := hid (HR.out.step (ao := ao4) (cap := cap4) HKX.out)
              have HL4 : Hid ((xs.set K (nxG xs s K ao4 cap4)).length = n) := by rw [List.length_set]; exact HL.out
              have HT4 := hid (st_step xs s K ao4 cap4 HKX.out)
              have HO4 : Hid (∀ i, i ≠ K → (xs.set K (nxG xs s K ao4 cap4)).getD i Gh.zero = xs.getD i Gh.zero) := fun i hi => by
                simp only [List.getD, List.getElem?_set]
                rw [if_neg (fun e => hi e.symm)]
              have HY4 : Hid ((xs.set K (nxG xs s K ao4 cap4)).getD K Gh.zero = nxG xs s K ao4 cap4) := by
                have := HKX.out
                simp [Hid, List.getD, this]
              obtain ⟨hAt, d6⟩ := after_does HS.out d HKX.out
              clear a0 a1 a2 a3 a4 a5
              have d0 := hAt 0 _ rfl
              have d1 := hAt 1 _ rfl
              have d2 := hAt 2 _ rfl
              have d3 := hAt 3 _ rfl
              have d4 := hAt 4 _ rfl
              have d5 := hAt 5 _ rfl
              simp only [Nat.add_zero] at d0
              clear d CD hAt HS HI HR
              generalize doS (xs.getD K Gh.zero).g s = s4 at HS4 HI4 HR4 HT4
              generalize hy : nxG xs s K ao4 cap4 = y at HS4 HI4 HR4 HL4 HT4 HO4 HY4 ⊢
              have hy1 : y.ao = ao4 := by rw [← hy]; rfl
              have hy2 : y.cap = cap4 := by rw [← hy]; rfl
              subst hy1
              subst hy2
              generalize xs.set K y = xs4 at HS4 HI4 HR4 HL4 HT4 HO4 HY4
              clear hy
              go_wp2_with fail
              clear d0 d1 d2 d3 d4 d5 d6
              go_roundw
              case rel => exact ⟨j + 1, tao4, tcap4, s4, xs4, by omega, by go_num, HS4, HI4, HR4, HL4⟩
              case measure => simp [intOf]; omega
        · obtain rfl : j = m := by omega
          have HI0 := HI
          have HL0 := HL
          obtain ⟨st, hst⟩ : ∃ st, stOf xs s.vs = st := ⟨_, rfl⟩
          have HST : Hid (Inv st ∧ st.gs.length = n) := by rw [← hst]; exact ⟨HI.out, (stOf_len _ _).trans HL.out⟩
          have HRU : Hid (0 < n → stOf xs s.vs = run n st (n * 0)) := fun _ => by rw [hst]; rfl
          have HR0 : Hid (Rn xs s (300 + n * 0)) := HR.out.mono (by have := HM3.out; omega)
          clear hst HR
          go_wp2_with fail
          go_loopw [11] (fun i wr => ∃ (r : Nat) (tao : Option Addr) (tcap : Nat) (s : S) (xs : List Gh), r ≤ 2000 ∧ i = .int .i64 r ∧ Hid (Sys w wr (gb + 1) gb 8 tao tcap s go gcap xs) ∧ Hid (Inv (stOf xs s.vs)) ∧ Hid (Rn xs s (300 + n * r)) ∧ Hid (xs.length = n) ∧ Hid (0 < n → stOf xs s.vs = run n st (n * r))) (fun i _ => 2000 - (intOf i).toNat)
          case atStart => exact ⟨0, tao, tcap, s, xs, by decide, rfl, HS, HI, HR0, HL, HRU⟩
          case round =>
            clear HS HI HR0 HL HRU HI0 HL0
            obtain ⟨r, tao, tcap, s, xs, hr, rfl, HS, HI, HR, HL, HU⟩ := hrel
            by_cases hr2 : r < 2000
            · have r1 : (r : Int) < 2000 := by omega
              have hnr : n * r ≤ 6 * 2000 := Nat.mul_le_mul h6 (by omega)
              have HNR := hid hnr
              clear hnr
              go_wp2_with fail
              go_loopw [12, 13] (fun sd i wr => ∃ (K : Nat) (tao : Option Addr) (tcap : Nat) (s : S) (xs : List Gh) (dn : Bool), K ≤ n ∧ i = .int .i64 K ∧ sd = .bool dn ∧ Hid (Sys w wr (gb + 1) gb 8 tao tcap s go gcap xs) ∧ Hid (Inv (stOf xs s.vs)) ∧ Hid (Rn xs s (300 + n * r + K)) ∧ Hid (xs.length = n) ∧ Hid (0 < n → stOf xs s.vs = run n st (n * r + K)) ∧ Hid (dn = true → ∀ i, i < K → (xs.getD i Gh.zero).g.p = 5)) (fun _ i _ => n - (intOf i).toNat)
              case atStart => exact ⟨0, tao, tcap, s, xs, true, Nat.zero_le _, rfl, rfl, HS, HI, HR, HL, HU, fun _ i hi => absurd hi (by omega)⟩
              case round =>
                clear HS HI HR HL HU
                obtain ⟨K, tao, tcap, s, xs, dn, hK, rfl, rfl, HS, HI, HR, HL, HU, HD⟩ := hrel
                by_cases hKn : K < n
                · have k1 : (0 : Int) ≤ (K : Int) := by omega
                  have k2 : (K : Int) < (n : Int) := by omega
                  have hKx : K < xs.length := by rw [HL.out]; exact hKn
                  obtain ⟨g, e⟩ := HS.out.blk (by omega)
                  subst e
                  have CD := hid (does_sys HS.out HI.out HR.out (by have := HNR.out; omega) hKx)
                  have hAt := HS.out.at_ K hKx
                  have HKX := hid hKx
                  have a0 := hAt 0 _ rfl
                  have a1 := hAt 1 _ rfl
                  have a2 := hAt 2 _ rfl
                  have a3 := hAt 3 _ rfl
                  have a4 := hAt 4 _ rfl
                  have a5 := hAt 5 _ rfl
                  simp only [Nat.add_zero] at a0
                  clear hKx hAt
                  go_wp2_with fail
                  refine CD.out.mono ?_
                  rintro e w4 ⟨ao4, cap4, tao4, tcap4, rfl, d⟩
                  have HS4 := hid (HS.out.store (x := nxG xs s K ao4 cap4) HKX.out d (do_cs _ _))
                  have HI4 : Hid (Inv (stOf (xs.set K (nxG xs s K ao4 cap4)) (doS (xs.getD K Gh.zero).g s).vs)) := by
                    rw [st_step xs s K ao4 cap4 HKX.out]
                    exact (turnX HI.out (by rw [stOf_len]; exact HKX.out)).1
                  have HR4 := hid (HR.out.step (ao := ao4) (cap := cap4) HKX.out)
                  have HL4 : Hid ((xs.set K (nxG xs s K ao4 cap4)).length = n) := by rw [List.length_set]; exact HL.out
                  have HT4 := hid (st_step xs s K ao4 cap4 HKX.out)
                  have HO4 : Hid (∀ i, i ≠ K → (xs.set K (nxG xs s K ao4 cap4)).getD i Gh.zero = xs.getD i Gh.zero) := fun i hi => by
                    simp only [List.getD, List.getElem?_set]
                    rw [if_neg (fun e => hi e.symm)]
                  have HY4 : Hid ((xs.set K (nxG xs s K ao4 cap4)).getD K Gh.zero = nxG xs s K ao4 cap4) := by
                    have := HKX.out
                    simp [Hid, List.getD, this]
                  obtain ⟨hAt, d6⟩ := after_does HS.out d HKX.out
                  clear a0 a1 a2 a3 a4 a5
                  have d0 := hAt 0 _ rfl
                  have d1 := hAt 1 _ rfl
                  have d2 := hAt 2 _ rfl
                  have d3 := hAt 3 _ rfl
                  have d4 := hAt 4 _ rfl
                  have d5 := hAt 5 _ rfl
                  simp only [Nat.add_zero] at d0
                  clear d CD hAt HS HI HR
                  generalize doS (xs.getD K Gh.zero).g s = s4 at HS4 HI4 HR4 HT4
                  generalize hy : nxG xs s K ao4 cap4 = y at HS4 HI4 HR4 HL4 HT4 HO4 HY4 ⊢
                  have hy1 : y.ao = ao4 := by rw [← hy]; rfl
                  have hy2 : y.cap = cap4 := by rw [← hy]; rfl
                  subst hy1
                  subst hy2
                  generalize xs.set K y = xs4 at HS4 HI4 HR4 HL4 HT4 HO4 HY4
                  clear hy
                  go_upto_region 21 with fail
                  clear d0 d1 d2 d3 d4 d5 d6
                  generalize (((((w4.setCell _ _).setCell _ _).setCell _ _).setCell _ _).setCell _ _).setCell _ _ = W5 at HS4 ⊢
                  have c2 := HS4.out.at_ K (by rw [HL4.out]; exact hKn) 2 _ rfl
                  rw [HY4.out] at c2
                  have HU4 : Hid (0 < n → stOf xs4 s4.vs = run n st (n * r + (K + 1))) := fun h0 => by
                    rw [HT4.out, HU.out h0, ← Nat.add_assoc]
                    show _ = (run n st (n * r + K)).step ((n * r + K) % n)
                    rw [round_mod n r K hKn]
                  have HD4 : Hid (dn = true ∧ y.g.p = 5 → ∀ i, i < K + 1 → (xs4.getD i Gh.zero).g.p = 5) := fun hd i hi => by
                    by_cases e : i = K
                    · subst e; rw [HY4.out]; exact hd.2
                    · rw [HO4.out i e]; exact HD.out hd.1 i (by omega)
                  clear HU HD HT4 HO4 HY4
                  cases dn with
                  | true =>
                    by_cases hy5 : y.g.p = 5
                    · have hyb : (y.g.p == 5) = true := by simpa using hy5
                      have HD5 : Hid (true = true → ∀ i, i < K + 1 → (xs4.getD i Gh.zero).g.p = 5) := fun _ => HD4.out ⟨rfl, hy5⟩
                      clear hy5 HD4
                      go_wp2_with fail
                      go_roundw
                      case rel => exact ⟨K + 1, tao4, tcap4, s4, xs4, true, by omega, by go_num, by rfl, HS4, HI4, HR4, HL4, HU4, HD5⟩
                      case measure => simp [intOf]; omega
                    · have hyb : (y.g.p == 5) = false := by simpa using hy5
                      clear hy5 HD4
                      go_wp2_with fail
                      go_roundw
                      case rel => exact ⟨K + 1, tao4, tcap4, s4, xs4, false, by omega, by go_num, by rfl, HS4, HI4, HR4, HL4, HU4, fun e => by cases e⟩
                      case measure => simp [intOf]; omega
                  | false =>
                    clear HD4
                    go_wp2_with fail
                    go_roundw
                    case rel => exact ⟨K + 1, tao4, tcap4, s4, xs4, false, by omega, by go_num, by rfl, HS4, HI4, HR4, HL4, HU4, fun e => by cases e⟩
                    case measure => simp [intOf]; omega
                · obtain rfl : K = n := by omega
                  cases dn with
                  | true =>
                    have HD : Hid (∀ i, i < K → (xs.getD i Gh.zero).g.p = 5) := HD.out rfl
                    clear HU HR
                    have HI9 := HI
                    have HD9 : Hid (∀ i, i < K → (xs.getD i Gh.zero).g.p = 5) := HD
                    have HL9 := HL
                    have HS9 := HS
                    have HZ9 : Hid (∀ c, c < 8 → s.vs.getD c 0 = 0) := fun c hc => all_free HI9.out (fun i hi => by
                      rw [stOf_len] at hi
                      rw [stOf_g xs s.vs i hi]
                      exact HD9.out i (by rw [← HL9.out]; exact hi)) c hc
                    have HV9 : Hid (s.vs.length = 8) := HI9.out.len
                    obtain ⟨W9, hW9⟩ : ∃ W9, W9 = wr := ⟨_, rfl⟩
                    subst hW9
                    have CP := hid (peek_any (hid HS9.out.cel) (by have := HV9.out; omega))
                    rw [HV9.out] at CP
                    clear HI HD HL HS
                    go_wp2_with fail
                    go_loop [14] (fun i => ∃ q : Nat, q ≤ K ∧ i = .int .i64 q) (fun i => K - (intOf i).toNat)
                    case atStart => exact ⟨0, Nat.zero_le _, rfl⟩
                    case round =>
                      obtain ⟨q, hq, rfl⟩ := hrel
                      by_cases hqn : q < K
                      · have q1 : (0 : Int) ≤ (q : Int) := by omega
                        have q2 : (q : Int) < (K : Int) := by omega
                        have hqx : q < xs.length := by rw [HL9.out]; exact hqn
                        obtain ⟨g, e⟩ := HS9.out.blk (by omega)
                        subst e
                        have c2 := HS9.out.at_ q hqx 2 _ rfl
                        rw [HD9.out q hqn] at c2
                        clear hqx
                        go_wp2_with fail
                        go_round
                        case rel => exact ⟨q + 1, by omega, by go_num⟩
                        case measure => simp [intOf]; omega
                      · go_wp2_with fail
                        refine CP.out.mono ?_
                        rintro e wP ⟨vo, vc, rfl, ownP, bP⟩
                        have HVR := hid (own_row ownP).1
                        have HBP := hid (q_trans HS9.out.low bP)
                        clear ownP bP CP
                        go_wp2_with fail
                        go_loop [16] (fun i => ∃ q : Nat, q ≤ 8 ∧ i = .int .i64 q) (fun i => 8 - (intOf i).toNat)
                        case atStart => exact ⟨0, by decide, rfl⟩
                        case round =>
                          obtain ⟨z, hz, rfl⟩ := hrel
                          by_cases hz8 : z < 8
                          · have z1 : (0 : Int) ≤ (z : Int) := by omega
                            have z2 : (z : Int) < 8 := by omega
                            obtain ⟨av, e, cv⟩ := HVR.out.cell z _ (vals_at s.vs z (by have := HV9.out; omega))
                            subst e
                            rw [HZ9.out z hz8] at cv
                            go_wp2_with fail
                            go_round
                            case rel => exact ⟨z + 1, by omega, by go_num⟩
                            case measure => simp [intOf]; omega
                          · go_wp2_with fail
                            refine (live_any _).mono ?_
                            rintro e wQ ⟨rfl, bQ⟩
                            have HBQ := hid (q_trans HBP.out bQ)
                            clear bQ
                            go_wp2_with fail
                            go_ret
                            exact ⟨rfl, HBQ.out⟩
                  | false =>
                    have HU5 : Hid (0 < K → stOf xs s.vs = run K st (K * (r + 1))) := HU
                    have HR5 : Hid (Rn xs s (300 + K * (r + 1))) := by have := HR.out; rw [Nat.mul_succ, ← Nat.add_assoc]; exact this
                    clear HU HR HD
                    go_wp2_with fail
                    go_roundw
                    case rel => exact ⟨r + 1, tao, tcap, s, xs, by omega, by go_num, HS, HI, HR5, HL, HU5⟩
                    case measure => simp [intOf]; omega
            · obtain rfl : r = 2000 := by omega
              have HD : Hid (∀ i, i < n → (xs.getD i Gh.zero).g.p = 5) := fun i hi => by
                have h0 : 0 < n := by omega
                have e := ends_all HST.out.1 HST.out.2 h0 h6 i hi
                rw [Nat.mul_comm, ← HU.out h0, stOf_g xs s.vs i (by rw [HL.out]; exact hi)] at e
                exact e
              clear HU HR
              have HI9 := HI
              have HD9 : Hid (∀ i, i < n → (xs.getD i Gh.zero).g.p = 5) := HD
              have HL9 := HL
              have HS9 := HS
              have HZ9 : Hid (∀ c, c < 8 → s.vs.getD c 0 = 0) := fun c hc => all_free HI9.out (fun i hi => by
                rw [stOf_len] at hi
                rw [stOf_g xs s.vs i hi]
                exact HD9.out i (by rw [← HL9.out]; exact hi)) c hc
              have HV9 : Hid (s.vs.length = 8) := HI9.out.len
              obtain ⟨W9, hW9⟩ : ∃ W9, W9 = wr := ⟨_, rfl⟩
              subst hW9
              have CP := hid (peek_any (hid HS9.out.cel) (by have := HV9.out; omega))
              rw [HV9.out] at CP
              clear HI HD HL HS
              go_wp2_with fail
              go_loop [14] (fun i => ∃ q : Nat, q ≤ n ∧ i = .int .i64 q) (fun i => n - (intOf i).toNat)
              case atStart => exact ⟨0, Nat.zero_le _, rfl⟩
              case round =>
                obtain ⟨q, hq, rfl⟩ := hrel
                by_cases hqn : q < n
                · have q1 : (0 : Int) ≤ (q : Int) := by omega
                  have q2 : (q : Int) < (n : Int) := by omega
                  have hqx : q < xs.length := by rw [HL9.out]; exact hqn
                  obtain ⟨g, e⟩ := HS9.out.blk (by omega)
                  subst e
                  have c2 := HS9.out.at_ q hqx 2 _ rfl
                  rw [HD9.out q hqn] at c2
                  clear hqx
                  go_wp2_with fail
                  go_round
                  case rel => exact ⟨q + 1, by omega, by go_num⟩
                  case measure => simp [intOf]; omega
                · go_wp2_with fail
                  refine CP.out.mono ?_
                  rintro e wP ⟨vo, vc, rfl, ownP, bP⟩
                  have HVR := hid (own_row ownP).1
                  have HBP := hid (q_trans HS9.out.low bP)
                  clear ownP bP CP
                  go_wp2_with fail
                  go_loop [16] (fun i => ∃ q : Nat, q ≤ 8 ∧ i = .int .i64 q) (fun i => 8 - (intOf i).toNat)
                  case atStart => exact ⟨0, by decide, rfl⟩
                  case round =>
                    obtain ⟨z, hz, rfl⟩ := hrel
                    by_cases hz8 : z < 8
                    · have z1 : (0 : Int) ≤ (z : Int) := by omega
                      have z2 : (z : Int) < 8 := by omega
                      obtain ⟨av, e, cv⟩ := HVR.out.cell z _ (vals_at s.vs z (by have := HV9.out; omega))
                      subst e
                      rw [HZ9.out z hz8] at cv
                      go_wp2_with fail
                      go_round
                      case rel => exact ⟨z + 1, by omega, by go_num⟩
                      case measure => simp [intOf]; omega
                    · go_wp2_with fail
                      refine (live_any _).mono ?_
                      rintro e wQ ⟨rfl, bQ⟩
                      have HBQ := hid (q_trans HBP.out bQ)
                      clear bQ
                      go_wp2_with fail
                      go_ret
                      exact ⟨rfl, HBQ.out⟩
end Go.Proofs.Ytaihabkacjbfjaa.Gr
