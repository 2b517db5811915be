/- AddrOthers. -/
import Derived.Test.YthnfekdoibhnpaaDoorAdLive
import Derived.Test.YthnfekdoibhnpaaDoorAdCut
import Derived.Test.YthnfekdoibhnpaaDoorAdUn
namespace Go.Proofs.YthnfekdoibhnpaaDoor.Ad
open Go.RowKit
open Cp (K)

set_option maxRecDepth 100000 in
set_option maxHeartbeats 2000000 in
theorem others_row (to : Option Addr) (m cap' : Nat) (t : List (List K)) (r : K) (ao : Option Addr) (n cap : Nat) (l : List P) (k : P) (d : K) (w : World) (hN : HasN w to m cap' t) (hL : HasP w ao n cap l) (hT : Cp.Tabs w) :
    Calls Tryd.prog 7 #[.slice to m cap', (.agg #[.int .i64 r.t, .int .i64 r.r, .int .i64 r.b, .int .i64 r.o, .int .i64 r.g]), .slice ao n cap, (.agg #[.int .i64 k.1, .int .i64 k.2]), (.agg #[.int .i64 d.t, .int .i64 d.r, .int .i64 d.b, .int .i64 d.o, .int .i64 d.g])] w fun e w' => e = .returned (.bool true) ∧ Below w.heap.size w w' := by
  have HN := hid hN
  have HL := hid hL
  have HT := hid hT
  clear hN hL hT
  go_enter Tryd.func7, Tryd.ntmps7
  go_wp2_with fail
  have B0 := hid (q_alloc (q_alloc (alloc_below w (.cells #[.int .i64 r.t, .int .i64 r.r, .int .i64 r.b, .int .i64 r.o, .int .i64 r.g] 41)) (.cells #[.int .i64 k.1, .int .i64 k.2] 43)) (.cells #[.int .i64 d.t, .int .i64 d.r, .int .i64 d.b, .int .i64 d.o, .int .i64 d.g] 41))
  have R0 : Hid (AtK (((w.alloc (.cells #[.int .i64 r.t, .int .i64 r.r, .int .i64 r.b, .int .i64 r.o, .int .i64 r.g] 41)).alloc (.cells #[.int .i64 k.1, .int .i64 k.2] 43)).alloc (.cells #[.int .i64 d.t, .int .i64 d.r, .int .i64 d.b, .int .i64 d.o, .int .i64 d.g] 41)) ⟨w.heap.size, 0, none⟩ r) := ((atK_new w r 41).below (alloc_below _ _)).below (alloc_below _ _)
  have K0 : Hid (AtP (((w.alloc (.cells #[.int .i64 r.t, .int .i64 r.r, .int .i64 r.b, .int .i64 r.o, .int .i64 r.g] 41)).alloc (.cells #[.int .i64 k.1, .int .i64 k.2] 43)).alloc (.cells #[.int .i64 d.t, .int .i64 d.r, .int .i64 d.b, .int .i64 d.o, .int .i64 d.g] 41)) ⟨w.heap.size + 1, 0, none⟩ k) := by
    have := at_new (w.alloc (.cells #[.int .i64 r.t, .int .i64 r.r, .int .i64 r.b, .int .i64 r.o, .int .i64 r.g] 41)) k 43
    rw [size_alloc] at this
    exact this.below (alloc_below _ _)
  have C0 : Hid (AtK (((w.alloc (.cells #[.int .i64 r.t, .int .i64 r.r, .int .i64 r.b, .int .i64 r.o, .int .i64 r.g] 41)).alloc (.cells #[.int .i64 k.1, .int .i64 k.2] 43)).alloc (.cells #[.int .i64 d.t, .int .i64 d.r, .int .i64 d.b, .int .i64 d.o, .int .i64 d.g] 41)) ⟨w.heap.size + 1 + 1, 0, none⟩ d) := by
    have := atK_new ((w.alloc (.cells #[.int .i64 r.t, .int .i64 r.r, .int .i64 r.b, .int .i64 r.o, .int .i64 r.g] 41)).alloc (.cells #[.int .i64 k.1, .int .i64 k.2] 43)) d 41
    rw [size_alloc, size_alloc] at this
    exact this
  generalize ((w.alloc (.cells #[.int .i64 r.t, .int .i64 r.r, .int .i64 r.b, .int .i64 r.o, .int .i64 r.g] 41)).alloc (.cells #[.int .i64 k.1, .int .i64 k.2] 43)).alloc (.cells #[.int .i64 d.t, .int .i64 d.r, .int .i64 d.b, .int .i64 d.o, .int .i64 d.g] 41) = W0 at B0 R0 K0 C0 ⊢
  refine (small_any to ao m n cap cap' t W0 (HN.out.below B0.out)).mono ?_
  rintro e w1 ⟨b, rfl, hb, b1⟩
  have B1 := hid (q_trans B0.out b1)
  have R1 := hid (R0.out.below b1)
  have K1 := hid (K0.out.below b1)
  have C1 := hid (C0.out.below b1)
  clear b1 B0 R0 K0 C0
  cases b with
  | false =>
    clear hb
    go_wp2_with fail
    refine (live_any _ (HT.out.below B1.out)).mono ?_
    rintro e w2 ⟨rfl, b2⟩
    go_wp2_with fail
    go_ret
    exact ⟨rfl, q_trans B1.out b2⟩
  | true =>
    obtain ⟨h40, h20, hrow⟩ := hb rfl
    have HRow := hid hrow
    clear hb hrow
    obtain ⟨c0, c1, c2, c3, c4⟩ := R1.out
    go_wp2_with fail
    refine (pFind_any to ao m n cap cap' t r l w1 (HT.out.below B1.out) (HN.out.below B1.out) (HL.out.below B1.out)).mono ?_
    rintro e w2 ⟨po, pn, pc, rfl, hp, b2⟩
    generalize hka : fndK t r l = ka
    have HKA := hid hka
    have D2 := hid (alloc_below w2 (.cells #[.int .i64 ka.1, .int .i64 ka.2] 43))
    have P2 := hid (hp.below D2.out)
    have B2 := hid (q_trans (q_trans B1.out b2) D2.out)
    have R2 := hid ((R1.out.below b2).below D2.out)
    have K2 := hid ((K1.out.below b2).below D2.out)
    have C2 := hid ((C1.out.below b2).below D2.out)
    have A2 := hid (at_new w2 ka 43)
    clear b2 hp B1 R1 K1 C1 c0 c1 c2 c3 c4 hka
    obtain ⟨k0, k1⟩ := K2.out
    go_wp2_with fail
    refine (pGet_any to m cap' t k _ (HN.out.below B2.out)).mono ?_
    rintro e w3 ⟨rfl, b3⟩
    generalize getC t k = gc
    have D3 := hid (alloc_below w3 (.cells #[.int .i64 gc.t, .int .i64 gc.r, .int .i64 gc.b, .int .i64 gc.o, .int .i64 gc.g] 41))
    have P3 := hid ((P2.out.below b3).below D3.out)
    have B3 := hid (q_trans (q_trans B2.out b3) D3.out)
    have R3 := hid ((R2.out.below b3).below D3.out)
    have K3 := hid ((K2.out.below b3).below D3.out)
    have C3 := hid ((C2.out.below b3).below D3.out)
    have A3 := hid ((A2.out.below b3).below D3.out)
    generalize w2.heap.size = kb at A2 A3 ⊢
    clear b3 B2 R2 K2 C2 P2 A2 D2 k0 k1
    go_wp2_with fail
    generalize w3.heap.size = gb
    generalize w3.alloc (.cells #[.int .i64 gc.t, .int .i64 gc.r, .int .i64 gc.b, .int .i64 gc.o, .int .i64 gc.g] 41) = W3 at P3 B3 R3 K3 C3 A3 ⊢
    have B4 := B3
    have K4 := K3
    clear D3
    cases hf : fndB t r l with
    | false =>
      rw [(fnd_no hf).2.2]
      clear hf
      obtain ⟨f0, f1⟩ := K4.out.always
      have hne : Nonempty (Later W3) := ⟨⟨_, Below.refl _ _⟩⟩
      refine wp_region_later (by kernel_rfl) (by kernel_rfl) ?_
      repeat (go_big_quiet_step (first | (go_at_call 14; exact later_same (num_any _ _))))
      refine wpQuiet_nil ?_
      rintro w4 ⟨⟨_, b4⟩, rfl⟩
      have B5 := hid (q_trans B4.out b4)

      clear b4 f0 f1 hne
      go_wp2_with fail
      refine (live_any _ (HT.out.below B5.out)).mono ?_
      rintro e w5 ⟨rfl, b5⟩
      have B6 := hid (q_trans B5.out b5)
      clear b5
      go_wp2_with fail
      go_ret
      exact ⟨rfl, B6.out⟩
    | true =>
      rw [(fnd_yes hf).2.2]
      have HF := hid hf
      clear hf
      cases hs : slB t k with
      | false =>
        clear hs
        obtain ⟨f0, f1⟩ := K4.out.always
        have hne : Nonempty (Later W3) := ⟨⟨_, Below.refl _ _⟩⟩
        refine wp_region_later (by kernel_rfl) (by kernel_rfl) ?_
        repeat (go_big_quiet_step (first | (go_at_call 14; exact later_same (num_any _ _))))
        refine wpQuiet_nil ?_
        rintro w4 ⟨⟨_, b4⟩, rfl⟩
        have B5 := hid (q_trans B4.out b4)

        clear b4 f0 f1 hne
        go_wp2_with fail
        refine (live_any _ (HT.out.below B5.out)).mono ?_
        rintro e w5 ⟨rfl, b5⟩
        have B6 := hid (q_trans B5.out b5)
        clear b5
        go_wp2_with fail
        go_ret
        exact ⟨rfl, B6.out⟩
      | true =>
        have HSl := hid hs
        clear hs
        have hlen : 1 ≤ pn := by
          have h1 := P3.out.len
          have h2 := okA_pos (fndB_iff.1 HF.out).1
          rw [(fnd_yes HF.out).1, wayL_len] at h1
          omega
        have hle : pn ≤ 4 := by
          have h1 := P3.out.len
          have h2 := okA_le (fndB_iff.1 HF.out).1
          rw [(fnd_yes HF.out).1, wayL_len] at h1
          omega
        obtain ⟨j, hj⟩ : ∃ j, pn = j + 1 := ⟨pn - 1, by omega⟩
        have HJ := hid hj
        have rt : ∀ W : World, (Instr.slice 45 (.slice po pn pc) none (some (.int .i64 ((pn : Int) - 1))) none).run Tryd.prog W = .ok (.slice po j pc) W := fun W => by
          have h1 := run_toK po j pn pc (by have := P3.out.cap; omega) W
          rwa [show ((pn : Int) - 1) = (j : Int) by omega]
        have i5 : ¬ (pn : Int) < 1 := by omega
        have i6 : (pn : Int) ≤ 4 := by omega
        clear hj hlen hle
        have HHs : Hid (∀ g : Later W3, Calls Tryd.prog 24 #[.slice po j pc, (.agg #[.int .i64 k.1, .int .i64 k.2])] g.now fun e w' => e = .returned (.bool (hasB ((fndL t r l).take j) k)) ∧ Below g.now.heap.size g.now w') := fun g => rhas_any po j pc _ k _ (by have := HJ.out; omega) ((P3.out.below g.low).take j (by have := HJ.out; omega))
        cases hh : hasB ((fndL t r l).take j) k with
        | true =>
          rw [hh] at HHs
          clear hh
          obtain ⟨f0, f1⟩ := K4.out.always
          have hne : Nonempty (Later W3) := ⟨⟨_, Below.refl _ _⟩⟩
          refine wp_region_later (by kernel_rfl) (by kernel_rfl) ?_
          repeat (go_big_quiet_step (first | (go_at_call 14; exact later_same (num_any _ _)) | (go_at_call 24; exact later_call (HHs.out _))))
          refine wpQuiet_nil ?_
          rintro w4 ⟨⟨_, b4⟩, rfl⟩
          have B5 := hid (q_trans B4.out b4)

          clear b4 f0 f1 hne
          go_wp2_with fail
          refine (live_any _ (HT.out.below B5.out)).mono ?_
          rintro e w5 ⟨rfl, b5⟩
          have B6 := hid (q_trans B5.out b5)
          clear b5
          go_wp2_with fail
          go_ret
          exact ⟨rfl, B6.out⟩
        | false =>
          rw [hh] at HHs
          have HNo : Hid (k ∉ (wayL t r l).dropLast) := by
            have h1 : k ∉ (fndL t r l).take j := by simpa [hasB] using hh
            have h2 := P3.out.len
            rw [(fnd_yes HF.out).1] at h1 h2
            rw [List.dropLast_eq_take, ← h2, HJ.out, Nat.add_sub_cancel]
            exact h1
          clear hh
          obtain ⟨f0, f1⟩ := K4.out.always
          have hne : Nonempty (Later W3) := ⟨⟨_, Below.refl _ _⟩⟩
          refine wp_region_later (by kernel_rfl) (by kernel_rfl) ?_
          repeat (go_big_quiet_step (first | (go_at_call 14; exact later_same (num_any _ _)) | (go_at_call 24; exact later_call (HHs.out _))))
          refine wpQuiet_nil ?_
          rintro w4 ⟨⟨_, b4⟩, rfl⟩
          have B5 := hid (q_trans B4.out b4)
          have P5 := hid (P3.out.below b4)
          have R5 := hid (R3.out.below b4)
          have K5 := hid (K3.out.below b4)
          have C5 := hid (C3.out.below b4)
          have A5 := hid (A3.out.below b4)
          clear b4 f0 f1 hne B3 B4 K4 P3 R3 K3 C3 A3 rt HHs i5 i6
          go_wp2_with fail
          go_loopw [16, 17] (fun s i wr => ∃ (q : Nat) (uo : Option Addr) (uc : Nat) (hs : List Hd), q ≤ m ∧ s = .slice uo q uc ∧ i = .int .i64 q ∧ Hid (Un w4.heap.size wr uo q uc hs (t.take q)) ∧ Hid (Below w4.heap.size w4 wr)) (fun _ i _ => m - (intOf i).toNat)
          case atStart => exact ⟨0, none, 0, [], Nat.zero_le _, rfl, rfl, un_nil _ _, Below.refl _ _⟩
          case round =>
            obtain ⟨q, uo, uc, hs, hq, rfl, rfl, HU, HB⟩ := hrel
            by_cases hlt : q < m
            · have i1 : (0 : Int) ≤ (q : Int) := by omega
              have i2 : (q : Int) < (m : Int) := by omega
              obtain ⟨a, x, xn, xc, rfl, hc, hx⟩ := (HN.out.below (q_alloc (q_trans B5.out HB.out) (.cells #[] 41))).cell q hlt
              have HX := hid hx
              have hxn : xn ≤ 20 := by rw [hx.len]; exact HRow.out q hlt
              clear hx
              go_wp2_with (at_builtin; go_loud (refine wpList_append_row _ rfl (.tmp 69) (.tmp 73) 59 41 _ 5 40 rfl Tryd.underlying59 infoC rfl (by decide) (by decide) wr.heap.size _ 0 [] rfl (own0 wr 41 5) x xn xc (kps (t.getD q [])) rfl (by rw [len_kps, ← HX.out.len]) (fun h => HX.out.nil h) HX.out.row (kps_one _) (by omega) (alloc_below wr _).size ?_; intro ro rc w6 own1 grow1; rw [Nat.zero_add] at own1 ⊢; apply Hid.out))
              have D6 : Hid (Below wr.heap.size wr w6) := app_below grow1
              have HO6 := hid own1
              have HU6 := hid (own_below (HU.out.below D6.out).own (alloc_below w6 (.cells #[.slice ro xn rc] 59)))
              have HRw := hid (one_row w6 (.slice ro xn rc) 59)
              have HZ : Hid (w4.heap.size ≤ (w6.alloc (.cells #[.slice ro xn rc] 59)).heap.size) := by have := HB.out.size; have := D6.out.size; unfold Hid; rw [size_alloc]; omega
              clear own1 grow1 hc HX
              unfold Hid
              go_wp2_with (at_builtin; go_loud (refine wpList_append_row _ rfl (.tmp 68) (.tmp 75) 39 59 _ 1 24 rfl Tryd.underlying39 infoH rfl (by decide) (by decide) w4.heap.size _ q (hds hs) rfl HU6.out _ 1 1 [.slice ro xn rc] rfl rfl (fun h => by cases h) HRw.out (by intro u hu; simp at hu; subst hu; rfl) (by omega) HZ.out ?_; intro uo3 uc3 w7 own3 grow3; apply Hid.out))
              have HU7 := hid (HU.out.push HB.out.size D6.out HO6.out own3 grow3)
              have HB7 : Hid (Below w4.heap.size w4 w7) := (q_alloc (q_trans HB.out D6.out) _).grown grow3 HZ.out (fun b e => (World.ownsRow.lt HU6.out b e).1)
              clear own3 grow3 HU6 HRw HZ HO6 D6
              unfold Hid
              go_wp2_with fail
              go_roundw
              case rel =>
                refine ⟨q + 1, uo3, uc3, hs ++ [⟨ro, xn, rc⟩], by omega, rfl, by go_num, ?_, HB7⟩
                have e : t.take (q + 1) = t.take q ++ [t.getD q []] := by
                  have hl : q < t.length := by rw [← HN.out.len]; exact hlt
                  rw [List.take_succ_eq_append_getElem hl]
                  simp [List.getD, hl]
                rw [e]
                exact HU7
              case measure => simp [intOf]; omega
            · obtain rfl : q = m := by omega
              have HU8 : Hid (Un w4.heap.size wr uo q uc hs t) := by
                have := HU.out
                rw [HN.out.len, List.take_length, ← HN.out.len] at this
                exact this
              go_wp2_with fail
              obtain ⟨k1, k2⟩ := k
              obtain ⟨hk1, hk2, hk3, hk4, hk5⟩ := slB_iff.1 HSl.out
              simp only at hk1 hk2 hk3 hk4 hk5
              obtain ⟨o, rfl⟩ := Int.eq_ofNat_of_zero_le hk1
              obtain ⟨s, rfl⟩ := Int.eq_ofNat_of_zero_le hk4
              simp only [Int.toNat_natCast] at hk3
              have ho : o < q := by rw [HN.out.len]; omega
              have i2 : (o : Int) < (q : Int) := by omega
              have i5 : (s : Int) < 8 := hk5
              obtain ⟨ua, g, rc, rfl, cu, hx, hg⟩ := HU8.out.row o ho (by omega)
              rw [hk3] at cu hx
              have eo := HU8.out.each o (by rw [← HU8.out.num]; exact ho)
              rw [hx] at eo
              have hs8 : s < (t.getD o []).length := by omega
              have z0 := own_cell eo (kps_at (t.getD o []) s 0 (by omega) hs8)
              have z1 := own_cell eo (kps_at (t.getD o []) s 1 (by omega) hs8)
              have z2 := own_cell eo (kps_at (t.getD o []) s 2 (by omega) hs8)
              have z3 := own_cell eo (kps_at (t.getD o []) s 3 (by omega) hs8)
              have z4 := own_cell eo (kps_at (t.getD o []) s 4 (by omega) hs8)
              have zf : ∀ j, wr.frozen? ⟨g, j, none⟩ = false := fun j => own_frozen eo
              simp only [Nat.add_zero] at z0
              have K8 := hid (K5.out.below HB.out)
              have C8 := hid (C5.out.below HB.out)
              have R8 := hid (R5.out.below HB.out)
              have A8 := hid (A5.out.below HB.out)
              have P8 := hid (P5.out.below HB.out)
              have n1 : Hid (w.heap.size + 1 ≠ g) := by have := K5.out.lt; simp only at this; unfold Hid; omega
              have n2 : Hid ((ua.add o).block ≠ g) := by
                intro e
                rw [add_block] at e
                rcases HU8.out.own.2 with ⟨e2, _⟩ | ⟨g', c', cur, e2, _, _⟩
                · cases e2
                · injection e2 with e3
                  have e4 := Option.some.inj e3
                  subst e4
                  simp only at e
                  exact own_types eo HU8.out.own caps_ne (b := g) rfl (by rw [← e]; rfl)
              have n3 : Hid (w.heap.size + 1 + 1 ≠ g) := by have := C5.out.lt; simp only at this; unfold Hid; omega
              have HG := hid hg
              have HXo := hid hx
              have hS : SO (w.heap.size + 1) ((o : Int), (s : Int)) (ua.add o) (.slice (some ⟨g, 0, none⟩) 8 rc) (w.heap.size + 1 + 1) d wr := ⟨K8.out.c0, K8.out.c1, cu, C8.out.c0, C8.out.c1, C8.out.c2, C8.out.c3, C8.out.c4⟩
              clear cu hx eo hg hs8 hk1 hk2 hk4 hk5
              go_region_held3 (SO (w.heap.size + 1) ((o : Int), (s : Int)) (ua.add o) (.slice (some ⟨g, 0, none⟩) 8 rc) (w.heap.size + 1 + 1) d) (first | with_reducible assumption | with_reducible exact so_drew hS | with_reducible exact so_five hS n1.out n2.out n3.out | with_reducible exact so_drew (so_five hS n1.out n2.out n3.out) | with_reducible exact so_five (so_drew hS) n1.out n2.out n3.out) (fail)
              have D9 := hid ((low5s (s := s * 5) (u0 := .int .i64 d.t) (u1 := .int .i64 d.r) (u2 := .int .i64 d.b) (u3 := .int .i64 d.o) (u4 := .int .i64 d.g) HB.out HG.out).drew)
              have HN9 : Hid (HasN (((((wr.setCell ⟨g, s * 5, none⟩ (.int .i64 d.t)).setCell ⟨g, s * 5 + 1, none⟩ (.int .i64 d.r)).setCell ⟨g, s * 5 + 2, none⟩ (.int .i64 d.b)).setCell ⟨g, s * 5 + 3, none⟩ (.int .i64 d.o)).setCell ⟨g, s * 5 + 4, none⟩ (.int .i64 d.g)).drew (some ua) q uc (setC t ((o : Int), (s : Int)) d)) := by
                have := (HU8.out.stored ho HXo.out s d).below (Below.refl _ _).drew
                rwa [show setC t ((o : Int), (s : Int)) d = t.set o ((t.getD o []).set s d) by simp [setC]]
              generalize (((((wr.setCell ⟨g, s * 5, none⟩ (.int .i64 d.t)).setCell ⟨g, s * 5 + 1, none⟩ (.int .i64 d.r)).setCell ⟨g, s * 5 + 2, none⟩ (.int .i64 d.b)).setCell ⟨g, s * 5 + 3, none⟩ (.int .i64 d.o)).setCell ⟨g, s * 5 + 4, none⟩ (.int .i64 d.g)).drew = X at D9 HN9 ⊢
              have R9 := hid (R5.out.below D9.out)
              have A9 := hid (A5.out.below D9.out)
              have P9 := hid (P5.out.below D9.out)
              have B9 := hid (q_trans B5.out D9.out)
              clear z0 z1 z2 z3 z4 zf hS K8 C8 R8 A8 P8 n1 n2 n3 R5 A5 P5 K5 C5 B5 D9 HU8 HU HB HG HXo hk3
              have HOt := others (c := d) HSl.out (fndB_iff.1 HF.out).2 HNo.out
              have HFs : fndB (setC t ((o : Int), (s : Int)) d) r l = true := fndB_iff.2 ⟨(fndB_iff.1 HF.out).1, HOt.1⟩
              have HY := fnd_yes HFs
              have HZ := fnd_yes HF.out
              have e1 : fndL (setC t ((o : Int), (s : Int)) d) r l = fndL t r l := by rw [HY.1, HOt.2, HZ.1]
              have e2 : fndK (setC t ((o : Int), (s : Int)) d) r l = ka := by rw [← HKA.out, HY.2.1, HOt.2, HZ.2.1]
              have HFd : Hid (Calls Tryd.prog 19 #[.slice (some ua) q uc, (.agg #[.int .i64 r.t, .int .i64 r.r, .int .i64 r.b, .int .i64 r.o, .int .i64 r.g]), .slice ao n cap] X fun e w' => ∃ ko kn kc, e = .returned (.tuple #[(.agg #[.int .i64 ka.1, .int .i64 ka.2]), .slice ko kn kc, .int .i64 0]) ∧ HasP w' ko kn kc (fndL t r l) ∧ Below X.heap.size X w') := by
                have := pFind_any (some ua) ao q n cap uc (setC t ((o : Int), (s : Int)) d) r l X (HT.out.below B9.out) HN9.out (HL.out.below B9.out)
                rwa [e1, e2, HY.2.2] at this
              clear HOt HFs HY HZ e1 e2
              obtain ⟨c0, c1, c2, c3, c4⟩ := R9.out
              go_wp2_with fail
              refine HFd.out.mono ?_
              rintro e w8 ⟨qo, qn, qc, rfl, h8, b8⟩
              have D8 := hid (alloc_below w8 (.cells #[.int .i64 ka.1, .int .i64 ka.2] 43))
              have Q8 := hid (h8.below D8.out)
              have P8 := hid ((P9.out.below b8).below D8.out)
              have A8 := hid ((A9.out.below b8).below D8.out)
              have E8 := hid (at_new w8 ka 43)
              have B8 := hid (q_trans (q_trans B9.out b8) D8.out)
              have HSm : Hid (Calls Tryd.prog 23 #[.slice po pn pc, .slice qo qn qc] (w8.alloc (.cells #[.int .i64 ka.1, .int .i64 ka.2] 43)) fun e w' => e = .returned (.bool true) ∧ Below (w8.alloc (.cells #[.int .i64 ka.1, .int .i64 ka.2] 43)).heap.size (w8.alloc (.cells #[.int .i64 ka.1, .int .i64 ka.2] 43)) w') := ksame_yes (by have h1 := P8.out.len; have h2 := okA_le (fndB_iff.1 HF.out).1; rw [(fnd_yes HF.out).1, wayL_len] at h1; omega) P8.out Q8.out
              clear b8 h8 c0 c1 c2 c3 c4 HFd
              have q1 := eqk_yes (a := ka) (b := ka) rfl
              obtain ⟨a0, a1⟩ := A8.out
              obtain ⟨e0, e1⟩ := E8.out
              go_wp2_with (go_at_call 14; refine (num_any _ _).mono ?_; rintro e w9 ⟨rfl, rfl⟩)
              refine HSm.out.mono ?_
              rintro e w10 ⟨rfl, b10⟩
              have B10 := hid (q_trans B8.out b10)
              clear b10 a0 a1 e0 e1 q1
              go_wp2_with fail
              refine (live_any _ (HT.out.below B10.out)).mono ?_
              rintro e w11 ⟨rfl, b11⟩
              have B11 := hid (q_trans B10.out b11)
              clear b11
              go_wp2_with fail
              go_ret
              exact ⟨rfl, B11.out⟩
end Go.Proofs.YthnfekdoibhnpaaDoor.Ad
