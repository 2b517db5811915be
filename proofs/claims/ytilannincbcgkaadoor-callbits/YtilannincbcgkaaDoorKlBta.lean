/- CallBits answers true. -/
import Derived.Test.YtilannincbcgkaaDoorKlBt0
import Derived.Deep.Cut
namespace Go.Proofs.YtilannincbcgkaaDoor.Kl
open Go.RowKit
open Ad (q_trans q_alloc q_set ret_int ret_bool hid Later wp_region_later later_call wpList_append_row own0 app_below alloc_below own_cell own_setS own_frozen Row own_below)

set_option maxRecDepth 100000 in
set_option maxHeartbeats 4000000 in
theorem bt_0 (c : C) (k j : Nat) (w : World) (hT : Tabs w) (hc : Wf c) (kc : okC c = true) (hk : k < 4) (hj : j < 64) (kl : parB (turn (wds c) k j) = false) :
    Calls Tryd.prog 7 #[(.agg #[.int .i64 c.k, .int .u64 c.a, .int .u64 c.b, .int .i64 c.r, .int .i64 c.g, .int .i64 c.t, .int .i64 c.s, .int .i64 c.v]), .int .i64 k, .int .i64 j] w fun e w' => e = .returned (.bool true) ∧ Below w.heap.size w w' := by
  have PC : Hid (∀ W : World, Tabs W → Calls Tryd.prog 9 #[(.agg #[.int .i64 c.k, .int .u64 c.a, .int .u64 c.b, .int .i64 c.r, .int .i64 c.g, .int .i64 c.t, .int .i64 c.s, .int .i64 c.v])] W fun e w' => ∃ ao n cap, e = .returned (.tuple #[.slice ao n cap, .int .i64 0]) ∧ HasU w' ao n cap (wds c) ∧ n ≤ 4 ∧ Below W.heap.size W w') := fun W hW => put_at hc (put_yes kc).1 (put_yes kc).2 W hW
  have HU := wds_u64 kc hc
  have HTU := turn_u64 HU k j hj
  have hd : parC (turn (wds c) k j) = C.zero := (par_no kl).1
  have QT : Hid (∀ (W : World) (xo : Option Addr) (m cp : Nat), Tabs W → HasU W xo m cp (turn (wds c) k j) → Calls Tryd.prog 11 #[.slice xo m cp] W fun e w' => e = .returned (.tuple #[.agg #[.int .i64 0, .int .u64 0, .int .u64 0, .int .i64 0, .int .i64 0, .int .i64 0, .int .i64 0, .int .i64 0], .int .i64 150]) ∧ Below W.heap.size W w') := fun W xo m cp hW h => parse_at (d := C.zero) HTU hd (par_no kl).2 W hW h
  have Q3 : Hid (∀ (W : World) (xo : Option Addr) (m cp : Nat), Tabs W → HasU W xo m cp ((wds c).take 3) → Calls Tryd.prog 11 #[.slice xo m cp] W fun e w' => e = .returned (.tuple #[.agg #[.int .i64 0, .int .u64 0, .int .u64 0, .int .i64 0, .int .i64 0, .int .i64 0, .int .i64 0, .int .i64 0], .int .i64 150]) ∧ Below W.heap.size W w') := fun W xo m cp hW h => parse_at (d := C.zero) (fun i hi => HU i (List.mem_of_mem_take hi)) (par_no (par_len (by simp [wds]))).1 (par_no (par_len (by simp [wds]))).2 W hW h
  have Q5 : Hid (∀ (W : World) (xo : Option Addr) (m cp : Nat), Tabs W → HasU W xo m cp (wds c ++ [0]) → Calls Tryd.prog 11 #[.slice xo m cp] W fun e w' => e = .returned (.tuple #[.agg #[.int .i64 0, .int .u64 0, .int .u64 0, .int .i64 0, .int .i64 0, .int .i64 0, .int .i64 0, .int .i64 0], .int .i64 150]) ∧ Below W.heap.size W w') := fun W xo m cp hW h => parse_at (d := C.zero) (fun i hi => by
    rcases List.mem_append.1 hi with h | h
    · exact HU i h
    · simp at h; rw [h]; exact u64_of 0 (by omega)) (par_no (par_len (by simp [wds]))).1 (par_no (par_len (by simp [wds]))).2 W hW h
  have hfl := flip_run ((wds c).getD k 0) j (get_u64 HU k) hj
  obtain ⟨x, hx⟩ : ∃ x, (wds c).getD k 0 = x := ⟨_, rfl⟩
  obtain ⟨y, hy⟩ : ∃ y, flip x j = y := ⟨_, rfl⟩
  have HTn : Hid (turn (wds c) k j = (wds c).set k y) := by
    show turn (wds c) k j = _
    rw [turn, hx, hy]
  rw [hx, hy] at hfl
  have HX := hid hx
  have i1 : (0 : Int) ≤ (k : Int) := by omega
  have i2 : (k : Int) ≤ 3 := by omega
  have i3 : (k : Int) < 4 := by omega
  have i4 : (0 : Int) ≤ (j : Int) := by omega
  have i5 : (j : Int) ≤ 63 := by omega
  have HK := hid hk
  have HB := hid (q_alloc (Below.refl _ w) (.cells #[.int .i64 c.k, .int .u64 c.a, .int .u64 c.b, .int .i64 c.r, .int .i64 c.g, .int .i64 c.t, .int .i64 c.s, .int .i64 c.v] 24))
  have HT := hid (hT.below HB.out)
  have HC := hid (in_new w c 24)
  clear hT hc kc HU HTU hd kl hx hy
  go_enter Tryd.func7, Tryd.ntmps7
  go_wp2_with fail
  generalize w.alloc (.cells #[.int .i64 c.k, .int .u64 c.a, .int .u64 c.b, .int .i64 c.r, .int .i64 c.g, .int .i64 c.t, .int .i64 c.s, .int .i64 c.v] 24) = V at *
  refine (PC.out _ HT.out).mono ?_
  rintro e w1 ⟨a1, n1, p1, rfl, h1, l1, b1⟩
  have H1 := hid h1
  have B1 := hid b1
  obtain ⟨aa, rfl, rfl, _⟩ := at4_of (show HasU w1 a1 n1 p1 [acc c 5, c.a, c.b, IntKind.u64.wrap c.v] from h1)
  have hcap := h1.le
  clear h1 l1 b1
  go_wp2_with (first | (go_at_call 13; refine (num_any _ _).mono ?_; rintro e w' ⟨rfl, hw⟩; rw [hw]; clear hw w') | (at_builtin; go_loud (refine wpList_append_row _ rfl (.tmp 56) (.tmp 57) 25 22 _ 1 8 rfl Tryd.underlying25 infoU rfl (by decide) (by decide) w1.heap.size _ 0 [] rfl (own0 w1 22 1) (some aa) 4 p1 (vU (wds c)) rfl rfl (fun h => H1.out.nil h) (H1.out.row.below (alloc_below w1 _)) (vU_one _) (by omega) (alloc_below w1 _).size ?_; intro ao1 cap1 w2 own1 grow1; rw [Nat.zero_add] at own1 ⊢; apply Hid.out)))
  obtain ⟨g, rfl, hg1, hg2⟩ := own_block own1 (by omega)
  have OW := hid own1
  have hb2 := app_below grow1
  have B2 := hid (q_trans B1.out hb2)
  have H12 := hid (H1.out.below hb2)
  have hV := B1.out.size
  have cg := own_cell own1 (j := k) (u := .int .u64 x) (by
    rw [List.nil_append, vU_at _ k (by rw [wds_len]; exact HK.out), HX.out])
  have fg : ∀ i, w2.frozen? ⟨g, i, none⟩ = false := fun i => own_frozen own1
  have hw1 := hid hg1
  have Bg := hid (q_set hb2 (p := ⟨g, k, none⟩) hg1 (.int .u64 y)).drew
  have B3 := hid (q_trans B1.out Bg.out)
  have H13 := hid (H1.out.below Bg.out)
  have HM := hid ((own_mineU (show (w2.setCell ⟨g, k, none⟩ (.int .u64 y)).ownsRow w1.heap.size 22 1 (.slice (some ⟨g, 0, none⟩) 4 cap1) 4 (vU (turn (wds c) k j)) from by
    rw [HTn.out, ← vU_set]
    exact own_setS _ OW.out)).has.below (Below.refl _ _).drew)
  clear own1 grow1 hb2 hg1 H1 B2 H12 OW hV hw1 Bg HTn HX
  unfold Hid
  go_wp2_with fail
  go_region
  go_wp2_with fail
  clear cg fg hg2
  generalize (w2.setCell ⟨g, k, none⟩ (.int .u64 y)).drew = V3 at *
  refine (QT.out _ _ _ _ (HT.out.below B3.out) HM.out).mono ?_
  rintro e w4 ⟨rfl, b4⟩
  have B4 := hid (q_alloc (q_trans B3.out b4) (.cells #[.int .i64 0, .int .u64 0, .int .u64 0, .int .i64 0, .int .i64 0, .int .i64 0, .int .i64 0, .int .i64 0] 24))
  have H14 := hid ((H13.out.below b4).below (q_alloc (Below.refl _ _) (.cells #[.int .i64 0, .int .u64 0, .int .u64 0, .int .i64 0, .int .i64 0, .int .i64 0, .int .i64 0, .int .i64 0] 24)))
  clear b4 HM H13 B3
  have hcap3 : (3 : Int) ≤ (p1 : Int) := by omega
  go_wp2_with fail
  generalize w4.alloc (.cells #[.int .i64 0, .int .u64 0, .int .u64 0, .int .i64 0, .int .i64 0, .int .i64 0, .int .i64 0, .int .i64 0] 24) = V4 at *
  refine (Q3.out _ _ _ _ (HT.out.below B4.out) (H14.out.take3 (by omega))).mono ?_
  rintro e w5 ⟨rfl, b5⟩
  have B5 := hid (q_alloc (q_trans B4.out b5) (.cells #[.int .i64 0, .int .u64 0, .int .u64 0, .int .i64 0, .int .i64 0, .int .i64 0, .int .i64 0, .int .i64 0] 24))
  have H15 := hid ((H14.out.below b5).below (q_alloc (Below.refl _ _) (.cells #[.int .i64 0, .int .u64 0, .int .u64 0, .int .i64 0, .int .i64 0, .int .i64 0, .int .i64 0, .int .i64 0] 24)))
  clear b5 H14 B4
  have hsz : V.heap.size ≤ (w5.alloc (.cells #[.int .i64 0, .int .u64 0, .int .u64 0, .int .i64 0, .int .i64 0, .int .i64 0, .int .i64 0, .int .i64 0] 24)).heap.size := B5.out.size
  go_upto_region 8 with fail
  generalize w5.alloc (.cells #[.int .i64 0, .int .u64 0, .int .u64 0, .int .i64 0, .int .i64 0, .int .i64 0, .int .i64 0, .int .i64 0] 24) = V5 at *
  go_wp2_with (at_builtin; go_loud (refine wpList_append_row _ rfl (.tmp 81) (.tmp 82) 25 22 _ 1 8 rfl Tryd.underlying25 infoU rfl (by decide) (by decide) V5.heap.size _ 0 [] rfl (own0 V5 22 1) (some aa) 4 p1 (vU (wds c)) rfl rfl (fun h => H15.out.nil h) (H15.out.row.below (alloc_below V5 _)) (vU_one _) (by omega) (alloc_below V5 _).size ?_; intro ao6 cap6 w6 own6 grow6; rw [Nat.zero_add] at own6 ⊢; apply Hid.out))
  have hb6 := app_below grow6
  have O7 := hid (own_below own6 (alloc_below w6 (.cells #[.int .u64 0] 22)))
  have R7 := hid (one_row w6 22)
  have hb7 := hid (q_alloc hb6 (.cells #[.int .u64 0] 22))
  have hz7 := hid hb7.out.size
  clear own6 grow6 hb6 hsz hcap hcap3 H15
  unfold Hid
  go_wp2_with (at_builtin; go_loud (refine wpList_append_row _ rfl (.tmp 83) (.tmp 84) 25 22 _ 1 8 rfl Tryd.underlying25 infoU rfl (by decide) (by decide) V5.heap.size _ 4 ([] ++ vU (wds c)) rfl O7.out _ 1 1 (vU [0]) rfl rfl (fun h => by cases h) R7.out (vU_one _) (by omega) hz7.out ?_; intro ao7 cap7 w7 own7 grow7; apply Hid.out))
  have H7 := hid (own_mineU (show w7.ownsRow V5.heap.size 22 1 (.slice ao7 (4 + 1) cap7) (4 + 1) (vU (wds c ++ [0])) from by
    have := own7
    rwa [List.nil_append, show vU (wds c) ++ vU [0] = vU (wds c ++ [0]) by simp [vU]] at this)).has
  have hb8 := hb7.out.grown grow7 hz7.out (fun q e => (World.ownsRow.lt O7.out q e).1)
  have B7 := hid (q_trans B5.out hb8)
  clear own7 grow7 hb8 O7 R7 hb7 hz7 B5
  unfold Hid
  go_wp2_with fail
  refine (Q5.out _ _ _ _ (HT.out.below B7.out) H7.out).mono ?_
  rintro e w8 ⟨rfl, b8⟩
  have B8 := hid (q_alloc (q_trans B7.out b8) (.cells #[.int .i64 0, .int .u64 0, .int .u64 0, .int .i64 0, .int .i64 0, .int .i64 0, .int .i64 0, .int .i64 0] 24))
  clear b8 B7 H7
  go_wp2_with (first | (go_at_call 13; refine (num_any _ _).mono ?_; rintro e w' ⟨rfl, hw⟩; rw [hw]; clear hw w') | (go_at_call 8; refine (live_any _ (HT.out.below B8.out)).mono ?_; rintro e w6 ⟨rfl, b6⟩))
  go_ret
  exact ⟨rfl, q_trans (q_trans HB.out B8.out) b6⟩
end Go.Proofs.YtilannincbcgkaaDoor.Kl
