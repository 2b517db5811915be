/- CallWords answers true. -/
import Derived.Test.YtilannincbcgkaaDoorKlWd0
namespace Go.Proofs.YtilannincbcgkaaDoor.Kl
open Go.RowKit
open Ad (q_trans q_alloc q_set ret_int ret_bool hid Later wp_region_later later_call wpList_append_row own0 app_below alloc_below)

set_option maxRecDepth 100000 in
set_option maxHeartbeats 4000000 in
theorem wd_00 (c : C) (ao : Option Addr) (n cap : Nat) (l : List Int) (w : World) (hT : Tabs w) (hn : n ≤ 20) (hc : Wf c) (hl : ∀ i ∈ l, U64 i) (hH : HasU w ao n cap l) (kc : okC c = false) (kl : parB l = false) :
    Calls Tryd.prog 3 #[(.agg #[.int .i64 c.k, .int .u64 c.a, .int .u64 c.b, .int .i64 c.r, .int .i64 c.g, .int .i64 c.t, .int .i64 c.s, .int .i64 c.v]), .slice ao n cap] w fun e w' => e = .returned (.bool true) ∧ Below w.heap.size w w' := by
  have hn2 : decide ((20 : Int) < (n : Int)) = false := decide_eq_false (by omega)
  have PC : Hid (∀ W : World, Tabs W → Calls Tryd.prog 9 #[(.agg #[.int .i64 c.k, .int .u64 c.a, .int .u64 c.b, .int .i64 c.r, .int .i64 c.g, .int .i64 c.t, .int .i64 c.s, .int .i64 c.v])] W fun e w' => ∃ ao n cap, e = .returned (.tuple #[.slice ao n cap, .int .i64 150]) ∧ HasU w' ao n cap ([]) ∧ n ≤ 4 ∧ Below W.heap.size W w') := fun W hW => put_at hc (put_no kc).1 (put_no kc).2 W hW
  have PR : Hid (∀ W : World, Calls Tryd.prog 10 #[(.agg #[.int .i64 c.k, .int .u64 c.a, .int .u64 c.b, .int .i64 c.r, .int .i64 c.g, .int .i64 c.t, .int .i64 c.s, .int .i64 c.v])] W fun e w' => ∃ ao n cap, e = .returned (.tuple #[.slice ao n cap, .int .i64 150]) ∧ HasU w' ao n cap ([]) ∧ n ≤ 4 ∧ Below W.heap.size W w') := fun W => rput_at hc (put_no kc).1 (put_no kc).2 W
  have hp : parC l = C.zero := (par_no kl).1
  have heq := nil_back
  have QL : Hid (∀ (W : World) (xo : Option Addr) (m cp : Nat), Tabs W → HasU W xo m cp l → Calls Tryd.prog 11 #[.slice xo m cp] W fun e w' => e = .returned (.tuple #[.agg #[.int .i64 0, .int .u64 0, .int .u64 0, .int .i64 0, .int .i64 0, .int .i64 0, .int .i64 0, .int .i64 0], .int .i64 150]) ∧ Below W.heap.size W w') := fun W xo m cp hW h => parse_at (d := C.zero) hl hp (par_no kl).2 W hW h
  have QR : Hid (∀ (W : World), HasU W ao n cap l → Calls Tryd.prog 12 #[.slice ao n cap] W fun e w' => e = .returned (.tuple #[.agg #[.int .i64 0, .int .u64 0, .int .u64 0, .int .i64 0, .int .i64 0, .int .i64 0, .int .i64 0, .int .i64 0], .int .i64 150]) ∧ Below W.heap.size W w') := fun W h => rparse_at (d := C.zero) hl hp (par_no kl).2 W h
  have KC : Hid (∀ W : World, Calls Tryd.prog 14 #[(.agg #[.int .i64 c.k, .int .u64 c.a, .int .u64 c.b, .int .i64 c.r, .int .i64 c.g, .int .i64 c.t, .int .i64 c.s, .int .i64 c.v])] W fun e w' => e = .returned (.int .i64 150) ∧ Below W.heap.size W w') := fun W => by
    have := check_any c W hc
    rwa [(put_no kc).2] at this
  have KI : Hid (∀ W : World, Calls Tryd.prog 15 #[(.agg #[.int .i64 c.k, .int .u64 c.a, .int .u64 c.b, .int .i64 c.r, .int .i64 c.g, .int .i64 c.t, .int .i64 c.s, .int .i64 c.v])] W fun e w' => e = .returned (.bool false) ∧ Below W.heap.size W w') := fun W => by
    have := ris_any c W hc
    rwa [kc] at this
  obtain ⟨nm, hnm⟩ : ∃ x, nmT c.k = x := ⟨_, rfl⟩
  have N1 : Hid (∀ W : World, Tabs W → Calls Tryd.prog 17 #[.int .i64 c.k] W fun e w' => e = .returned (.string nm) ∧ w' = W) := fun W hW => by
    have := name_any c.k W hW
    rwa [hnm] at this
  have N2 : Hid (∀ W : World, Calls Tryd.prog 18 #[.int .i64 c.k] W fun e w' => e = .returned (.string nm) ∧ Below W.heap.size W w') := fun W => by
    have := rname_any c.k W
    rwa [hnm] at this
  have HB := hid (q_alloc (Below.refl _ w) (.cells #[.int .i64 c.k, .int .u64 c.a, .int .u64 c.b, .int .i64 c.r, .int .i64 c.g, .int .i64 c.t, .int .i64 c.s, .int .i64 c.v] 24))
  have HT := hid (hT.below HB.out)
  have HH := hid (hH.below HB.out)
  have HC := hid (in_new w c 24)
  have HE := hid hH.len
  clear hT hH hl hc kc kl hp hnm
  go_enter Tryd.func3, Tryd.ntmps3
  go_wp2_with fail
  generalize w.alloc (.cells #[.int .i64 c.k, .int .u64 c.a, .int .u64 c.b, .int .i64 c.r, .int .i64 c.g, .int .i64 c.t, .int .i64 c.s, .int .i64 c.v] 24) = V at *
  refine (PC.out _ HT.out).mono ?_
  rintro e w1 ⟨a1, n1, p1, rfl, h1, l1, b1⟩
  have H1 := hid h1
  have L1 := hid l1
  have B1 := hid b1
  obtain ⟨d0, d1, d2, d3, d4, d5, d6, d7⟩ := HC.out.below B1.out
  clear h1 l1 b1
  go_wp2_with fail
  refine (PR.out _).mono ?_
  rintro e w2 ⟨a2, n2, p2, rfl, h2, l2, b2⟩
  have B2 := hid (q_trans B1.out b2)
  have H12 := hid (H1.out.below b2)
  have H2 := hid h2
  have L2 := hid l2
  clear h2 l2 b2 d0 d1 d2 d3 d4 d5 d6 d7 H1 B1
  go_wp2_with (at_builtin; go_loud (refine wpList_append_row _ rfl (.tmp 28) (.tmp 29) 25 22 _ 1 8 rfl Tryd.underlying25 infoU rfl (by decide) (by decide) w2.heap.size _ 0 [] rfl (own0 w2 22 1) ao n cap (vU l) rfl (by rw [List.length_map, ← HE.out, Nat.mul_one]) (fun h => HH.out.nil h) ((HH.out.row.below B2.out).below (alloc_below w2 _)) (vU_one l) (by omega) (alloc_below w2 _).size ?_; intro ao1 cap1 w3 own1 grow1; rw [Nat.zero_add] at own1 ⊢; apply Hid.out))
  have HA3 := hid (own_mineU own1).has
  have hb3 := app_below grow1
  have B3 := hid (q_trans B2.out hb3)
  have H13 := hid (H12.out.below hb3)
  have H23 := hid (H2.out.below hb3)
  clear own1 grow1 hb3 H12 H2 B2
  unfold Hid
  go_wp2_with fail
  refine (QL.out _ _ _ _ (HT.out.below B3.out) HA3.out).mono ?_
  rintro e w4 ⟨rfl, b4⟩
  have B4 := hid (q_alloc (q_trans B3.out b4) (.cells #[.int .i64 0, .int .u64 0, .int .u64 0, .int .i64 0, .int .i64 0, .int .i64 0, .int .i64 0, .int .i64 0] 24))
  have HP4 : Hid (In (w4.alloc (.cells #[.int .i64 0, .int .u64 0, .int .u64 0, .int .i64 0, .int .i64 0, .int .i64 0, .int .i64 0, .int .i64 0] 24)) w4.heap.size C.zero) := in_new w4 C.zero 24
  have H14 := hid ((H13.out.below b4).below (q_alloc (Below.refl _ _) (.cells #[.int .i64 0, .int .u64 0, .int .u64 0, .int .i64 0, .int .i64 0, .int .i64 0, .int .i64 0, .int .i64 0] 24)))
  have H24 := hid ((H23.out.below b4).below (q_alloc (Below.refl _ _) (.cells #[.int .i64 0, .int .u64 0, .int .u64 0, .int .i64 0, .int .i64 0, .int .i64 0, .int .i64 0, .int .i64 0] 24)))
  clear b4 H13 H23 B3 HA3
  go_wp2_with fail
  generalize w4.alloc (.cells #[.int .i64 0, .int .u64 0, .int .u64 0, .int .i64 0, .int .i64 0, .int .i64 0, .int .i64 0, .int .i64 0] 24) = V4 at *
  refine (QR.out _ (HH.out.below B4.out)).mono ?_
  rintro e w5 ⟨rfl, b5⟩
  have B5 := hid (q_alloc (q_trans B4.out b5) (.cells #[.int .i64 0, .int .u64 0, .int .u64 0, .int .i64 0, .int .i64 0, .int .i64 0, .int .i64 0, .int .i64 0] 24))
  have HQ5 : Hid (In (w5.alloc (.cells #[.int .i64 0, .int .u64 0, .int .u64 0, .int .i64 0, .int .i64 0, .int .i64 0, .int .i64 0, .int .i64 0] 24)) w5.heap.size C.zero) := in_new w5 C.zero 24
  have HP5 := hid ((HP4.out.below b5).below (q_alloc (Below.refl _ _) (.cells #[.int .i64 0, .int .u64 0, .int .u64 0, .int .i64 0, .int .i64 0, .int .i64 0, .int .i64 0, .int .i64 0] 24)))
  have H15 := hid ((H14.out.below b5).below (q_alloc (Below.refl _ _) (.cells #[.int .i64 0, .int .u64 0, .int .u64 0, .int .i64 0, .int .i64 0, .int .i64 0, .int .i64 0, .int .i64 0] 24)))
  have H25 := hid ((H24.out.below b5).below (q_alloc (Below.refl _ _) (.cells #[.int .i64 0, .int .u64 0, .int .u64 0, .int .i64 0, .int .i64 0, .int .i64 0, .int .i64 0, .int .i64 0] 24)))
  clear b5 H14 H24 B4 HP4
  go_wp2_with fail
  generalize w5.alloc (.cells #[.int .i64 0, .int .u64 0, .int .u64 0, .int .i64 0, .int .i64 0, .int .i64 0, .int .i64 0, .int .i64 0] 24) = V5 at *
  obtain ⟨c0, c1, c2, c3, c4, c5, c6, c7⟩ := (HC.out.below B5.out).always
  obtain ⟨x0, x1, x2, x3, x4, x5, x6, x7⟩ := HP5.out.always
  obtain ⟨y0, y1, y2, y3, y4, y5, y6, y7⟩ := HQ5.out.always
  have hne : Nonempty (Later V5) := ⟨⟨V5, Below.refl _ _⟩⟩
  have HTL : Hid (∀ g : Later V5, Tabs g.now) := fun g => HT.out.below (q_trans B5.out g.low)
  simp only [C.zero] at x0 x1 x2 x3 x4 x5 x6 x7 y0 y1 y2 y3 y4 y5 y6 y7
  refine wp_region_later (by kernel_rfl) (by kernel_rfl) ?_
  repeat (go_big_quiet_step (first | (go_at_call 13; exact later_same (num_any _ _)) | (go_at_call 14; exact later_call (KC.out _)) | (go_at_call 15; exact later_call (KI.out _)) | (go_at_call 16; exact later_call (words_any _ _ _ _ _ _ _ _ _ (H15.out.below (Later.low _)) (H25.out.below (Later.low _)) (by have := L1.out; omega) (by have := L2.out; omega) true (decide_eq_true rfl))) | (go_at_call 17; exact later_same (N1.out _ (HTL.out _))) | (go_at_call 18; exact later_call (N2.out _)) | (go_at_call 8; exact later_call (live_any _ (HTL.out _)))))
  refine wpQuiet_nil ?_
  rintro w9 ⟨⟨_, b9⟩, rfl⟩
  go_wp2_with fail
  go_ret
  exact ⟨rfl, q_trans (q_trans HB.out B5.out) b9⟩
set_option maxRecDepth 100000 in
set_option maxHeartbeats 4000000 in
theorem wd_01 (c : C) (ao : Option Addr) (n cap : Nat) (l : List Int) (w : World) (hT : Tabs w) (hn : n ≤ 20) (hc : Wf c) (hl : ∀ i ∈ l, U64 i) (hH : HasU w ao n cap l) (kc : okC c = false) (kl : parB l = true) :
    Calls Tryd.prog 3 #[(.agg #[.int .i64 c.k, .int .u64 c.a, .int .u64 c.b, .int .i64 c.r, .int .i64 c.g, .int .i64 c.t, .int .i64 c.s, .int .i64 c.v]), .slice ao n cap] w fun e w' => e = .returned (.bool true) ∧ Below w.heap.size w w' := by
  have hn2 : decide ((20 : Int) < (n : Int)) = false := decide_eq_false (by omega)
  have PC : Hid (∀ W : World, Tabs W → Calls Tryd.prog 9 #[(.agg #[.int .i64 c.k, .int .u64 c.a, .int .u64 c.b, .int .i64 c.r, .int .i64 c.g, .int .i64 c.t, .int .i64 c.s, .int .i64 c.v])] W fun e w' => ∃ ao n cap, e = .returned (.tuple #[.slice ao n cap, .int .i64 150]) ∧ HasU w' ao n cap ([]) ∧ n ≤ 4 ∧ Below W.heap.size W w') := fun W hW => put_at hc (put_no kc).1 (put_no kc).2 W hW
  have PR : Hid (∀ W : World, Calls Tryd.prog 10 #[(.agg #[.int .i64 c.k, .int .u64 c.a, .int .u64 c.b, .int .i64 c.r, .int .i64 c.g, .int .i64 c.t, .int .i64 c.s, .int .i64 c.v])] W fun e w' => ∃ ao n cap, e = .returned (.tuple #[.slice ao n cap, .int .i64 150]) ∧ HasU w' ao n cap ([]) ∧ n ≤ 4 ∧ Below W.heap.size W w') := fun W => rput_at hc (put_no kc).1 (put_no kc).2 W
  obtain ⟨p, hp⟩ : ∃ x, parC l = x := ⟨_, rfl⟩
  have heq := fun W => eq_at (eqC_self p) W
  have QL : Hid (∀ (W : World) (xo : Option Addr) (m cp : Nat), Tabs W → HasU W xo m cp l → Calls Tryd.prog 11 #[.slice xo m cp] W fun e w' => e = .returned (.tuple #[(.agg #[.int .i64 p.k, .int .u64 p.a, .int .u64 p.b, .int .i64 p.r, .int .i64 p.g, .int .i64 p.t, .int .i64 p.s, .int .i64 p.v]), .int .i64 0]) ∧ Below W.heap.size W w') := fun W xo m cp hW h => parse_at hl hp (par_yes kl).2 W hW h
  have QR : Hid (∀ (W : World), HasU W ao n cap l → Calls Tryd.prog 12 #[.slice ao n cap] W fun e w' => e = .returned (.tuple #[(.agg #[.int .i64 p.k, .int .u64 p.a, .int .u64 p.b, .int .i64 p.r, .int .i64 p.g, .int .i64 p.t, .int .i64 p.s, .int .i64 p.v]), .int .i64 0]) ∧ Below W.heap.size W w') := fun W h => rparse_at hl hp (par_yes kl).2 W h
  have KC : Hid (∀ W : World, Calls Tryd.prog 14 #[(.agg #[.int .i64 c.k, .int .u64 c.a, .int .u64 c.b, .int .i64 c.r, .int .i64 c.g, .int .i64 c.t, .int .i64 c.s, .int .i64 c.v])] W fun e w' => e = .returned (.int .i64 150) ∧ Below W.heap.size W w') := fun W => by
    have := check_any c W hc
    rwa [(put_no kc).2] at this
  have KI : Hid (∀ W : World, Calls Tryd.prog 15 #[(.agg #[.int .i64 c.k, .int .u64 c.a, .int .u64 c.b, .int .i64 c.r, .int .i64 c.g, .int .i64 c.t, .int .i64 c.s, .int .i64 c.v])] W fun e w' => e = .returned (.bool false) ∧ Below W.heap.size W w') := fun W => by
    have := ris_any c W hc
    rwa [kc] at this
  obtain ⟨nm, hnm⟩ : ∃ x, nmT c.k = x := ⟨_, rfl⟩
  have N1 : Hid (∀ W : World, Tabs W → Calls Tryd.prog 17 #[.int .i64 c.k] W fun e w' => e = .returned (.string nm) ∧ w' = W) := fun W hW => by
    have := name_any c.k W hW
    rwa [hnm] at this
  have N2 : Hid (∀ W : World, Calls Tryd.prog 18 #[.int .i64 c.k] W fun e w' => e = .returned (.string nm) ∧ Below W.heap.size W w') := fun W => by
    have := rname_any c.k W
    rwa [hnm] at this
  have HB := hid (q_alloc (Below.refl _ w) (.cells #[.int .i64 c.k, .int .u64 c.a, .int .u64 c.b, .int .i64 c.r, .int .i64 c.g, .int .i64 c.t, .int .i64 c.s, .int .i64 c.v] 24))
  have HT := hid (hT.below HB.out)
  have HH := hid (hH.below HB.out)
  have HC := hid (in_new w c 24)
  have HE := hid hH.len
  clear hT hH hl hc kc kl hp hnm
  go_enter Tryd.func3, Tryd.ntmps3
  go_wp2_with fail
  generalize w.alloc (.cells #[.int .i64 c.k, .int .u64 c.a, .int .u64 c.b, .int .i64 c.r, .int .i64 c.g, .int .i64 c.t, .int .i64 c.s, .int .i64 c.v] 24) = V at *
  refine (PC.out _ HT.out).mono ?_
  rintro e w1 ⟨a1, n1, p1, rfl, h1, l1, b1⟩
  have H1 := hid h1
  have L1 := hid l1
  have B1 := hid b1
  obtain ⟨d0, d1, d2, d3, d4, d5, d6, d7⟩ := HC.out.below B1.out
  clear h1 l1 b1
  go_wp2_with fail
  refine (PR.out _).mono ?_
  rintro e w2 ⟨a2, n2, p2, rfl, h2, l2, b2⟩
  have B2 := hid (q_trans B1.out b2)
  have H12 := hid (H1.out.below b2)
  have H2 := hid h2
  have L2 := hid l2
  clear h2 l2 b2 d0 d1 d2 d3 d4 d5 d6 d7 H1 B1
  go_wp2_with (at_builtin; go_loud (refine wpList_append_row _ rfl (.tmp 28) (.tmp 29) 25 22 _ 1 8 rfl Tryd.underlying25 infoU rfl (by decide) (by decide) w2.heap.size _ 0 [] rfl (own0 w2 22 1) ao n cap (vU l) rfl (by rw [List.length_map, ← HE.out, Nat.mul_one]) (fun h => HH.out.nil h) ((HH.out.row.below B2.out).below (alloc_below w2 _)) (vU_one l) (by omega) (alloc_below w2 _).size ?_; intro ao1 cap1 w3 own1 grow1; rw [Nat.zero_add] at own1 ⊢; apply Hid.out))
  have HA3 := hid (own_mineU own1).has
  have hb3 := app_below grow1
  have B3 := hid (q_trans B2.out hb3)
  have H13 := hid (H12.out.below hb3)
  have H23 := hid (H2.out.below hb3)
  clear own1 grow1 hb3 H12 H2 B2
  unfold Hid
  go_wp2_with fail
  refine (QL.out _ _ _ _ (HT.out.below B3.out) HA3.out).mono ?_
  rintro e w4 ⟨rfl, b4⟩
  have B4 := hid (q_alloc (q_trans B3.out b4) (.cells #[.int .i64 p.k, .int .u64 p.a, .int .u64 p.b, .int .i64 p.r, .int .i64 p.g, .int .i64 p.t, .int .i64 p.s, .int .i64 p.v] 24))
  have HP4 := hid (in_new w4 p 24)
  have H14 := hid ((H13.out.below b4).below (q_alloc (Below.refl _ _) (.cells #[.int .i64 p.k, .int .u64 p.a, .int .u64 p.b, .int .i64 p.r, .int .i64 p.g, .int .i64 p.t, .int .i64 p.s, .int .i64 p.v] 24)))
  have H24 := hid ((H23.out.below b4).below (q_alloc (Below.refl _ _) (.cells #[.int .i64 p.k, .int .u64 p.a, .int .u64 p.b, .int .i64 p.r, .int .i64 p.g, .int .i64 p.t, .int .i64 p.s, .int .i64 p.v] 24)))
  clear b4 H13 H23 B3 HA3
  go_wp2_with fail
  generalize w4.alloc (.cells #[.int .i64 p.k, .int .u64 p.a, .int .u64 p.b, .int .i64 p.r, .int .i64 p.g, .int .i64 p.t, .int .i64 p.s, .int .i64 p.v] 24) = V4 at *
  refine (QR.out _ (HH.out.below B4.out)).mono ?_
  rintro e w5 ⟨rfl, b5⟩
  have B5 := hid (q_alloc (q_trans B4.out b5) (.cells #[.int .i64 p.k, .int .u64 p.a, .int .u64 p.b, .int .i64 p.r, .int .i64 p.g, .int .i64 p.t, .int .i64 p.s, .int .i64 p.v] 24))
  have HQ5 := hid (in_new w5 p 24)
  have HP5 := hid ((HP4.out.below b5).below (q_alloc (Below.refl _ _) (.cells #[.int .i64 p.k, .int .u64 p.a, .int .u64 p.b, .int .i64 p.r, .int .i64 p.g, .int .i64 p.t, .int .i64 p.s, .int .i64 p.v] 24)))
  have H15 := hid ((H14.out.below b5).below (q_alloc (Below.refl _ _) (.cells #[.int .i64 p.k, .int .u64 p.a, .int .u64 p.b, .int .i64 p.r, .int .i64 p.g, .int .i64 p.t, .int .i64 p.s, .int .i64 p.v] 24)))
  have H25 := hid ((H24.out.below b5).below (q_alloc (Below.refl _ _) (.cells #[.int .i64 p.k, .int .u64 p.a, .int .u64 p.b, .int .i64 p.r, .int .i64 p.g, .int .i64 p.t, .int .i64 p.s, .int .i64 p.v] 24)))
  clear b5 H14 H24 B4 HP4
  go_wp2_with fail
  generalize w5.alloc (.cells #[.int .i64 p.k, .int .u64 p.a, .int .u64 p.b, .int .i64 p.r, .int .i64 p.g, .int .i64 p.t, .int .i64 p.s, .int .i64 p.v] 24) = V5 at *
  obtain ⟨c0, c1, c2, c3, c4, c5, c6, c7⟩ := (HC.out.below B5.out).always
  obtain ⟨x0, x1, x2, x3, x4, x5, x6, x7⟩ := HP5.out.always
  obtain ⟨y0, y1, y2, y3, y4, y5, y6, y7⟩ := HQ5.out.always
  have hne : Nonempty (Later V5) := ⟨⟨V5, Below.refl _ _⟩⟩
  have HTL : Hid (∀ g : Later V5, Tabs g.now) := fun g => HT.out.below (q_trans B5.out g.low)
  refine wp_region_later (by kernel_rfl) (by kernel_rfl) ?_
  repeat (go_big_quiet_step (first | (go_at_call 13; exact later_same (num_any _ _)) | (go_at_call 14; exact later_call (KC.out _)) | (go_at_call 15; exact later_call (KI.out _)) | (go_at_call 16; exact later_call (words_any _ _ _ _ _ _ _ _ _ (H15.out.below (Later.low _)) (H25.out.below (Later.low _)) (by have := L1.out; omega) (by have := L2.out; omega) true (decide_eq_true rfl))) | (go_at_call 17; exact later_same (N1.out _ (HTL.out _))) | (go_at_call 18; exact later_call (N2.out _)) | (go_at_call 8; exact later_call (live_any _ (HTL.out _)))))
  refine wpQuiet_nil ?_
  rintro w9 ⟨⟨_, b9⟩, rfl⟩
  go_wp2_with fail
  go_ret
  exact ⟨rfl, q_trans (q_trans HB.out B5.out) b9⟩
end Go.Proofs.YtilannincbcgkaaDoor.Kl
