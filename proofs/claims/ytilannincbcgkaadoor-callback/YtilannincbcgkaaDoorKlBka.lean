/- CallBack answers true. -/
import Derived.Test.YtilannincbcgkaaDoorKlBk0
namespace Go.Proofs.YtilannincbcgkaaDoor.Kl
open Go.RowKit
open Ad (q_trans q_alloc q_set ret_int ret_bool hid Later wp_region_later later_call)

set_option maxRecDepth 100000 in
set_option maxHeartbeats 4000000 in
theorem bk_000 (c d : C) (ao : Option Addr) (n cap : Nat) (l : List Int) (w : World) (hT : Tabs w) (hn : n ≤ 20) (hc : Wf c) (hd : Wf d) (hl : ∀ i ∈ l, U64 i) (hH : HasU w ao n cap l) (kc : okC c = false) (kd : okC d = false) (kl : parB l = false) :
    Calls Tryd.prog 4 #[(.agg #[.int .i64 c.k, .int .u64 c.a, .int .u64 c.b, .int .i64 c.r, .int .i64 c.g, .int .i64 c.t, .int .i64 c.s, .int .i64 c.v]), (.agg #[.int .i64 d.k, .int .u64 d.a, .int .u64 d.b, .int .i64 d.r, .int .i64 d.g, .int .i64 d.t, .int .i64 d.s, .int .i64 d.v]), .slice ao n cap] w fun e w' => e = .returned (.bool true) ∧ Below w.heap.size w w' := by
  have hn2 : decide ((20 : Int) < (n : Int)) = false := decide_eq_false (by omega)
  have PC : Hid (∀ W : World, Tabs W → Calls Tryd.prog 9 #[(.agg #[.int .i64 c.k, .int .u64 c.a, .int .u64 c.b, .int .i64 c.r, .int .i64 c.g, .int .i64 c.t, .int .i64 c.s, .int .i64 c.v])] W fun e w' => ∃ ao n cap, e = .returned (.tuple #[.slice ao n cap, .int .i64 150]) ∧ HasU w' ao n cap ([]) ∧ n ≤ 4 ∧ Below W.heap.size W w') := fun W hW => put_at hc (put_no kc).1 (put_no kc).2 W hW
  have PD : Hid (∀ W : World, Tabs W → Calls Tryd.prog 9 #[(.agg #[.int .i64 d.k, .int .u64 d.a, .int .u64 d.b, .int .i64 d.r, .int .i64 d.g, .int .i64 d.t, .int .i64 d.s, .int .i64 d.v])] W fun e w' => ∃ ao n cap, e = .returned (.tuple #[.slice ao n cap, .int .i64 150]) ∧ HasU w' ao n cap ([]) ∧ n ≤ 4 ∧ Below W.heap.size W w') := fun W hW => put_at hd (put_no kd).1 (put_no kd).2 W hW
  have QL : Hid (∀ (W : World), Tabs W → HasU W ao n cap l → Calls Tryd.prog 11 #[.slice ao n cap] W fun e w' => e = .returned (.tuple #[.agg #[.int .i64 0, .int .u64 0, .int .u64 0, .int .i64 0, .int .i64 0, .int .i64 0, .int .i64 0, .int .i64 0], .int .i64 150]) ∧ Below W.heap.size W w') := fun W hW h => parse_at (d := C.zero) hl (par_no kl).1 (par_no kl).2 W hW h
  have hz := nil_back
  have HB := hid (q_alloc (q_alloc (Below.refl _ w) (.cells #[.int .i64 c.k, .int .u64 c.a, .int .u64 c.b, .int .i64 c.r, .int .i64 c.g, .int .i64 c.t, .int .i64 c.s, .int .i64 c.v] 24)) (.cells #[.int .i64 d.k, .int .u64 d.a, .int .u64 d.b, .int .i64 d.r, .int .i64 d.g, .int .i64 d.t, .int .i64 d.s, .int .i64 d.v] 24))
  have HT := hid (hT.below HB.out)
  have HH := hid (hH.below HB.out)
  have HC := hid ((in_new w c 24).below (q_alloc (Below.refl _ _) (.cells #[.int .i64 d.k, .int .u64 d.a, .int .u64 d.b, .int .i64 d.r, .int .i64 d.g, .int .i64 d.t, .int .i64 d.s, .int .i64 d.v] 24)))
  have HD := hid (in_new (w.alloc (.cells #[.int .i64 c.k, .int .u64 c.a, .int .u64 c.b, .int .i64 c.r, .int .i64 c.g, .int .i64 c.t, .int .i64 c.s, .int .i64 c.v] 24)) d 24)
  rw [show (w.alloc (.cells #[.int .i64 c.k, .int .u64 c.a, .int .u64 c.b, .int .i64 c.r, .int .i64 c.g, .int .i64 c.t, .int .i64 c.s, .int .i64 c.v] 24)).heap.size = w.heap.size + 1 by simp] at HD
  clear hT hH hl hc hd kc kd kl
  go_enter Tryd.func4, Tryd.ntmps4
  go_wp2_with fail
  generalize (w.alloc (.cells #[.int .i64 c.k, .int .u64 c.a, .int .u64 c.b, .int .i64 c.r, .int .i64 c.g, .int .i64 c.t, .int .i64 c.s, .int .i64 c.v] 24)).alloc (.cells #[.int .i64 d.k, .int .u64 d.a, .int .u64 d.b, .int .i64 d.r, .int .i64 d.g, .int .i64 d.t, .int .i64 d.s, .int .i64 d.v] 24) = V at *
  refine (PC.out _ HT.out).mono ?_
  rintro e w1 ⟨a1, n1, p1, rfl, h1, l1, b1⟩
  have H1 := hid h1
  have L1 := hid l1
  have B1 := hid b1
  obtain ⟨d0, d1, d2, d3, d4, d5, d6, d7⟩ := HD.out.below B1.out
  clear h1 l1 b1
  go_wp2_with fail
  refine (PD.out _ (HT.out.below B1.out)).mono ?_
  rintro e w2 ⟨a2, n2, p2, rfl, h2, l2, b2⟩
  have B2 := hid (q_trans B1.out b2)
  have H1' := hid (H1.out.below b2)
  have H2 := hid h2
  have L2 := hid l2
  clear h2 l2 b2 d0 d1 d2 d3 d4 d5 d6 d7 H1 B1

  go_wp2_with (go_at_call 13; refine (num_any _ _).mono ?_; rintro e w' ⟨rfl, hw⟩; rw [hw]; clear hw w')
  have hne : Nonempty (Later w2) := ⟨⟨w2, Below.refl _ _⟩⟩
  refine wp_region_later (by kernel_rfl) (by kernel_rfl) ?_
  repeat (go_big_quiet_step ((go_at_call 13; exact later_same (num_any _ _))))
  refine wpQuiet_nil ?_
  rintro w4 ⟨⟨_, b4⟩, rfl⟩
  have B4 := hid (q_trans B2.out b4)
  clear b4 hne
  go_wp2_with fail
  refine (QL.out _ (HT.out.below B4.out) (HH.out.below B4.out)).mono ?_
  rintro e w5 ⟨rfl, b5⟩
  have B5 := hid (q_trans B4.out b5)
  clear b5
  have B6 := hid (q_alloc B5.out (.cells #[.int .i64 0, .int .u64 0, .int .u64 0, .int .i64 0, .int .i64 0, .int .i64 0, .int .i64 0, .int .i64 0] 24))
  go_wp2_with (first | (go_at_call 13; refine (num_any _ _).mono ?_; rintro e w' ⟨rfl, hw⟩; rw [hw]; clear hw w') | (go_at_call 8; refine (live_any _ (HT.out.below B6.out)).mono ?_; rintro e w6 ⟨rfl, b6⟩))
  go_ret
  exact ⟨rfl, q_trans (q_trans HB.out B6.out) b6⟩
set_option maxRecDepth 100000 in
set_option maxHeartbeats 4000000 in
theorem bk_001 (c d : C) (ao : Option Addr) (n cap : Nat) (l : List Int) (w : World) (hT : Tabs w) (hn : n ≤ 20) (hc : Wf c) (hd : Wf d) (hl : ∀ i ∈ l, U64 i) (hH : HasU w ao n cap l) (kc : okC c = false) (kd : okC d = false) (kl : parB l = true) :
    Calls Tryd.prog 4 #[(.agg #[.int .i64 c.k, .int .u64 c.a, .int .u64 c.b, .int .i64 c.r, .int .i64 c.g, .int .i64 c.t, .int .i64 c.s, .int .i64 c.v]), (.agg #[.int .i64 d.k, .int .u64 d.a, .int .u64 d.b, .int .i64 d.r, .int .i64 d.g, .int .i64 d.t, .int .i64 d.s, .int .i64 d.v]), .slice ao n cap] w fun e w' => e = .returned (.bool true) ∧ Below w.heap.size w w' := by
  have hn2 : decide ((20 : Int) < (n : Int)) = false := decide_eq_false (by omega)
  have PC : Hid (∀ W : World, Tabs W → Calls Tryd.prog 9 #[(.agg #[.int .i64 c.k, .int .u64 c.a, .int .u64 c.b, .int .i64 c.r, .int .i64 c.g, .int .i64 c.t, .int .i64 c.s, .int .i64 c.v])] W fun e w' => ∃ ao n cap, e = .returned (.tuple #[.slice ao n cap, .int .i64 150]) ∧ HasU w' ao n cap ([]) ∧ n ≤ 4 ∧ Below W.heap.size W w') := fun W hW => put_at hc (put_no kc).1 (put_no kc).2 W hW
  have PD : Hid (∀ W : World, Tabs W → Calls Tryd.prog 9 #[(.agg #[.int .i64 d.k, .int .u64 d.a, .int .u64 d.b, .int .i64 d.r, .int .i64 d.g, .int .i64 d.t, .int .i64 d.s, .int .i64 d.v])] W fun e w' => ∃ ao n cap, e = .returned (.tuple #[.slice ao n cap, .int .i64 150]) ∧ HasU w' ao n cap ([]) ∧ n ≤ 4 ∧ Below W.heap.size W w') := fun W hW => put_at hd (put_no kd).1 (put_no kd).2 W hW
  obtain ⟨p, hp⟩ : ∃ x, parC l = x := ⟨_, rfl⟩
  have HPl := wds_par hl kl
  rw [hp] at HPl
  obtain ⟨kp, _, hp3, hp4, hp5⟩ := HPl
  have QL : Hid (∀ (W : World), Tabs W → HasU W ao n cap l → Calls Tryd.prog 11 #[.slice ao n cap] W fun e w' => e = .returned (.tuple #[(.agg #[.int .i64 p.k, .int .u64 p.a, .int .u64 p.b, .int .i64 p.r, .int .i64 p.g, .int .i64 p.t, .int .i64 p.s, .int .i64 p.v]), .int .i64 0]) ∧ Below W.heap.size W w') := fun W hW h => parse_at hl hp (par_yes kl).2 W hW h
  have PP : Hid (∀ W : World, Tabs W → Calls Tryd.prog 9 #[(.agg #[.int .i64 p.k, .int .u64 p.a, .int .u64 p.b, .int .i64 p.r, .int .i64 p.g, .int .i64 p.t, .int .i64 p.s, .int .i64 p.v])] W fun e w' => ∃ ao n cap, e = .returned (.tuple #[.slice ao n cap, .int .i64 0]) ∧ HasU w' ao n cap l ∧ n ≤ 4 ∧ Below W.heap.size W w') := fun W hW => put_at hp5 hp3 hp4 W hW
  have KP : Hid (∀ W : World, Calls Tryd.prog 14 #[(.agg #[.int .i64 p.k, .int .u64 p.a, .int .u64 p.b, .int .i64 p.r, .int .i64 p.g, .int .i64 p.t, .int .i64 p.s, .int .i64 p.v])] W fun e w' => e = .returned (.int .i64 0) ∧ Below W.heap.size W w') := fun W => by
    have := check_any p W hp5
    rwa [hp4] at this
  clear hp kp hp3 hp4 hp5
  have HB := hid (q_alloc (q_alloc (Below.refl _ w) (.cells #[.int .i64 c.k, .int .u64 c.a, .int .u64 c.b, .int .i64 c.r, .int .i64 c.g, .int .i64 c.t, .int .i64 c.s, .int .i64 c.v] 24)) (.cells #[.int .i64 d.k, .int .u64 d.a, .int .u64 d.b, .int .i64 d.r, .int .i64 d.g, .int .i64 d.t, .int .i64 d.s, .int .i64 d.v] 24))
  have HT := hid (hT.below HB.out)
  have HH := hid (hH.below HB.out)
  have HC := hid ((in_new w c 24).below (q_alloc (Below.refl _ _) (.cells #[.int .i64 d.k, .int .u64 d.a, .int .u64 d.b, .int .i64 d.r, .int .i64 d.g, .int .i64 d.t, .int .i64 d.s, .int .i64 d.v] 24)))
  have HD := hid (in_new (w.alloc (.cells #[.int .i64 c.k, .int .u64 c.a, .int .u64 c.b, .int .i64 c.r, .int .i64 c.g, .int .i64 c.t, .int .i64 c.s, .int .i64 c.v] 24)) d 24)
  rw [show (w.alloc (.cells #[.int .i64 c.k, .int .u64 c.a, .int .u64 c.b, .int .i64 c.r, .int .i64 c.g, .int .i64 c.t, .int .i64 c.s, .int .i64 c.v] 24)).heap.size = w.heap.size + 1 by simp] at HD
  clear hT hH hl hc hd kc kd kl
  go_enter Tryd.func4, Tryd.ntmps4
  go_wp2_with fail
  generalize (w.alloc (.cells #[.int .i64 c.k, .int .u64 c.a, .int .u64 c.b, .int .i64 c.r, .int .i64 c.g, .int .i64 c.t, .int .i64 c.s, .int .i64 c.v] 24)).alloc (.cells #[.int .i64 d.k, .int .u64 d.a, .int .u64 d.b, .int .i64 d.r, .int .i64 d.g, .int .i64 d.t, .int .i64 d.s, .int .i64 d.v] 24) = V at *
  refine (PC.out _ HT.out).mono ?_
  rintro e w1 ⟨a1, n1, p1, rfl, h1, l1, b1⟩
  have H1 := hid h1
  have L1 := hid l1
  have B1 := hid b1
  obtain ⟨d0, d1, d2, d3, d4, d5, d6, d7⟩ := HD.out.below B1.out
  clear h1 l1 b1
  go_wp2_with fail
  refine (PD.out _ (HT.out.below B1.out)).mono ?_
  rintro e w2 ⟨a2, n2, p2, rfl, h2, l2, b2⟩
  have B2 := hid (q_trans B1.out b2)
  have H1' := hid (H1.out.below b2)
  have H2 := hid h2
  have L2 := hid l2
  clear h2 l2 b2 d0 d1 d2 d3 d4 d5 d6 d7 H1 B1

  go_wp2_with (go_at_call 13; refine (num_any _ _).mono ?_; rintro e w' ⟨rfl, hw⟩; rw [hw]; clear hw w')
  have hne : Nonempty (Later w2) := ⟨⟨w2, Below.refl _ _⟩⟩
  refine wp_region_later (by kernel_rfl) (by kernel_rfl) ?_
  repeat (go_big_quiet_step ((go_at_call 13; exact later_same (num_any _ _))))
  refine wpQuiet_nil ?_
  rintro w4 ⟨⟨_, b4⟩, rfl⟩
  have B4 := hid (q_trans B2.out b4)
  clear b4 hne
  go_wp2_with fail
  refine (QL.out _ (HT.out.below B4.out) (HH.out.below B4.out)).mono ?_
  rintro e w5 ⟨rfl, b5⟩
  have B5 := hid (q_trans B4.out b5)
  clear b5
  have HI := hid (in_new w5 p 24)
  have B6 := hid (q_alloc B5.out (.cells #[.int .i64 p.k, .int .u64 p.a, .int .u64 p.b, .int .i64 p.r, .int .i64 p.g, .int .i64 p.t, .int .i64 p.s, .int .i64 p.v] 24))
  go_wp2_with (go_at_call 13; refine (num_any _ _).mono ?_; rintro e w' ⟨rfl, hw⟩; rw [hw]; clear hw w')
  generalize w5.alloc (.cells #[.int .i64 p.k, .int .u64 p.a, .int .u64 p.b, .int .i64 p.r, .int .i64 p.g, .int .i64 p.t, .int .i64 p.s, .int .i64 p.v] 24) = V5 at *
  refine (PP.out _ (HT.out.below B6.out)).mono ?_
  rintro e w7 ⟨a7, n7, p7, rfl, h7, l7, b7⟩
  have B7 := hid (q_trans B6.out b7)
  have H7 := hid h7
  have L7 := hid l7
  have HI7 := hid (HI.out.below b7)
  clear h7 l7 b7
  go_wp2_with (go_at_call 13; refine (num_any _ _).mono ?_; rintro e w' ⟨rfl, hw⟩; rw [hw]; clear hw w')
  refine (words_any _ _ _ _ _ _ _ _ _ H7.out (HH.out.below B7.out) (by have := L7.out; omega) (by omega) true (decide_eq_true rfl)).mono ?_
  rintro e w8 ⟨rfl, b8⟩
  have B8 := hid (q_trans B7.out b8)
  obtain ⟨c0, c1, c2, c3, c4, c5, c6, c7⟩ := HI7.out.below b8
  clear b8
  go_wp2_with fail
  refine (KP.out _).mono ?_
  rintro e w9 ⟨rfl, b9⟩
  have B9 := hid (q_trans B8.out b9)
  clear b9 c0 c1 c2 c3 c4 c5 c6 c7
  go_wp2_with (first | (go_at_call 13; refine (num_any _ _).mono ?_; rintro e w' ⟨rfl, hw⟩; rw [hw]; clear hw w') | (go_at_call 8; refine (live_any _ (HT.out.below B9.out)).mono ?_; rintro e w6 ⟨rfl, b6⟩))
  go_ret
  exact ⟨rfl, q_trans (q_trans HB.out B9.out) b6⟩
set_option maxRecDepth 100000 in
set_option maxHeartbeats 4000000 in
theorem bk_010 (c d : C) (ao : Option Addr) (n cap : Nat) (l : List Int) (w : World) (hT : Tabs w) (hn : n ≤ 20) (hc : Wf c) (hd : Wf d) (hl : ∀ i ∈ l, U64 i) (hH : HasU w ao n cap l) (kc : okC c = false) (kd : okC d = true) (kl : parB l = false) :
    Calls Tryd.prog 4 #[(.agg #[.int .i64 c.k, .int .u64 c.a, .int .u64 c.b, .int .i64 c.r, .int .i64 c.g, .int .i64 c.t, .int .i64 c.s, .int .i64 c.v]), (.agg #[.int .i64 d.k, .int .u64 d.a, .int .u64 d.b, .int .i64 d.r, .int .i64 d.g, .int .i64 d.t, .int .i64 d.s, .int .i64 d.v]), .slice ao n cap] w fun e w' => e = .returned (.bool true) ∧ Below w.heap.size w w' := by
  have hn2 : decide ((20 : Int) < (n : Int)) = false := decide_eq_false (by omega)
  have PC : Hid (∀ W : World, Tabs W → Calls Tryd.prog 9 #[(.agg #[.int .i64 c.k, .int .u64 c.a, .int .u64 c.b, .int .i64 c.r, .int .i64 c.g, .int .i64 c.t, .int .i64 c.s, .int .i64 c.v])] W fun e w' => ∃ ao n cap, e = .returned (.tuple #[.slice ao n cap, .int .i64 150]) ∧ HasU w' ao n cap ([]) ∧ n ≤ 4 ∧ Below W.heap.size W w') := fun W hW => put_at hc (put_no kc).1 (put_no kc).2 W hW
  have PD : Hid (∀ W : World, Tabs W → Calls Tryd.prog 9 #[(.agg #[.int .i64 d.k, .int .u64 d.a, .int .u64 d.b, .int .i64 d.r, .int .i64 d.g, .int .i64 d.t, .int .i64 d.s, .int .i64 d.v])] W fun e w' => ∃ ao n cap, e = .returned (.tuple #[.slice ao n cap, .int .i64 0]) ∧ HasU w' ao n cap (wds d) ∧ n ≤ 4 ∧ Below W.heap.size W w') := fun W hW => put_at hd (put_yes kd).1 (put_yes kd).2 W hW
  have QL : Hid (∀ (W : World), Tabs W → HasU W ao n cap l → Calls Tryd.prog 11 #[.slice ao n cap] W fun e w' => e = .returned (.tuple #[.agg #[.int .i64 0, .int .u64 0, .int .u64 0, .int .i64 0, .int .i64 0, .int .i64 0, .int .i64 0, .int .i64 0], .int .i64 150]) ∧ Below W.heap.size W w') := fun W hW h => parse_at (d := C.zero) hl (par_no kl).1 (par_no kl).2 W hW h
  have hz := nil_back
  have HB := hid (q_alloc (q_alloc (Below.refl _ w) (.cells #[.int .i64 c.k, .int .u64 c.a, .int .u64 c.b, .int .i64 c.r, .int .i64 c.g, .int .i64 c.t, .int .i64 c.s, .int .i64 c.v] 24)) (.cells #[.int .i64 d.k, .int .u64 d.a, .int .u64 d.b, .int .i64 d.r, .int .i64 d.g, .int .i64 d.t, .int .i64 d.s, .int .i64 d.v] 24))
  have HT := hid (hT.below HB.out)
  have HH := hid (hH.below HB.out)
  have HC := hid ((in_new w c 24).below (q_alloc (Below.refl _ _) (.cells #[.int .i64 d.k, .int .u64 d.a, .int .u64 d.b, .int .i64 d.r, .int .i64 d.g, .int .i64 d.t, .int .i64 d.s, .int .i64 d.v] 24)))
  have HD := hid (in_new (w.alloc (.cells #[.int .i64 c.k, .int .u64 c.a, .int .u64 c.b, .int .i64 c.r, .int .i64 c.g, .int .i64 c.t, .int .i64 c.s, .int .i64 c.v] 24)) d 24)
  rw [show (w.alloc (.cells #[.int .i64 c.k, .int .u64 c.a, .int .u64 c.b, .int .i64 c.r, .int .i64 c.g, .int .i64 c.t, .int .i64 c.s, .int .i64 c.v] 24)).heap.size = w.heap.size + 1 by simp] at HD
  clear hT hH hl hc hd kc kd kl
  go_enter Tryd.func4, Tryd.ntmps4
  go_wp2_with fail
  generalize (w.alloc (.cells #[.int .i64 c.k, .int .u64 c.a, .int .u64 c.b, .int .i64 c.r, .int .i64 c.g, .int .i64 c.t, .int .i64 c.s, .int .i64 c.v] 24)).alloc (.cells #[.int .i64 d.k, .int .u64 d.a, .int .u64 d.b, .int .i64 d.r, .int .i64 d.g, .int .i64 d.t, .int .i64 d.s, .int .i64 d.v] 24) = V at *
  refine (PC.out _ HT.out).mono ?_
  rintro e w1 ⟨a1, n1, p1, rfl, h1, l1, b1⟩
  have H1 := hid h1
  have L1 := hid l1
  have B1 := hid b1
  obtain ⟨d0, d1, d2, d3, d4, d5, d6, d7⟩ := HD.out.below B1.out
  clear h1 l1 b1
  go_wp2_with fail
  refine (PD.out _ (HT.out.below B1.out)).mono ?_
  rintro e w2 ⟨a2, n2, p2, rfl, h2, l2, b2⟩
  have B2 := hid (q_trans B1.out b2)
  have H1' := hid (H1.out.below b2)
  have H2 := hid h2
  have L2 := hid l2
  clear h2 l2 b2 d0 d1 d2 d3 d4 d5 d6 d7 H1 B1

  go_wp2_with (go_at_call 13; refine (num_any _ _).mono ?_; rintro e w' ⟨rfl, hw⟩; rw [hw]; clear hw w')
  have hne : Nonempty (Later w2) := ⟨⟨w2, Below.refl _ _⟩⟩
  refine wp_region_later (by kernel_rfl) (by kernel_rfl) ?_
  repeat (go_big_quiet_step ((go_at_call 13; exact later_same (num_any _ _))))
  refine wpQuiet_nil ?_
  rintro w4 ⟨⟨_, b4⟩, rfl⟩
  have B4 := hid (q_trans B2.out b4)
  clear b4 hne
  go_wp2_with fail
  refine (QL.out _ (HT.out.below B4.out) (HH.out.below B4.out)).mono ?_
  rintro e w5 ⟨rfl, b5⟩
  have B5 := hid (q_trans B4.out b5)
  clear b5
  have B6 := hid (q_alloc B5.out (.cells #[.int .i64 0, .int .u64 0, .int .u64 0, .int .i64 0, .int .i64 0, .int .i64 0, .int .i64 0, .int .i64 0] 24))
  go_wp2_with (first | (go_at_call 13; refine (num_any _ _).mono ?_; rintro e w' ⟨rfl, hw⟩; rw [hw]; clear hw w') | (go_at_call 8; refine (live_any _ (HT.out.below B6.out)).mono ?_; rintro e w6 ⟨rfl, b6⟩))
  go_ret
  exact ⟨rfl, q_trans (q_trans HB.out B6.out) b6⟩
set_option maxRecDepth 100000 in
set_option maxHeartbeats 4000000 in
theorem bk_011 (c d : C) (ao : Option Addr) (n cap : Nat) (l : List Int) (w : World) (hT : Tabs w) (hn : n ≤ 20) (hc : Wf c) (hd : Wf d) (hl : ∀ i ∈ l, U64 i) (hH : HasU w ao n cap l) (kc : okC c = false) (kd : okC d = true) (kl : parB l = true) :
    Calls Tryd.prog 4 #[(.agg #[.int .i64 c.k, .int .u64 c.a, .int .u64 c.b, .int .i64 c.r, .int .i64 c.g, .int .i64 c.t, .int .i64 c.s, .int .i64 c.v]), (.agg #[.int .i64 d.k, .int .u64 d.a, .int .u64 d.b, .int .i64 d.r, .int .i64 d.g, .int .i64 d.t, .int .i64 d.s, .int .i64 d.v]), .slice ao n cap] w fun e w' => e = .returned (.bool true) ∧ Below w.heap.size w w' := by
  have hn2 : decide ((20 : Int) < (n : Int)) = false := decide_eq_false (by omega)
  have PC : Hid (∀ W : World, Tabs W → Calls Tryd.prog 9 #[(.agg #[.int .i64 c.k, .int .u64 c.a, .int .u64 c.b, .int .i64 c.r, .int .i64 c.g, .int .i64 c.t, .int .i64 c.s, .int .i64 c.v])] W fun e w' => ∃ ao n cap, e = .returned (.tuple #[.slice ao n cap, .int .i64 150]) ∧ HasU w' ao n cap ([]) ∧ n ≤ 4 ∧ Below W.heap.size W w') := fun W hW => put_at hc (put_no kc).1 (put_no kc).2 W hW
  have PD : Hid (∀ W : World, Tabs W → Calls Tryd.prog 9 #[(.agg #[.int .i64 d.k, .int .u64 d.a, .int .u64 d.b, .int .i64 d.r, .int .i64 d.g, .int .i64 d.t, .int .i64 d.s, .int .i64 d.v])] W fun e w' => ∃ ao n cap, e = .returned (.tuple #[.slice ao n cap, .int .i64 0]) ∧ HasU w' ao n cap (wds d) ∧ n ≤ 4 ∧ Below W.heap.size W w') := fun W hW => put_at hd (put_yes kd).1 (put_yes kd).2 W hW
  obtain ⟨p, hp⟩ : ∃ x, parC l = x := ⟨_, rfl⟩
  have HPl := wds_par hl kl
  rw [hp] at HPl
  obtain ⟨kp, _, hp3, hp4, hp5⟩ := HPl
  have QL : Hid (∀ (W : World), Tabs W → HasU W ao n cap l → Calls Tryd.prog 11 #[.slice ao n cap] W fun e w' => e = .returned (.tuple #[(.agg #[.int .i64 p.k, .int .u64 p.a, .int .u64 p.b, .int .i64 p.r, .int .i64 p.g, .int .i64 p.t, .int .i64 p.s, .int .i64 p.v]), .int .i64 0]) ∧ Below W.heap.size W w') := fun W hW h => parse_at hl hp (par_yes kl).2 W hW h
  have PP : Hid (∀ W : World, Tabs W → Calls Tryd.prog 9 #[(.agg #[.int .i64 p.k, .int .u64 p.a, .int .u64 p.b, .int .i64 p.r, .int .i64 p.g, .int .i64 p.t, .int .i64 p.s, .int .i64 p.v])] W fun e w' => ∃ ao n cap, e = .returned (.tuple #[.slice ao n cap, .int .i64 0]) ∧ HasU w' ao n cap l ∧ n ≤ 4 ∧ Below W.heap.size W w') := fun W hW => put_at hp5 hp3 hp4 W hW
  have KP : Hid (∀ W : World, Calls Tryd.prog 14 #[(.agg #[.int .i64 p.k, .int .u64 p.a, .int .u64 p.b, .int .i64 p.r, .int .i64 p.g, .int .i64 p.t, .int .i64 p.s, .int .i64 p.v])] W fun e w' => e = .returned (.int .i64 0) ∧ Below W.heap.size W w') := fun W => by
    have := check_any p W hp5
    rwa [hp4] at this
  clear hp kp hp3 hp4 hp5
  have HB := hid (q_alloc (q_alloc (Below.refl _ w) (.cells #[.int .i64 c.k, .int .u64 c.a, .int .u64 c.b, .int .i64 c.r, .int .i64 c.g, .int .i64 c.t, .int .i64 c.s, .int .i64 c.v] 24)) (.cells #[.int .i64 d.k, .int .u64 d.a, .int .u64 d.b, .int .i64 d.r, .int .i64 d.g, .int .i64 d.t, .int .i64 d.s, .int .i64 d.v] 24))
  have HT := hid (hT.below HB.out)
  have HH := hid (hH.below HB.out)
  have HC := hid ((in_new w c 24).below (q_alloc (Below.refl _ _) (.cells #[.int .i64 d.k, .int .u64 d.a, .int .u64 d.b, .int .i64 d.r, .int .i64 d.g, .int .i64 d.t, .int .i64 d.s, .int .i64 d.v] 24)))
  have HD := hid (in_new (w.alloc (.cells #[.int .i64 c.k, .int .u64 c.a, .int .u64 c.b, .int .i64 c.r, .int .i64 c.g, .int .i64 c.t, .int .i64 c.s, .int .i64 c.v] 24)) d 24)
  rw [show (w.alloc (.cells #[.int .i64 c.k, .int .u64 c.a, .int .u64 c.b, .int .i64 c.r, .int .i64 c.g, .int .i64 c.t, .int .i64 c.s, .int .i64 c.v] 24)).heap.size = w.heap.size + 1 by simp] at HD
  clear hT hH hl hc hd kc kd kl
  go_enter Tryd.func4, Tryd.ntmps4
  go_wp2_with fail
  generalize (w.alloc (.cells #[.int .i64 c.k, .int .u64 c.a, .int .u64 c.b, .int .i64 c.r, .int .i64 c.g, .int .i64 c.t, .int .i64 c.s, .int .i64 c.v] 24)).alloc (.cells #[.int .i64 d.k, .int .u64 d.a, .int .u64 d.b, .int .i64 d.r, .int .i64 d.g, .int .i64 d.t, .int .i64 d.s, .int .i64 d.v] 24) = V at *
  refine (PC.out _ HT.out).mono ?_
  rintro e w1 ⟨a1, n1, p1, rfl, h1, l1, b1⟩
  have H1 := hid h1
  have L1 := hid l1
  have B1 := hid b1
  obtain ⟨d0, d1, d2, d3, d4, d5, d6, d7⟩ := HD.out.below B1.out
  clear h1 l1 b1
  go_wp2_with fail
  refine (PD.out _ (HT.out.below B1.out)).mono ?_
  rintro e w2 ⟨a2, n2, p2, rfl, h2, l2, b2⟩
  have B2 := hid (q_trans B1.out b2)
  have H1' := hid (H1.out.below b2)
  have H2 := hid h2
  have L2 := hid l2
  clear h2 l2 b2 d0 d1 d2 d3 d4 d5 d6 d7 H1 B1

  go_wp2_with (go_at_call 13; refine (num_any _ _).mono ?_; rintro e w' ⟨rfl, hw⟩; rw [hw]; clear hw w')
  have hne : Nonempty (Later w2) := ⟨⟨w2, Below.refl _ _⟩⟩
  refine wp_region_later (by kernel_rfl) (by kernel_rfl) ?_
  repeat (go_big_quiet_step ((go_at_call 13; exact later_same (num_any _ _))))
  refine wpQuiet_nil ?_
  rintro w4 ⟨⟨_, b4⟩, rfl⟩
  have B4 := hid (q_trans B2.out b4)
  clear b4 hne
  go_wp2_with fail
  refine (QL.out _ (HT.out.below B4.out) (HH.out.below B4.out)).mono ?_
  rintro e w5 ⟨rfl, b5⟩
  have B5 := hid (q_trans B4.out b5)
  clear b5
  have HI := hid (in_new w5 p 24)
  have B6 := hid (q_alloc B5.out (.cells #[.int .i64 p.k, .int .u64 p.a, .int .u64 p.b, .int .i64 p.r, .int .i64 p.g, .int .i64 p.t, .int .i64 p.s, .int .i64 p.v] 24))
  go_wp2_with (go_at_call 13; refine (num_any _ _).mono ?_; rintro e w' ⟨rfl, hw⟩; rw [hw]; clear hw w')
  generalize w5.alloc (.cells #[.int .i64 p.k, .int .u64 p.a, .int .u64 p.b, .int .i64 p.r, .int .i64 p.g, .int .i64 p.t, .int .i64 p.s, .int .i64 p.v] 24) = V5 at *
  refine (PP.out _ (HT.out.below B6.out)).mono ?_
  rintro e w7 ⟨a7, n7, p7, rfl, h7, l7, b7⟩
  have B7 := hid (q_trans B6.out b7)
  have H7 := hid h7
  have L7 := hid l7
  have HI7 := hid (HI.out.below b7)
  clear h7 l7 b7
  go_wp2_with (go_at_call 13; refine (num_any _ _).mono ?_; rintro e w' ⟨rfl, hw⟩; rw [hw]; clear hw w')
  refine (words_any _ _ _ _ _ _ _ _ _ H7.out (HH.out.below B7.out) (by have := L7.out; omega) (by omega) true (decide_eq_true rfl)).mono ?_
  rintro e w8 ⟨rfl, b8⟩
  have B8 := hid (q_trans B7.out b8)
  obtain ⟨c0, c1, c2, c3, c4, c5, c6, c7⟩ := HI7.out.below b8
  clear b8
  go_wp2_with fail
  refine (KP.out _).mono ?_
  rintro e w9 ⟨rfl, b9⟩
  have B9 := hid (q_trans B8.out b9)
  clear b9 c0 c1 c2 c3 c4 c5 c6 c7
  go_wp2_with (first | (go_at_call 13; refine (num_any _ _).mono ?_; rintro e w' ⟨rfl, hw⟩; rw [hw]; clear hw w') | (go_at_call 8; refine (live_any _ (HT.out.below B9.out)).mono ?_; rintro e w6 ⟨rfl, b6⟩))
  go_ret
  exact ⟨rfl, q_trans (q_trans HB.out B9.out) b6⟩
end Go.Proofs.YtilannincbcgkaaDoor.Kl
