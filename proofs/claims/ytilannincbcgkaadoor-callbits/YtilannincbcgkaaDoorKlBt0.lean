/- CallBits answers true. -/
import Derived.Test.YtilannincbcgkaaDoorKlBk0
namespace Go.Proofs.YtilannincbcgkaaDoor.Kl
open Go.RowKit
open Ad (q_trans q_alloc q_set ret_int ret_bool hid Later wp_region_later later_call wpList_append_row own0 app_below alloc_below own_cell own_setS own_frozen Row own_below)

theorem xor_ne (a n : Nat) : a ^^^ 2 ^ n ≠ a := by
  intro h
  have h1 := congrArg (fun x => x.testBit n) h
  simp [Nat.testBit_xor] at h1
/-- A word with a bit turned. -/
def flip (x : Int) (n : Nat) : Int := ((x.toNat ^^^ 2 ^ n : Nat) : Int)
theorem flip_ne (x : Int) (n : Nat) : flip x n ≠ x := by
  intro h
  have h2 := congrArg Int.toNat h
  rw [flip, Int.toNat_natCast] at h2
  exact xor_ne _ _ h2
theorem flip_u64 (x : Int) (n : Nat) (hx : U64 x) (hn : n < 64) : U64 (flip x n) := by
  refine u64_of _ ?_
  have h1 : x.toNat < 2 ^ 64 := by have := hx.1; have := hx.2; omega
  have h2 : 2 ^ n < 2 ^ 64 := Nat.pow_lt_pow_right (by omega) hn
  have := Nat.xor_lt_two_pow h1 h2
  omega
theorem flip_run (x : Int) (n : Nat) (hx : U64 x) (hn : n < 64) : bits .xor .u64 x (IntKind.u64.wrap (2 ^ n)) = flip x n := by
  obtain ⟨y, rfl⟩ := Int.eq_ofNat_of_zero_le hx.1
  have h2 : 2 ^ n < 2 ^ 64 := Nat.pow_lt_pow_right (by omega) hn
  have e : IntKind.u64.wrap (2 ^ n) = ((2 ^ n : Nat) : Int) := by
    rw [IntKind.wrap_u64, show ((2 : Int) ^ n) = ((2 ^ n : Nat) : Int) by simp]
    generalize 2 ^ n = p at h2 ⊢
    omega
  rw [e, u64_xor_nat y _ (by have := hx.2; omega) (by omega), flip, Int.toNat_natCast]
/-- The words with a bit turned. -/
def turn (l : List Int) (k j : Nat) : List Int := l.set k (flip (l.getD k 0) j)
theorem turn_u64 {l : List Int} (hl : ∀ i ∈ l, U64 i) (k j : Nat) (hj : j < 64) : ∀ i ∈ turn l k j, U64 i := by
  intro i hi
  rcases List.mem_or_eq_of_mem_set hi with h | h
  · exact hl i h
  · rw [h]; exact flip_u64 _ _ (get_u64 hl k) hj
theorem turn_ne {l : List Int} (k j : Nat) (hk : k < l.length) : turn l k j ≠ l := by
  intro h
  have h1 := congrArg (fun m => m.getD k 0) h
  simp only [turn, List.getD, List.getElem?_set_self hk, Option.getD_some] at h1
  exact flip_ne _ j h1
/-- WORDS WITH A BIT TURNED ARE ANOTHER CALL's. -/
theorem turn_par {c : C} (h : okC c = true) (hc : Wf c) (k j : Nat) (hk : k < 4) (hj : j < 64) (hb : parB (turn (wds c) k j) = true) : parC (turn (wds c) k j) ≠ c := by
  intro e
  have := (wds_par (turn_u64 (wds_u64 h hc) k j hj) hb).2.1
  rw [e] at this
  exact turn_ne k j (by rw [wds_len]; exact hk) this.symm
theorem vU_set (l : List Int) (k : Nat) (x : Int) : (vU l).set k (.int .u64 x) = vU (l.set k x) := by simp [vU]
theorem HasU.take3 {w : World} {ao : Option Addr} {n cap : Nat} {l : List Int} (h : HasU w ao n cap l) (hn : 3 ≤ n) : HasU w ao 3 cap (l.take 3) := by
  have hl := h.len
  refine ⟨by simp; omega, h.nil, by have := h.le; omega, ⟨fun j u hu => ?_⟩⟩
  have hj : j < 3 := by have := (List.getElem?_eq_some_iff.1 hu).1; simp at this; omega
  refine h.row.cell j u ?_
  rw [← hu]
  simp [vU, hj]
theorem one_row (w : World) (T : TypeId) : Row (w.alloc (.cells #[.int .u64 0] T)) (some ⟨w.heap.size, 0, none⟩) (vU [0]) := by
  refine ⟨fun j u hu => ⟨_, rfl, ?_⟩⟩
  match j, hu with
  | 0, hu => simp [vU] at hu; subst hu; simp [Addr.add]
/-- A row of one's own that has something lies in a block. -/
theorem own_block {w : World} {B n cap : Nat} {E : TypeId} {ao : Option Addr} {cs : List Value} (h : w.ownsRow B E 1 (.slice ao n cap) n cs) (h0 : 0 < n) : ∃ g, ao = some ⟨g, 0, none⟩ ∧ B ≤ g ∧ g < w.heap.size := by
  rcases h.2 with ⟨e, hz⟩ | ⟨g, cap', cur, e, hb, hg, _⟩
  · omega
  · cases e
    exact ⟨g, rfl, hb, (Array.getElem?_eq_some_iff.1 hg).1⟩
set_option maxRecDepth 100000 in
set_option maxHeartbeats 1000000 in
theorem bt_no (c : C) (at_ bit : Int) (w : World) (hT : Tabs w) (hc : Wf c) (kc : okC c = false)  :
    Calls Tryd.prog 7 #[(.agg #[.int .i64 c.k, .int .u64 c.a, .int .u64 c.b, .int .i64 c.r, .int .i64 c.g, .int .i64 c.t, .int .i64 c.s, .int .i64 c.v]), .int .i64 at_, .int .i64 bit] w fun e w' => e = .returned (.bool true) ∧ Below w.heap.size w w' := by
  have PC : Hid (∀ W : World, Tabs W → Calls Tryd.prog 9 #[(.agg #[.int .i64 c.k, .int .u64 c.a, .int .u64 c.b, .int .i64 c.r, .int .i64 c.g, .int .i64 c.t, .int .i64 c.s, .int .i64 c.v])] W fun e w' => ∃ ao n cap, e = .returned (.tuple #[.slice ao n cap, .int .i64 150]) ∧ HasU w' ao n cap ([]) ∧ n ≤ 4 ∧ Below W.heap.size W w') := fun W hW => put_at hc (put_no kc).1 (put_no kc).2 W hW
  have HB := hid (q_alloc (Below.refl _ w) (.cells #[.int .i64 c.k, .int .u64 c.a, .int .u64 c.b, .int .i64 c.r, .int .i64 c.g, .int .i64 c.t, .int .i64 c.s, .int .i64 c.v] 24))
  have HT := hid (hT.below HB.out)
  have HC := hid (in_new w c 24)
  clear hT hc kc
  go_enter Tryd.func7, Tryd.ntmps7
  go_wp2_with fail
  generalize w.alloc (.cells #[.int .i64 c.k, .int .u64 c.a, .int .u64 c.b, .int .i64 c.r, .int .i64 c.g, .int .i64 c.t, .int .i64 c.s, .int .i64 c.v] 24) = V at *
  refine (PC.out _ HT.out).mono ?_
  rintro e w1 ⟨a1, n1, p1, rfl, h1, l1, b1⟩
  have H1 := hid h1
  have B1 := hid b1
  clear h1 l1 b1
  go_wp2_with (first | (go_at_call 13; refine (num_any _ _).mono ?_; rintro e w' ⟨rfl, hw⟩; rw [hw]; clear hw w') | (go_at_call 8; refine (live_any _ (HT.out.below B1.out)).mono ?_; rintro e w6 ⟨rfl, b6⟩))
  go_ret
  exact ⟨rfl, q_trans (q_trans HB.out B1.out) b6⟩
set_option maxRecDepth 100000 in
set_option maxHeartbeats 1000000 in
theorem bt_a (c : C) (at_ bit : Int) (w : World) (hT : Tabs w) (hc : Wf c) (kc : okC c = true) (h : at_ < 0) :
    Calls Tryd.prog 7 #[(.agg #[.int .i64 c.k, .int .u64 c.a, .int .u64 c.b, .int .i64 c.r, .int .i64 c.g, .int .i64 c.t, .int .i64 c.s, .int .i64 c.v]), .int .i64 at_, .int .i64 bit] w fun e w' => e = .returned (.bool true) ∧ Below w.heap.size w w' := by
  have PC : Hid (∀ W : World, Tabs W → Calls Tryd.prog 9 #[(.agg #[.int .i64 c.k, .int .u64 c.a, .int .u64 c.b, .int .i64 c.r, .int .i64 c.g, .int .i64 c.t, .int .i64 c.s, .int .i64 c.v])] W fun e w' => ∃ ao n cap, e = .returned (.tuple #[.slice ao n cap, .int .i64 0]) ∧ HasU w' ao n cap (wds c) ∧ n ≤ 4 ∧ Below W.heap.size W w') := fun W hW => put_at hc (put_yes kc).1 (put_yes kc).2 W hW
  have HB := hid (q_alloc (Below.refl _ w) (.cells #[.int .i64 c.k, .int .u64 c.a, .int .u64 c.b, .int .i64 c.r, .int .i64 c.g, .int .i64 c.t, .int .i64 c.s, .int .i64 c.v] 24))
  have HT := hid (hT.below HB.out)
  have HC := hid (in_new w c 24)
  clear hT hc kc
  go_enter Tryd.func7, Tryd.ntmps7
  go_wp2_with fail
  generalize w.alloc (.cells #[.int .i64 c.k, .int .u64 c.a, .int .u64 c.b, .int .i64 c.r, .int .i64 c.g, .int .i64 c.t, .int .i64 c.s, .int .i64 c.v] 24) = V at *
  refine (PC.out _ HT.out).mono ?_
  rintro e w1 ⟨a1, n1, p1, rfl, h1, l1, b1⟩
  have H1 := hid h1
  have B1 := hid b1
  obtain rfl : n1 = 4 := by rw [h1.len]; rfl
  clear h1 l1 b1
  go_wp2_with (first | (go_at_call 13; refine (num_any _ _).mono ?_; rintro e w' ⟨rfl, hw⟩; rw [hw]; clear hw w') | (go_at_call 8; refine (live_any _ (HT.out.below B1.out)).mono ?_; rintro e w6 ⟨rfl, b6⟩))
  go_ret
  exact ⟨rfl, q_trans (q_trans HB.out B1.out) b6⟩
set_option maxRecDepth 100000 in
set_option maxHeartbeats 1000000 in
theorem bt_b (c : C) (at_ bit : Int) (w : World) (hT : Tabs w) (hc : Wf c) (kc : okC c = true) (h0 : ¬ at_ < 0) (h : 3 < at_) :
    Calls Tryd.prog 7 #[(.agg #[.int .i64 c.k, .int .u64 c.a, .int .u64 c.b, .int .i64 c.r, .int .i64 c.g, .int .i64 c.t, .int .i64 c.s, .int .i64 c.v]), .int .i64 at_, .int .i64 bit] w fun e w' => e = .returned (.bool true) ∧ Below w.heap.size w w' := by
  have PC : Hid (∀ W : World, Tabs W → Calls Tryd.prog 9 #[(.agg #[.int .i64 c.k, .int .u64 c.a, .int .u64 c.b, .int .i64 c.r, .int .i64 c.g, .int .i64 c.t, .int .i64 c.s, .int .i64 c.v])] W fun e w' => ∃ ao n cap, e = .returned (.tuple #[.slice ao n cap, .int .i64 0]) ∧ HasU w' ao n cap (wds c) ∧ n ≤ 4 ∧ Below W.heap.size W w') := fun W hW => put_at hc (put_yes kc).1 (put_yes kc).2 W hW
  have HB := hid (q_alloc (Below.refl _ w) (.cells #[.int .i64 c.k, .int .u64 c.a, .int .u64 c.b, .int .i64 c.r, .int .i64 c.g, .int .i64 c.t, .int .i64 c.s, .int .i64 c.v] 24))
  have HT := hid (hT.below HB.out)
  have HC := hid (in_new w c 24)
  clear hT hc kc
  go_enter Tryd.func7, Tryd.ntmps7
  go_wp2_with fail
  generalize w.alloc (.cells #[.int .i64 c.k, .int .u64 c.a, .int .u64 c.b, .int .i64 c.r, .int .i64 c.g, .int .i64 c.t, .int .i64 c.s, .int .i64 c.v] 24) = V at *
  refine (PC.out _ HT.out).mono ?_
  rintro e w1 ⟨a1, n1, p1, rfl, h1, l1, b1⟩
  have H1 := hid h1
  have B1 := hid b1
  obtain rfl : n1 = 4 := by rw [h1.len]; rfl
  clear h1 l1 b1
  go_wp2_with (first | (go_at_call 13; refine (num_any _ _).mono ?_; rintro e w' ⟨rfl, hw⟩; rw [hw]; clear hw w') | (go_at_call 8; refine (live_any _ (HT.out.below B1.out)).mono ?_; rintro e w6 ⟨rfl, b6⟩))
  go_ret
  exact ⟨rfl, q_trans (q_trans HB.out B1.out) b6⟩
set_option maxRecDepth 100000 in
set_option maxHeartbeats 1000000 in
theorem bt_c (c : C) (at_ bit : Int) (w : World) (hT : Tabs w) (hc : Wf c) (kc : okC c = true) (h0 : ¬ at_ < 0) (h1 : ¬ 3 < at_) (h : bit < 0) :
    Calls Tryd.prog 7 #[(.agg #[.int .i64 c.k, .int .u64 c.a, .int .u64 c.b, .int .i64 c.r, .int .i64 c.g, .int .i64 c.t, .int .i64 c.s, .int .i64 c.v]), .int .i64 at_, .int .i64 bit] w fun e w' => e = .returned (.bool true) ∧ Below w.heap.size w w' := by
  have PC : Hid (∀ W : World, Tabs W → Calls Tryd.prog 9 #[(.agg #[.int .i64 c.k, .int .u64 c.a, .int .u64 c.b, .int .i64 c.r, .int .i64 c.g, .int .i64 c.t, .int .i64 c.s, .int .i64 c.v])] W fun e w' => ∃ ao n cap, e = .returned (.tuple #[.slice ao n cap, .int .i64 0]) ∧ HasU w' ao n cap (wds c) ∧ n ≤ 4 ∧ Below W.heap.size W w') := fun W hW => put_at hc (put_yes kc).1 (put_yes kc).2 W hW
  have HB := hid (q_alloc (Below.refl _ w) (.cells #[.int .i64 c.k, .int .u64 c.a, .int .u64 c.b, .int .i64 c.r, .int .i64 c.g, .int .i64 c.t, .int .i64 c.s, .int .i64 c.v] 24))
  have HT := hid (hT.below HB.out)
  have HC := hid (in_new w c 24)
  clear hT hc kc
  go_enter Tryd.func7, Tryd.ntmps7
  go_wp2_with fail
  generalize w.alloc (.cells #[.int .i64 c.k, .int .u64 c.a, .int .u64 c.b, .int .i64 c.r, .int .i64 c.g, .int .i64 c.t, .int .i64 c.s, .int .i64 c.v] 24) = V at *
  refine (PC.out _ HT.out).mono ?_
  rintro e w1 ⟨a1, n1, p1, rfl, h1, l1, b1⟩
  have H1 := hid h1
  have B1 := hid b1
  obtain rfl : n1 = 4 := by rw [h1.len]; rfl
  clear h1 l1 b1
  go_wp2_with (first | (go_at_call 13; refine (num_any _ _).mono ?_; rintro e w' ⟨rfl, hw⟩; rw [hw]; clear hw w') | (go_at_call 8; refine (live_any _ (HT.out.below B1.out)).mono ?_; rintro e w6 ⟨rfl, b6⟩))
  go_ret
  exact ⟨rfl, q_trans (q_trans HB.out B1.out) b6⟩
set_option maxRecDepth 100000 in
set_option maxHeartbeats 1000000 in
theorem bt_d (c : C) (at_ bit : Int) (w : World) (hT : Tabs w) (hc : Wf c) (kc : okC c = true) (h0 : ¬ at_ < 0) (h1 : ¬ 3 < at_) (h2 : ¬ bit < 0) (h : 63 < bit) :
    Calls Tryd.prog 7 #[(.agg #[.int .i64 c.k, .int .u64 c.a, .int .u64 c.b, .int .i64 c.r, .int .i64 c.g, .int .i64 c.t, .int .i64 c.s, .int .i64 c.v]), .int .i64 at_, .int .i64 bit] w fun e w' => e = .returned (.bool true) ∧ Below w.heap.size w w' := by
  have PC : Hid (∀ W : World, Tabs W → Calls Tryd.prog 9 #[(.agg #[.int .i64 c.k, .int .u64 c.a, .int .u64 c.b, .int .i64 c.r, .int .i64 c.g, .int .i64 c.t, .int .i64 c.s, .int .i64 c.v])] W fun e w' => ∃ ao n cap, e = .returned (.tuple #[.slice ao n cap, .int .i64 0]) ∧ HasU w' ao n cap (wds c) ∧ n ≤ 4 ∧ Below W.heap.size W w') := fun W hW => put_at hc (put_yes kc).1 (put_yes kc).2 W hW
  have HB := hid (q_alloc (Below.refl _ w) (.cells #[.int .i64 c.k, .int .u64 c.a, .int .u64 c.b, .int .i64 c.r, .int .i64 c.g, .int .i64 c.t, .int .i64 c.s, .int .i64 c.v] 24))
  have HT := hid (hT.below HB.out)
  have HC := hid (in_new w c 24)
  clear hT hc kc
  go_enter Tryd.func7, Tryd.ntmps7
  go_wp2_with fail
  generalize w.alloc (.cells #[.int .i64 c.k, .int .u64 c.a, .int .u64 c.b, .int .i64 c.r, .int .i64 c.g, .int .i64 c.t, .int .i64 c.s, .int .i64 c.v] 24) = V at *
  refine (PC.out _ HT.out).mono ?_
  rintro e w1 ⟨a1, n1, p1, rfl, h1, l1, b1⟩
  have H1 := hid h1
  have B1 := hid b1
  obtain rfl : n1 = 4 := by rw [h1.len]; rfl
  clear h1 l1 b1
  go_wp2_with (first | (go_at_call 13; refine (num_any _ _).mono ?_; rintro e w' ⟨rfl, hw⟩; rw [hw]; clear hw w') | (go_at_call 8; refine (live_any _ (HT.out.below B1.out)).mono ?_; rintro e w6 ⟨rfl, b6⟩))
  go_ret
  exact ⟨rfl, q_trans (q_trans HB.out B1.out) b6⟩
end Go.Proofs.YtilannincbcgkaaDoor.Kl
