/- What HistOrder does. -/
import Derived.Test.YtmnkbkhfonngeaaHiSS
namespace Go.Proofs.Ytmnkbkhfonngeaa.Hi
open Go.RowKit

attribute [local go_sem ↓] lz_is
attribute [local go_sem ↓] ls_is
attribute [local go_sem ↓] ss_is
attribute [local go_sem] st10 st20 st21 st30 st31 st32 dt10 dt20 dt21 dt30 dt31 dt32
/-- What is read of a history's box, and three spans. -/
abbrev S3 (b : Nat) (x : Hh) (a1 a2 a3 : Addr) (p q r : Sp) (w : World) : Prop := w.cell? ⟨b, 0, none⟩ = some (.slice x.s.o x.s.n x.s.c) ∧ (LS (.pointer (some a1))).run Try.prog w = .ok (.agg #[.int .i64 p.co, .int .i64 p.c.k, .int .u64 p.c.a, .int .u64 p.c.b, .int .i64 p.c.r, .int .i64 p.c.g, .int .i64 p.c.t, .int .i64 p.c.s, .int .i64 p.c.v, .int .i64 p.st, .int .i64 p.en, .int .i64 p.r.e, .int .i64 p.r.v, .int .i64 p.r.b, .bool p.r.t]) w ∧ (LS (.pointer (some a2))).run Try.prog w = .ok (.agg #[.int .i64 q.co, .int .i64 q.c.k, .int .u64 q.c.a, .int .u64 q.c.b, .int .i64 q.c.r, .int .i64 q.c.g, .int .i64 q.c.t, .int .i64 q.c.s, .int .i64 q.c.v, .int .i64 q.st, .int .i64 q.en, .int .i64 q.r.e, .int .i64 q.r.v, .int .i64 q.r.b, .bool q.r.t]) w ∧ (LS (.pointer (some a3))).run Try.prog w = .ok (.agg #[.int .i64 r.co, .int .i64 r.c.k, .int .u64 r.c.a, .int .u64 r.c.b, .int .i64 r.c.r, .int .i64 r.c.g, .int .i64 r.c.t, .int .i64 r.c.s, .int .i64 r.c.v, .int .i64 r.st, .int .i64 r.en, .int .i64 r.r.e, .int .i64 r.r.v, .int .i64 r.r.b, .bool r.r.t]) w ∧ Hid (∀ j v, (spC p)[j]? = some v → w.cell? (a1.add j) = some v) ∧ Hid (∀ j v, (spC q)[j]? = some v → w.cell? (a2.add j) = some v) ∧ Hid (∀ j v, (spC r)[j]? = some v → w.cell? (a3.add j) = some v)
theorem cs_keep {a : Addr} {p : Sp} {W w : World} (h : Hid (∀ j v, (spC p)[j]? = some v → W.cell? (a.add j) = some v)) (k : Below W.heap.size W w) : Hid (∀ j v, (spC p)[j]? = some v → w.cell? (a.add j) = some v) :=
  fun j v hv => (k.cell (World.block_lt_of_cell? W _ (h.out j v hv))).trans (h.out j v hv)
theorem s3_keep {b : Nat} {x : Hh} {a1 a2 a3 : Addr} {p q r : Sp} {W w : World} (h : S3 b x a1 a2 a3 p q r W) (k : Below W.heap.size W w) : S3 b x a1 a2 a3 p q r w := by
  obtain ⟨h0, _, _, _, h1, h2, h3⟩ := h
  have g1 := cs_keep h1 k
  have g2 := cs_keep h2 k
  have g3 := cs_keep h3 k
  exact ⟨(k.cell (World.block_lt_of_cell? W _ h0)).trans h0, ls_run g1.out, ls_run g2.out, ls_run g3.out, g1, g2, g3⟩
theorem cs_of {w : World} {a : Addr} {l : List Sp} (h : Row w (some a) (l.flatMap spC)) (k : Nat) (hk : k < l.length) : Hid (∀ j v, (spC (l.getD k s0))[j]? = some v → w.cell? ((a.add (k * 15)).add j) = some v) := by
  intro j v hv
  have hj : j < 15 := by have := (List.getElem?_eq_some_iff.1 hv).1; simpa [spC] using this
  obtain ⟨a', e', hc⟩ := h.cell (k * 15 + j) v ((fm_at spC 15 spC_len l s0 k j hj hk).trans hv)
  cases e'
  rw [add_add]
  exact hc
theorem s3_of {w : World} {b : Nat} {x : Hh} {l : List Sp} (hb : Hb w b x) (h : Row w x.s.o (l.flatMap spC)) {i j k : Nat} (hi : i < l.length) (hj : j < l.length) (hk : k < l.length) : ∃ a, x.s.o = some a ∧ S3 b x (a.add (i * 15)) (a.add (j * 15)) (a.add (k * 15)) (l.getD i s0) (l.getD j s0) (l.getD k s0) w := by
  obtain ⟨a, e, _⟩ := atS_of h i hi
  rw [e] at h
  exact ⟨a, e, hb.c0, ls_run (cs_of h i hi).out, ls_run (cs_of h j hj).out, ls_run (cs_of h k hk).out, cs_of h i hi, cs_of h j hj, cs_of h k hk⟩
/-- Three spans in boxes. -/
def B3 (W V : World) (b c d : Nat) (p q r : Sp) : Prop := Sb V b p ∧ Sb V c q ∧ Sb V d r ∧ Below W.heap.size W V
theorem b3_new {W : World} (p q r : Sp) : B3 W (((W.alloc (.cells #[.int .i64 p.co, .int .i64 p.c.k, .int .u64 p.c.a, .int .u64 p.c.b, .int .i64 p.c.r, .int .i64 p.c.g, .int .i64 p.c.t, .int .i64 p.c.s, .int .i64 p.c.v, .int .i64 p.st, .int .i64 p.en, .int .i64 p.r.e, .int .i64 p.r.v, .int .i64 p.r.b, .bool p.r.t] 50)).alloc (.cells #[.int .i64 q.co, .int .i64 q.c.k, .int .u64 q.c.a, .int .u64 q.c.b, .int .i64 q.c.r, .int .i64 q.c.g, .int .i64 q.c.t, .int .i64 q.c.s, .int .i64 q.c.v, .int .i64 q.st, .int .i64 q.en, .int .i64 q.r.e, .int .i64 q.r.v, .int .i64 q.r.b, .bool q.r.t] 50)).alloc (.cells #[.int .i64 r.co, .int .i64 r.c.k, .int .u64 r.c.a, .int .u64 r.c.b, .int .i64 r.c.r, .int .i64 r.c.g, .int .i64 r.c.t, .int .i64 r.c.s, .int .i64 r.c.v, .int .i64 r.st, .int .i64 r.en, .int .i64 r.r.e, .int .i64 r.r.v, .int .i64 r.r.b, .bool r.r.t] 50)) W.heap.size (W.heap.size + 1) (W.heap.size + 1 + 1) p q r := by
  have h := two_sp W p q
  have k := sb_new ((W.alloc (.cells #[.int .i64 p.co, .int .i64 p.c.k, .int .u64 p.c.a, .int .u64 p.c.b, .int .i64 p.c.r, .int .i64 p.c.g, .int .i64 p.c.t, .int .i64 p.c.s, .int .i64 p.c.v, .int .i64 p.st, .int .i64 p.en, .int .i64 p.r.e, .int .i64 p.r.v, .int .i64 p.r.b, .bool p.r.t] 50)).alloc (.cells #[.int .i64 q.co, .int .i64 q.c.k, .int .u64 q.c.a, .int .u64 q.c.b, .int .i64 q.c.r, .int .i64 q.c.g, .int .i64 q.c.t, .int .i64 q.c.s, .int .i64 q.c.v, .int .i64 q.st, .int .i64 q.en, .int .i64 q.r.e, .int .i64 q.r.v, .int .i64 q.r.b, .bool q.r.t] 50)) r
  rw [show ((W.alloc (.cells #[.int .i64 p.co, .int .i64 p.c.k, .int .u64 p.c.a, .int .u64 p.c.b, .int .i64 p.c.r, .int .i64 p.c.g, .int .i64 p.c.t, .int .i64 p.c.s, .int .i64 p.c.v, .int .i64 p.st, .int .i64 p.en, .int .i64 p.r.e, .int .i64 p.r.v, .int .i64 p.r.b, .bool p.r.t] 50)).alloc (.cells #[.int .i64 q.co, .int .i64 q.c.k, .int .u64 q.c.a, .int .u64 q.c.b, .int .i64 q.c.r, .int .i64 q.c.g, .int .i64 q.c.t, .int .i64 q.c.s, .int .i64 q.c.v, .int .i64 q.st, .int .i64 q.en, .int .i64 q.r.e, .int .i64 q.r.v, .int .i64 q.r.b, .bool q.r.t] 50)).heap.size = W.heap.size + 1 + 1 by simp] at k
  exact ⟨h.1.below (alloc_below _ _), h.2.1.below (alloc_below _ _), k, q_alloc h.2.2 _⟩
theorem B3.drew {W V : World} {b c d : Nat} {p q r : Sp} (h : B3 W V b c d p q r) : B3 W V.drew b c d p q r := ⟨h.1.below (Below.refl _ _).drew, h.2.1.below (Below.refl _ _).drew, h.2.2.1.below (Below.refl _ _).drew, h.2.2.2.drew⟩
theorem B3.sw {W V : World} {b c d : Nat} {p q r : Sp} (h : B3 W V b c d p q r) : B3 W V c b d q p r := ⟨h.2.1, h.1, h.2.2.1, h.2.2.2⟩
theorem B3.rt {W V : World} {b c d : Nat} {p q r : Sp} (h : B3 W V b c d p q r) : B3 W V c d b q r p := ⟨h.2.1, h.2.2.1, h.1, h.2.2.2⟩
theorem B3.below {W V X : World} {b c d : Nat} {p q r : Sp} (h : B3 W V b c d p q r) (k : Below V.heap.size V X) : B3 W X b c d p q r := ⟨h.1.below k, h.2.1.below k, h.2.2.1.below k, q_trans h.2.2.2 k⟩
theorem ahead_is (a b : Sp) (v : Bool) (hv : Hid (ahB a b = v)) (w : World) :
    Calls Try.prog 19 #[(.agg #[.int .i64 a.co, .int .i64 a.c.k, .int .u64 a.c.a, .int .u64 a.c.b, .int .i64 a.c.r, .int .i64 a.c.g, .int .i64 a.c.t, .int .i64 a.c.s, .int .i64 a.c.v, .int .i64 a.st, .int .i64 a.en, .int .i64 a.r.e, .int .i64 a.r.v, .int .i64 a.r.b, .bool a.r.t]), (.agg #[.int .i64 b.co, .int .i64 b.c.k, .int .u64 b.c.a, .int .u64 b.c.b, .int .i64 b.c.r, .int .i64 b.c.g, .int .i64 b.c.t, .int .i64 b.c.s, .int .i64 b.c.v, .int .i64 b.st, .int .i64 b.en, .int .i64 b.r.e, .int .i64 b.r.v, .int .i64 b.r.b, .bool b.r.t])] w fun e w' => e = .returned (.bool v) ∧ Below w.heap.size w w' := by
  have h := ahead_any a b w
  rwa [hv.out] at h
/-- A box's first number, by a letter of its own. -/
theorem Sb.first {w : World} {b : Nat} {p : Sp} {k : Int} (g : Sb w b p) (hk : k = p.co) : w.cell? ⟨b, 0, none⟩ = some (.int .i64 k) := by rw [hk]; exact g.at.c0
set_option maxRecDepth 100000 in
set_option maxHeartbeats 2000000 in
theorem order_in (K : LiveC) (ao : Option Addr) (N cap : Nat) (l : List (Ac × Hd)) (p q r : Int) (w : World) (hN : N ≤ 60) (HH : HasZ w ⟨ao, N, cap⟩ l) :
    Calls Try.prog 5 #[.slice ao N cap, .int .i64 p, .int .i64 q, .int .i64 r] w fun e w' => e = .returned (.bool true) ∧ Below w.heap.size w w' := by
  have HZ := hid HH
  have HNl : Hid (N = l.length) := HH.has.len
  clear HH
  have i0 : ¬ ((N : Int) > 60) := by omega
  go_enter Try.func5, Try.ntmps5
  go_wp2_with fail
  have HG := hid (g1_new w)
  generalize w.alloc (.cells #[.slice none 0 0, .slice none 0 0] 25) = W0 at HG ⊢
  go_loopw [10] (fun i wr => ∃ (j : Nat) (h : Hs) (x : Hh), j ≤ N ∧ i = .int .i64 j ∧ Hid (G1 w wr x h) ∧ Hid (okH h = true) ∧ Hid (h.s.length ≤ j ∧ h.e.length ≤ j ∧ ShortE h.e)) (fun i _ => N - (intOf i).toNat)
  case atStart => exact ⟨0, h0, nilX, Nat.zero_le _, rfl, HG, h0_ok, Nat.le_refl _, Nat.le_refl _, fun e he => by cases he⟩
  case round =>
    obtain ⟨j, h, x, hj, rfl, HG, HOk, HLn⟩ := hrel
    by_cases hlt : j < N
    · have i1 : (0 : Int) ≤ (j : Int) := by omega
      have i2 : (j : Int) < (N : Int) := by omega
      have hjl : j < l.length := by have := HNl.out; omega
      obtain ⟨a, ea, hS⟩ := sz_of HG.out.a (HZ.out.below HG.out.low).has.row j hjl
      obtain rfl : ao = some a := ea
      obtain ⟨a', ea', ca⟩ := atZ_of (HZ.out.below HG.out.low).has.row j hjl
      cases ea'
      have c26 := ca.c26
      have HU := hid ((HZ.out.below HG.out.low).each _ (show l.getD j (a0, nilH) ∈ l from getD_mem hjl))
      obtain ⟨p, hp⟩ : ∃ p, l.getD j (a0, nilH) = p := ⟨_, rfl⟩
      have HPq := hid hp
      rw [hp] at hS ca c26 HU
      clear hp
      obtain ⟨z, u⟩ := p
      clear ca
      dsimp only at c26
      by_cases hu : (u.n : Int) > 10
      · have hun : 10 < u.n := by omega
        clear hS
        go_wp2_with (go_at_call 9; refine (K _).mono ?_; rintro e w9 ⟨rfl, b9⟩)
        go_ret
        exact ⟨rfl, q_trans HG.out.low b9⟩
      · have hun : ¬ (10 < u.n) := by omega
        have hu5 : u.n ≤ 5000 := by omega
        go_upto_region 9 with fail
        clear c26
        have hxn : x.s.n ≤ 5000 ∧ x.e.n ≤ 5000 := by have := HLn.out; exact ⟨by rw [HG.out.ha.s.len]; omega, by rw [HG.out.ha.e.len]; omega⟩
        have CD : Hid (∀ X, Below wr.heap.size wr X → Calls Try.prog 10 #[(.agg #[.slice x.s.o x.s.n x.s.c, .slice x.e.o x.e.n x.e.c]), (.agg #[.int .i64 z.k, .int .i64 z.co, .int .i64 z.now, .int .i64 z.c.k, .int .u64 z.c.a, .int .u64 z.c.b, .int .i64 z.c.r, .int .i64 z.c.g, .int .i64 z.c.t, .int .i64 z.c.s, .int .i64 z.c.v, .int .i64 z.r.e, .int .i64 z.r.v, .int .i64 z.r.b, .bool z.r.t, .int .i64 z.e.k, .int .i64 z.e.co, .int .i64 z.e.c.k, .int .u64 z.e.c.a, .int .u64 z.e.c.b, .int .i64 z.e.c.r, .int .i64 z.e.c.g, .int .i64 z.e.c.t, .int .i64 z.e.c.s, .int .i64 z.e.c.v, .int .i64 z.e.sp, .slice u.o u.n u.c])] X fun e w' => ∃ v : Hh, e = .returned (.tuple #[(.agg #[.slice v.s.o v.s.n v.s.c, .slice v.e.o v.e.n v.e.c]), .int .i64 (doE h z)]) ∧ HasH w' v (doH h z) ∧ Below X.heap.size X w') := fun X b => does_any x h z u X hxn.1 hxn.2 hu5 HLn.out.2.2 (HG.out.ha.below b) (HU.out.below b)
        obtain ⟨c0, c1, hl, hcc⟩ := sz_keep hS (Below.refl wr.heap.size wr).drew
        have hlb : w.heap.size < wr.heap.size := HG.out.a.lt
        clear hS
        have HLn2 : Hid ((doH h z).s.length ≤ j + 1 ∧ (doH h z).e.length ≤ j + 1 ∧ ShortE (doH h z).e) := do_sm HLn.out (by rw [← HU.out.len]; exact hu5)
        have HOk2 : Hid (okH (doH h z) = true) := do_ok z HOk.out
        go_region_with
          (first
            | (go_at_call 10; refine (CD.out _ (Below.refl _ wr).drew).mono ?_; rintro e w9 ⟨v, rfl, hv, hb⟩; have HB9 : Hid (Below wr.heap.size wr w9) := (q_trans (Below.refl _ wr).drew hb); have HF := hid (g1_put HG.out HB9.out hv); have HQ := hid (HG.out.a.below HB9.out); have k0 := HQ.out.c0; have k1 := HQ.out.c1; have f0 := HQ.out.fz 0; have f1 := HQ.out.fz 1; have hq9 := HQ.out.lt; clear hv hb)
            | fail)
        all_goals
          clear CD
          go_wp2_with fail
          go_roundw
          case rel => exact ⟨j + 1, doH h z, v, by omega, by go_num, HF, HOk2, HLn2⟩
          case measure => simp [intOf]; omega
    · have i2 : ¬ (j : Int) < (N : Int) := by omega
      obtain ⟨⟨so, sn, sc⟩, ⟨eo, en, ec⟩⟩ := x
      have c0 : wr.cell? ⟨w.heap.size, 0, none⟩ = some (.slice so sn sc) := HG.out.a.c0
      have HL : Hid (sn = h.s.length) := HG.out.ha.s.len
      by_cases b1 : p < 0
      · skip
        go_wp2_with (go_at_call 9; refine (K _).mono ?_; rintro e w9 ⟨rfl, b9⟩)
        go_ret
        exact ⟨rfl, q_trans HG.out.low b9⟩
      by_cases b2 : q < 0
      · skip
        go_wp2_with (go_at_call 9; refine (K _).mono ?_; rintro e w9 ⟨rfl, b9⟩)
        go_ret
        exact ⟨rfl, q_trans HG.out.low b9⟩
      by_cases b3 : r < 0
      · skip
        go_wp2_with (go_at_call 9; refine (K _).mono ?_; rintro e w9 ⟨rfl, b9⟩)
        go_ret
        exact ⟨rfl, q_trans HG.out.low b9⟩
      by_cases b4 : p ≥ (sn : Int)
      · have b4' : (sn : Int) ≤ p := b4
        go_wp2_with (go_at_call 9; refine (K _).mono ?_; rintro e w9 ⟨rfl, b9⟩)
        go_ret
        exact ⟨rfl, q_trans HG.out.low b9⟩
      by_cases b5 : q ≥ (sn : Int)
      · have b5' : (sn : Int) ≤ q := b5
        go_wp2_with (go_at_call 9; refine (K _).mono ?_; rintro e w9 ⟨rfl, b9⟩)
        go_ret
        exact ⟨rfl, q_trans HG.out.low b9⟩
      by_cases b6 : r ≥ (sn : Int)
      · have b6' : (sn : Int) ≤ r := b6
        go_wp2_with (go_at_call 9; refine (K _).mono ?_; rintro e w9 ⟨rfl, b9⟩)
        go_ret
        exact ⟨rfl, q_trans HG.out.low b9⟩
      obtain ⟨i, rfl⟩ : ∃ i : Nat, p = i := ⟨p.toNat, by omega⟩
      obtain ⟨m, rfl⟩ : ∃ m : Nat, q = m := ⟨q.toNat, by omega⟩
      obtain ⟨k, rfl⟩ : ∃ k : Nat, r = k := ⟨r.toNat, by omega⟩
      have hi : i < sn := by omega
      have hm : m < sn := by omega
      have hk : k < sn := by omega
      clear b1 b2 b3 b4 b5 b6
      have n1 : ¬ (i : Int) < 0 := by omega
      have n2 : ¬ (m : Int) < 0 := by omega
      have n3 : ¬ (k : Int) < 0 := by omega
      have n4 : ¬ (i : Int) ≥ (sn : Int) := by omega
      have n5 : ¬ (m : Int) ≥ (sn : Int) := by omega
      have n6 : ¬ (k : Int) ≥ (sn : Int) := by omega
      have n7 : ¬ (sn : Int) ≤ (i : Int) := by omega
      have n8 : ¬ (sn : Int) ≤ (m : Int) := by omega
      have n9 : ¬ (sn : Int) ≤ (k : Int) := by omega
      go_upto_region 13 with fail
      have m1 : (0 : Int) ≤ (i : Int) := by omega
      have m2 : (0 : Int) ≤ (m : Int) := by omega
      have m3 : (0 : Int) ≤ (k : Int) := by omega
      have m4 : (i : Int) < (sn : Int) := by omega
      have m5 : (m : Int) < (sn : Int) := by omega
      have m6 : (k : Int) < (sn : Int) := by omega
      obtain ⟨A, eA, hS⟩ := s3_of HG.out.a HG.out.ha.s.row (show i < h.s.length by rw [← HL.out]; exact hi) (show m < h.s.length by rw [← HL.out]; exact hm) (show k < h.s.length by rw [← HL.out]; exact hk)
      obtain rfl : so = some A := eA
      have HQ3 : Hid (∃ s1 s2 s3, h.s.getD i s0 = s1 ∧ h.s.getD m s0 = s2 ∧ h.s.getD k s0 = s3) := ⟨_, _, _, rfl, rfl, rfl⟩
      obtain ⟨s1, s2, s3, e1, e2, e3⟩ := HQ3.out
      rw [e1, e2, e3] at hS
      have hks := hid (okH_iff.1 HOk.out).1
      have F1 : Hid (i < m → s1.co = s2.co → ahB s1 s2 = true) := by subst e1 e2; exact fun a b => core_ah hks.out m a (by rw [← HL.out]; exact hm) b
      have F2 : Hid (ahB s1 s2 = true → i < m ∧ ahB s2 s1 = false) := by
        subst e1 e2
        intro a
        have hl := ah_lt hks.out (show i < h.s.length by rw [← HL.out]; exact hi) a
        refine ⟨hl, ?_⟩
        cases q : ahB (S h.s m) (S h.s i) with
        | false => rfl
        | true => exact absurd (ah_lt hks.out (show m < h.s.length by rw [← HL.out]; exact hm) q) (by omega)
      have F3 : Hid (ahB s1 s2 = true → ahB s2 s3 = true → ahB s1 s3 = true) := by subst e1 e2 e3; exact fun a b => ah_trans hks.out (show m < h.s.length by rw [← HL.out]; exact hm) a b
      have A11 : Hid (ahB s1 s1 = false) := by subst e1; exact ah_irr hks.out (show i < h.s.length by rw [← HL.out]; exact hi)
      clear e1 e2 e3 HQ3 c0 hks
      go_cut [12, 13, 14] from 73 to 87 (fun s t u wx => ∃ (b1 b2 b3 : Nat), s = .pointer (some ⟨b1, 0, none⟩) ∧ t = .pointer (some ⟨b2, 0, none⟩) ∧ u = .pointer (some ⟨b3, 0, none⟩) ∧ Hid (B3 wr wx b1 b2 b3 s1 s2 s3))
      case first =>
        as_aux_lemma =>
          go_region_held3 (S3 w.heap.size ⟨⟨some A, sn, sc⟩, ⟨eo, en, ec⟩⟩ (A.add (i * 15)) (A.add (m * 15)) (A.add (k * 15)) s1 s2 s3) ((refine s3_keep hS ?_; repeat' (first | with_reducible exact (Below.refl _ wr).drew | with_reducible exact Below.refl _ _ | with_reducible refine Below.drew ?_ | with_reducible refine q_alloc ?_ _ | with_reducible refine q_set ?_ (by dsimp only; omega) _))) (fail)
          all_goals as_aux_lemma =>
            (try go_wp2_with fail)
            go_meet
            first
              | with_reducible exact ⟨_, _, _, rfl, rfl, rfl, hid (b3_new s1 s2 s3)⟩
              | with_reducible exact ⟨_, _, _, rfl, rfl, rfl, hid (b3_new s2 s1 s3).sw⟩
              | with_reducible exact ⟨_, _, _, rfl, rfl, rfl, hid (b3_new s3 s1 s2).rt⟩
              | with_reducible exact ⟨_, _, _, rfl, rfl, rfl, hid (b3_new s3 s2 s1).rt.sw⟩
              | with_reducible exact ⟨_, _, _, rfl, rfl, rfl, hid (b3_new s2 s3 s1).rt.rt⟩
              | with_reducible exact ⟨_, _, _, rfl, rfl, rfl, hid (b3_new s1 s3 s2).rt.rt.sw⟩
              | with_reducible exact ⟨_, _, _, rfl, rfl, rfl, hid (b3_new s1 s2 s3).drew⟩
              | with_reducible exact ⟨_, _, _, rfl, rfl, rfl, hid (b3_new s2 s1 s3).sw.drew⟩
              | with_reducible exact ⟨_, _, _, rfl, rfl, rfl, hid (b3_new s3 s1 s2).rt.drew⟩
              | with_reducible exact ⟨_, _, _, rfl, rfl, rfl, hid (b3_new s3 s2 s1).rt.sw.drew⟩
              | with_reducible exact ⟨_, _, _, rfl, rfl, rfl, hid (b3_new s2 s3 s1).rt.rt.drew⟩
              | with_reducible exact ⟨_, _, _, rfl, rfl, rfl, hid (b3_new s1 s3 s2).rt.rt.sw.drew⟩
              | fail
      case rest =>
       as_aux_lemma =>
        obtain ⟨b1, b2, b3, rfl, rfl, rfl, H3⟩ := hcut
        clear hS
        obtain ⟨k1, hk1⟩ : ∃ k1, k1 = s1.co := ⟨_, rfl⟩
        obtain ⟨k2, hk2⟩ : ∃ k2, k2 = s2.co := ⟨_, rfl⟩
        have F1' : Hid (i < m → k1 = k2 → ahB s1 s2 = true) := fun a b => F1.out a (by rw [← hk1, ← hk2]; exact b)
        have c1 := H3.out.1.first hk1
        have c2 := H3.out.2.1.first hk2
        have l1 := H3.out.1.ls
        have l2 := H3.out.2.1.ls
        have l3 := H3.out.2.2.1.ls
        clear hk1 hk2 F1
        cases h12 : ahB s1 s2 with
        | true =>
          obtain ⟨him, h21⟩ := F2.out h12
          have A12 := hid h12
          have A21 := hid h21
          have j1 : (i : Int) < (m : Int) := by omega
          have j2 : ¬ (i : Int) ≥ (m : Int) := by omega
          clear F1'
          cases h23 : ahB s2 s3 with
          | true =>
            have A13 := hid (F3.out h12 h23)
            have A23 := hid h23
            clear h12 h21 h23 F2 F3
            by_cases hco : k1 = k2
            · subst hco
              go_wp2_with (first | (go_at_call 19; refine (ahead_is _ _ _ (by first | exact A12 | exact A21 | exact A23 | exact A13 | exact A11) _).mono ?_; rintro e w9 ⟨rfl, b9⟩; have H3 := hid (H3.out.below b9); have l1 := H3.out.1.ls; have l2 := H3.out.2.1.ls; have l3 := H3.out.2.2.1.ls) | (go_at_call 9; refine (K _).mono ?_; rintro e w8 ⟨rfl, b8⟩))
              go_ret
              exact ⟨rfl, q_trans HG.out.low (q_trans H3.out.2.2.2 b8)⟩
            · go_wp2_with (first | (go_at_call 19; refine (ahead_is _ _ _ (by first | exact A12 | exact A21 | exact A23 | exact A13 | exact A11) _).mono ?_; rintro e w9 ⟨rfl, b9⟩; have H3 := hid (H3.out.below b9); have l1 := H3.out.1.ls; have l2 := H3.out.2.1.ls; have l3 := H3.out.2.2.1.ls) | (go_at_call 9; refine (K _).mono ?_; rintro e w8 ⟨rfl, b8⟩))
              go_ret
              exact ⟨rfl, q_trans HG.out.low (q_trans H3.out.2.2.2 b8)⟩
          | false =>
            have A23 := hid h23
            clear h12 h21 h23 F2 F3
            by_cases hco : k1 = k2
            · subst hco
              go_wp2_with (first | (go_at_call 19; refine (ahead_is _ _ _ (by first | exact A12 | exact A21 | exact A23 | exact A13 | exact A11) _).mono ?_; rintro e w9 ⟨rfl, b9⟩; have H3 := hid (H3.out.below b9); have l1 := H3.out.1.ls; have l2 := H3.out.2.1.ls; have l3 := H3.out.2.2.1.ls) | (go_at_call 9; refine (K _).mono ?_; rintro e w8 ⟨rfl, b8⟩))
              go_ret
              exact ⟨rfl, q_trans HG.out.low (q_trans H3.out.2.2.2 b8)⟩
            · go_wp2_with (first | (go_at_call 19; refine (ahead_is _ _ _ (by first | exact A12 | exact A21 | exact A23 | exact A13 | exact A11) _).mono ?_; rintro e w9 ⟨rfl, b9⟩; have H3 := hid (H3.out.below b9); have l1 := H3.out.1.ls; have l2 := H3.out.2.1.ls; have l3 := H3.out.2.2.1.ls) | (go_at_call 9; refine (K _).mono ?_; rintro e w8 ⟨rfl, b8⟩))
              go_ret
              exact ⟨rfl, q_trans HG.out.low (q_trans H3.out.2.2.2 b8)⟩
        | false =>
          have A12 := hid h12
          by_cases him : i < m
          · have j1 : (i : Int) < (m : Int) := by omega
            have hco : ¬ k1 = k2 := fun e => by have := F1'.out him e; rw [h12] at this; cases this
            clear h12 F1' F2 F3
            go_wp2_with (first | (go_at_call 19; refine (ahead_is _ _ _ (by first | exact A12 | exact A21 | exact A23 | exact A13 | exact A11) _).mono ?_; rintro e w9 ⟨rfl, b9⟩; have H3 := hid (H3.out.below b9); have l1 := H3.out.1.ls; have l2 := H3.out.2.1.ls; have l3 := H3.out.2.2.1.ls) | (go_at_call 9; refine (K _).mono ?_; rintro e w8 ⟨rfl, b8⟩))
            go_ret
            exact ⟨rfl, q_trans HG.out.low (q_trans H3.out.2.2.2 b8)⟩
          · have j1 : ¬ (i : Int) < (m : Int) := by omega
            clear h12 F1' F2 F3
            go_wp2_with (first | (go_at_call 19; refine (ahead_is _ _ _ (by first | exact A12 | exact A21 | exact A23 | exact A13 | exact A11) _).mono ?_; rintro e w9 ⟨rfl, b9⟩; have H3 := hid (H3.out.below b9); have l1 := H3.out.1.ls; have l2 := H3.out.2.1.ls; have l3 := H3.out.2.2.1.ls) | (go_at_call 9; refine (K _).mono ?_; rintro e w8 ⟨rfl, b8⟩))
            go_ret
            exact ⟨rfl, q_trans HG.out.low (q_trans H3.out.2.2.2 b8)⟩
end Go.Proofs.Ytmnkbkhfonngeaa.Hi
