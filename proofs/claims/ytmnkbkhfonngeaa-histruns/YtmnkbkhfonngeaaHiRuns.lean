/- What HistRuns does. -/
import Derived.Test.YtmnkbkhfonngeaaHiDoes
import Derived.Test.YtmnkbkhfonngeaaHiDoc
import Derived.Test.YtmnkbkhfonngeaaHiR1
import Derived.Test.YtmnkbkhfonngeaaHiLd
import Derived.Test.YtmnkbkhfonngeaaHiLv
import Derived.Test.YtmnkbkhfonngeaaHiLay
namespace Go.Proofs.Ytmnkbkhfonngeaa.Hi
open Go.RowKit

theorem lz_is (x : Value) : Instr.loadAt 36 x = LZ x := rfl
attribute [local go_sem ↓] lz_is
theorem do_sm {h : Hs} {a : Ac} {n : Nat} (g : h.s.length ≤ n ∧ h.e.length ≤ n ∧ ShortE h.e) (k : a.e.l.length ≤ 5000) : (doH h a).s.length ≤ n + 1 ∧ (doH h a).e.length ≤ n + 1 ∧ ShortE (doH h a).e := by
  have := do_len h a
  exact ⟨by omega, by omega, do_short g.2.2 k⟩
/-- Two histories, in boxes. -/
structure G2 (w wr : World) (x y : Hh) (h : Hs) : Prop where
  a : Hb wr w.heap.size x
  b : Hb wr (w.heap.size + 1) y
  ha : HasH wr x h
  hb : HasH wr y h
  low : Below w.heap.size w wr
theorem G2.below {w wr w' : World} {x y : Hh} {h : Hs} (g : G2 w wr x y h) (q : Below wr.heap.size wr w') : G2 w w' x y h := ⟨g.a.below q, g.b.below q, g.ha.below q, g.hb.below q, q_trans g.low q⟩
theorem g2_new (w : World) : G2 w ((w.alloc (.cells #[.slice none 0 0, .slice none 0 0] 25)).alloc (.cells #[.slice none 0 0, .slice none 0 0] 25)) nilX nilX h0 := by
  have h := two_hi w nilX nilX
  exact ⟨h.1, h.2.1, hasH_nil _, hasH_nil _, h.2.2⟩
theorem fin_a {W w9 : World} {v : Hh} {h : Hs} (hv : HasH w9 v h) (b : Below W.heap.size W w9) : Hb (w9.alloc (.cells #[.slice v.s.o v.s.n v.s.c, .slice v.e.o v.e.n v.e.c] 25)) w9.heap.size v ∧ HasH (w9.alloc (.cells #[.slice v.s.o v.s.n v.s.c, .slice v.e.o v.e.n v.e.c] 25)) v h ∧ Below W.heap.size W (w9.alloc (.cells #[.slice v.s.o v.s.n v.s.c, .slice v.e.o v.e.n v.e.c] 25)) ∧ W.heap.size ≤ w9.heap.size := ⟨hb_new _ _, hv.below (alloc_below _ _), q_alloc b _, b.size⟩
theorem fin_b {W w9 : World} {v : Hh} {h : Hs} (hv : HasH w9 v h) (b : Below W.heap.size W w9) (q : Hb w9 W.heap.size nilX) : Hb (put2 w9 W.heap.size v) W.heap.size v ∧ HasH (put2 w9 W.heap.size v) v h ∧ Below W.heap.size W (put2 w9 W.heap.size v) ∧ W.heap.size ≤ W.heap.size := ⟨q.put, hv.put q, put2_low b (Nat.le_refl _), Nat.le_refl _⟩
theorem fin_d {W V : World} {b : Nat} {v : Hh} {h : Hs} (g : Hb V b v ∧ HasH V v h ∧ Below W.heap.size W V ∧ W.heap.size ≤ b) : Hb V.drew b v ∧ HasH V.drew v h ∧ Below W.heap.size W V.drew ∧ W.heap.size ≤ b := ⟨g.1.below (Below.refl _ _).drew, g.2.1.below (Below.refl _ _).drew, g.2.2.1.drew, g.2.2.2⟩
theorem g2_both {w wr : World} {x y v v2 : Hh} {h H : Hs} (g : G2 w wr x y h) (h1 : HasH wr v H) (h2 : HasH wr v2 H) : G2 w (put2 (put2 wr w.heap.size v) (w.heap.size + 1) v2) v v2 H := by
  have hb2 : Hb (put2 wr w.heap.size v) (w.heap.size + 1) y := g.b.kept (kept_put2 wr w.heap.size v) (by omega)
  have ha2 : Hb (put2 wr w.heap.size v) w.heap.size v := g.a.put
  exact ⟨ha2.kept (kept_put2 _ _ _) (by omega), hb2.put, (h1.put g.a).put hb2, (h2.put g.a).put hb2, put2_low (put2_low g.low (Nat.le_refl _)) (Nat.le_succ _)⟩
theorem sa2_drew {b c : Nat} {x y : Hh} {w : World} (h : SA b x w ∧ SA c y w) : SA b x w.drew ∧ SA c y w.drew := h
theorem sa2_set {b c g j : Nat} {x y : Hh} {w : World} (h : SA b x w ∧ SA c y w) (h1 : g ≠ b) (h2 : g ≠ c) (v : Value) : SA b x (w.setCell ⟨g, j, none⟩ v) ∧ SA c y (w.setCell ⟨g, j, none⟩ v) := ⟨sa_set h.1 h1 v, sa_set h.2 h2 v⟩
set_option maxRecDepth 100000 in
set_option maxHeartbeats 2000000 in
theorem runs_in (K : LiveC) (ao : Option Addr) (N cap : Nat) (l : List (Ac × Hd)) (w : World) (hN : N ≤ 60) (HH : HasZ w ⟨ao, N, cap⟩ l) :
    Calls Try.prog 4 #[.slice ao N cap] w fun e w' => e = .returned (.bool true) ∧ Below w.heap.size w w' := by
  have HZ := hid HH
  have HNl : Hid (N = l.length) := HH.has.len
  clear HH
  have i0 : ¬ ((N : Int) > 60) := by omega
  go_enter Try.func4, Try.ntmps4
  go_wp2_with fail
  have HG := hid (g2_new w)
  generalize (w.alloc (.cells #[.slice none 0 0, .slice none 0 0] 25)).alloc (.cells #[.slice none 0 0, .slice none 0 0] 25) = W0 at HG ⊢
  go_loopw [5] (fun i wr => ∃ (j : Nat) (h : Hs) (x y : Hh), j ≤ N ∧ i = .int .i64 j ∧ Hid (G2 w wr x y h) ∧ Hid (okH h = true) ∧ Hid (h.s.length ≤ j ∧ h.e.length ≤ j ∧ ShortE h.e)) (fun i _ => N - (intOf i).toNat)
  case atStart => exact ⟨0, h0, nilX, nilX, Nat.zero_le _, rfl, HG, h0_ok, Nat.le_refl _, Nat.le_refl _, fun e he => by cases he⟩
  case round =>
    obtain ⟨j, h, x, y, hj, rfl, HG, HOk, HLn⟩ := hrel
    by_cases hlt : j < N
    · have i1 : (0 : Int) ≤ (j : Int) := by omega
      have i2 : (j : Int) < (N : Int) := by omega
      have hjl : j < l.length := by have := HNl.out; omega
      obtain ⟨a, ea, hS⟩ := sz_of HG.out.a (HZ.out.below HG.out.low).has.row j hjl
      obtain rfl : ao = some a := ea
      obtain ⟨a', ea', ca⟩ := atZ_of (HZ.out.below HG.out.low).has.row j hjl
      cases ea'
      have c26 := ca.c26
      have HU := hid ((HZ.out.below HG.out.low).each _ (show l.getD j (a0, nilH) ∈ l from getD_mem hjl))
      obtain ⟨p, hp⟩ : ∃ p, l.getD j (a0, nilH) = p := ⟨_, rfl⟩
      have HPq := hid hp
      rw [hp] at hS ca c26 HU
      clear hp
      obtain ⟨z, u⟩ := p
      clear ca
      dsimp only at c26
      by_cases hu : (u.n : Int) > 10
      · have hun : 10 < u.n := by omega
        clear hS
        go_wp2_with (go_at_call 9; refine (K _).mono ?_; rintro e w9 ⟨rfl, b9⟩)
        go_ret
        exact ⟨rfl, q_trans HG.out.low b9⟩
      · have hun : ¬ (10 < u.n) := by omega
        have hu5 : u.n ≤ 5000 := by omega
        go_upto_region 9 with fail
        clear c26
        have hxn : x.s.n ≤ 5000 ∧ x.e.n ≤ 5000 := by have := HLn.out; exact ⟨by rw [HG.out.ha.s.len]; omega, by rw [HG.out.ha.e.len]; omega⟩
        have CD : Hid (∀ X, Below wr.heap.size wr X → Calls Try.prog 10 #[(.agg #[.slice x.s.o x.s.n x.s.c, .slice x.e.o x.e.n x.e.c]), (.agg #[.int .i64 z.k, .int .i64 z.co, .int .i64 z.now, .int .i64 z.c.k, .int .u64 z.c.a, .int .u64 z.c.b, .int .i64 z.c.r, .int .i64 z.c.g, .int .i64 z.c.t, .int .i64 z.c.s, .int .i64 z.c.v, .int .i64 z.r.e, .int .i64 z.r.v, .int .i64 z.r.b, .bool z.r.t, .int .i64 z.e.k, .int .i64 z.e.co, .int .i64 z.e.c.k, .int .u64 z.e.c.a, .int .u64 z.e.c.b, .int .i64 z.e.c.r, .int .i64 z.e.c.g, .int .i64 z.e.c.t, .int .i64 z.e.c.s, .int .i64 z.e.c.v, .int .i64 z.e.sp, .slice u.o u.n u.c])] X fun e w' => ∃ v : Hh, e = .returned (.tuple #[(.agg #[.slice v.s.o v.s.n v.s.c, .slice v.e.o v.e.n v.e.c]), .int .i64 (doE h z)]) ∧ HasH w' v (doH h z) ∧ Below X.heap.size X w') := fun X b => does_any x h z u X hxn.1 hxn.2 hu5 HLn.out.2.2 (HG.out.ha.below b) (HU.out.below b)
        go_cut [6, 7] from 16 to 65 (fun s t wx => ∃ (b6 : Nat) (v : Hh), s = .pointer (some ⟨b6, 0, none⟩) ∧ t = .int .i64 (doE h z) ∧ Hid (Hb wx b6 v ∧ HasH wx v (doH h z) ∧ Below wr.heap.size wr wx ∧ wr.heap.size ≤ b6))
        case first =>
          go_region_held3 (SZ w.heap.size x (a.add (j * 27)) (z, u)) ((refine sz_keep hS ?_; repeat' (first | with_reducible exact HB9.out | with_reducible exact (Below.refl _ wr).drew | with_reducible exact Below.refl _ _ | with_reducible refine Below.drew ?_ | with_reducible refine q_alloc ?_ _ | with_reducible refine q_set ?_ (by dsimp only; omega) _)))
            (first
              | (go_at_call 10; refine (CD.out _ (by first | exact (Below.refl _ wr).drew | exact q_alloc (Below.refl _ wr).drew _)).mono ?_; rintro e w9 ⟨v, rfl, hv, hb⟩; have HV := hid hv; have HB9 : Hid (Below wr.heap.size wr w9) := (q_trans (by first | exact (Below.refl _ wr).drew | exact q_alloc (Below.refl _ wr).drew _) hb); have hl9 : wr.heap.size ≤ w9.heap.size := HB9.out.size; (try (have HQ : Hid (Hb w9 wr.heap.size nilX) := Hb.mk (lay1 wr _ hb); have k0 : w9.cell? ⟨_, 0, none⟩ = some (.slice none 0 0) := HQ.out.c0; have k1 : w9.cell? ⟨_, 1, none⟩ = some (.slice none 0 0) := HQ.out.c1; have f0 := HQ.out.fz 0; have f1 := HQ.out.fz 1; have hq9 := HQ.out.lt)); clear hv hb)
              | fail)
          all_goals (try go_wp2_with fail)
          all_goals go_meet
          all_goals
            first
              | with_reducible exact ⟨_, v, rfl, rfl, hid (fin_a HV.out HB9.out)⟩
              | with_reducible exact ⟨_, v, rfl, rfl, hid (fin_d (fin_a HV.out HB9.out))⟩
              | with_reducible exact ⟨_, v, rfl, rfl, hid (fin_b HV.out HB9.out HQ.out)⟩
              | with_reducible exact ⟨_, v, rfl, rfl, hid (fin_d (fin_b HV.out HB9.out HQ.out))⟩
              | fail
        case rest =>
          obtain ⟨b6, v, rfl, rfl, H6⟩ := hcut
          obtain ⟨W1, hW1⟩ : ∃ W1, W1 = wc := ⟨_, rfl⟩
          subst hW1
          clear CD hS
          have hl0 : w.heap.size + 1 < wr.heap.size := HG.out.b.lt
          replace HG := hid (HG.out.below H6.out.2.2.1)
          replace HU := hid (HU.out.below H6.out.2.2.1)
          obtain ⟨a', ea', hS2⟩ := sz_of HG.out.b (HZ.out.below HG.out.low).has.row j hjl
          cases ea'
          rw [HPq.out] at hS2
          have hyn : y.s.n ≤ 5000 ∧ y.e.n ≤ 5000 := by have := HLn.out; exact ⟨by rw [HG.out.hb.s.len]; omega, by rw [HG.out.hb.e.len]; omega⟩
          have CE : Hid (∀ X, Below W1.heap.size W1 X → Calls Try.prog 11 #[(.agg #[.slice y.s.o y.s.n y.s.c, .slice y.e.o y.e.n y.e.c]), (.agg #[.int .i64 z.k, .int .i64 z.co, .int .i64 z.now, .int .i64 z.c.k, .int .u64 z.c.a, .int .u64 z.c.b, .int .i64 z.c.r, .int .i64 z.c.g, .int .i64 z.c.t, .int .i64 z.c.s, .int .i64 z.c.v, .int .i64 z.r.e, .int .i64 z.r.v, .int .i64 z.r.b, .bool z.r.t, .int .i64 z.e.k, .int .i64 z.e.co, .int .i64 z.e.c.k, .int .u64 z.e.c.a, .int .u64 z.e.c.b, .int .i64 z.e.c.r, .int .i64 z.e.c.g, .int .i64 z.e.c.t, .int .i64 z.e.c.s, .int .i64 z.e.c.v, .int .i64 z.e.sp, .slice u.o u.n u.c])] X fun e w' => ∃ v : Hh, e = .returned (.tuple #[(.agg #[.slice v.s.o v.s.n v.s.c, .slice v.e.o v.e.n v.e.c]), .int .i64 (doE h z)]) ∧ HasH w' v (doH h z) ∧ Below X.heap.size X w') := fun X b => document_any y h z u X hyn.1 hyn.2 hu5 (HG.out.hb.below b) (HU.out.below b)
          go_upto_region 10 with fail
          go_cut [8, 9] from 16 to 65 (fun s t wx => ∃ (b6 : Nat) (v : Hh), s = .pointer (some ⟨b6, 0, none⟩) ∧ t = .int .i64 (doE h z) ∧ Hid (Hb wx b6 v ∧ HasH wx v (doH h z) ∧ Below W1.heap.size W1 wx ∧ W1.heap.size ≤ b6))
          case first =>
            go_region_held3 (SZ (w.heap.size + 1) y (a.add (j * 27)) (z, u)) ((refine sz_keep hS2 ?_; repeat' (first | with_reducible exact HB9.out | with_reducible exact (Below.refl _ W1).drew | with_reducible exact Below.refl _ _ | with_reducible refine Below.drew ?_ | with_reducible refine q_alloc ?_ _ | with_reducible refine q_set ?_ (by dsimp only; omega) _)))
              (first
                | (go_at_call 11; refine (CE.out _ (by first | exact (Below.refl _ W1).drew | exact q_alloc (Below.refl _ W1).drew _)).mono ?_; rintro e w9 ⟨v, rfl, hv, hb⟩; have HV := hid hv; have HB9 : Hid (Below W1.heap.size W1 w9) := (q_trans (by first | exact (Below.refl _ W1).drew | exact q_alloc (Below.refl _ W1).drew _) hb); have hl9 : W1.heap.size ≤ w9.heap.size := HB9.out.size; (try (have HQ : Hid (Hb w9 W1.heap.size nilX) := Hb.mk (lay1 W1 _ hb); have k0 : w9.cell? ⟨_, 0, none⟩ = some (.slice none 0 0) := HQ.out.c0; have k1 : w9.cell? ⟨_, 1, none⟩ = some (.slice none 0 0) := HQ.out.c1; have f0 := HQ.out.fz 0; have f1 := HQ.out.fz 1; have hq9 := HQ.out.lt)); clear hv hb)
                | fail)
            all_goals (try go_wp2_with fail)
            all_goals go_meet
            all_goals
              first
                | with_reducible exact ⟨_, v, rfl, rfl, hid (fin_a HV.out HB9.out)⟩
                | with_reducible exact ⟨_, v, rfl, rfl, hid (fin_d (fin_a HV.out HB9.out))⟩
                | with_reducible exact ⟨_, v, rfl, rfl, hid (fin_b HV.out HB9.out HQ.out)⟩
                | with_reducible exact ⟨_, v, rfl, rfl, hid (fin_d (fin_b HV.out HB9.out HQ.out))⟩
                | fail
          case rest =>
            obtain ⟨b8, v2, rfl, rfl, H8⟩ := hcut
            clear CE hS2
            have hl6 : w.heap.size + 1 < b6 := by have := H6.out.2.2.2; omega
            have hl8 : w.heap.size + 1 < b8 := by have := H8.out.2.2.2; have := HG.out.b.lt; omega
            replace HG := hid (HG.out.below H8.out.2.2.1)
            have X6 := hid (H6.out.1.below H8.out.2.2.1)
            have V6 := hid (H6.out.2.1.below H8.out.2.2.1)
            have X8 := hid H8.out.1
            have V8 := hid H8.out.2.1
            clear H6 H8
            have HLn2 : Hid ((doH h z).s.length ≤ j + 1 ∧ (doH h z).e.length ≤ j + 1 ∧ ShortE (doH h z).e) := do_sm HLn.out (by rw [← HU.out.len]; exact hu5)
            have HOk2 : Hid (okH (doH h z) = true) := do_ok z HOk.out
            generalize doH h z = H at V6 V8 HLn2 HOk2
            have hvn : v.s.n ≤ 5000 ∧ v.e.n ≤ 5000 := by have := HLn2.out; exact ⟨by rw [V6.out.s.len]; omega, by rw [V6.out.e.len]; omega⟩
            have CS : Hid (Calls Try.prog 14 #[(.agg #[.slice v.s.o v.s.n v.s.c, .slice v.e.o v.e.n v.e.c]), (.agg #[.slice v2.s.o v2.s.n v2.s.c, .slice v2.e.o v2.e.n v2.e.c])] wc fun e w' => e = .returned (.bool true) ∧ Below wc.heap.size wc w') := by
              have q := rsame_any v v2 H H wc hvn.1 hvn.2 HLn2.out.2.2 V6.out V8.out
              rwa [eqH_self] at q
            have CC : Hid (∀ X, Below wc.heap.size wc X → Calls Try.prog 16 #[(.agg #[.slice v.s.o v.s.n v.s.c, .slice v.e.o v.e.n v.e.c])] X fun e w' => e = .returned (.int .i64 0) ∧ Below X.heap.size X w') := fun X b => by
              have q := check_any v H X hvn.1 hvn.2 (V6.out.below b)
              rwa [ck_0 HOk2.out] at q
            have hee : (doE h z != doE h z) = false := by simp
            have c0 := X6.out.c0
            have c1 := X6.out.c1
            have g0 := X8.out.c0
            have g1 := X8.out.c1
            go_upto_region 13 with (first | (go_at_call 15; refine (num_any _ _).mono ?_; rintro e w8 ⟨rfl, hw⟩; rw [hw]; clear hw w8) | (go_at_call 14; refine CS.out.mono ?_; rintro e wA ⟨rfl, bA⟩; have q0 := (X6.out.below bA).c0; have q1 := (X6.out.below bA).c1) | (go_at_call 16; refine (CC.out _ bA).mono ?_; rintro e wB ⟨rfl, bB⟩; have HBB := hid (q_trans bA bB)))
            clear c0 c1 g0 g1 q0 q1 bA bB CS CC
            replace HG := hid (HG.out.below HBB.out)
            replace X6 := hid (X6.out.below HBB.out)
            replace X8 := hid (X8.out.below HBB.out)
            replace V6 := hid (V6.out.below HBB.out)
            replace V8 := hid (V8.out.below HBB.out)
            have p0 := HG.out.a.c0
            have p1 := HG.out.a.c1
            have p2 := HG.out.b.c0
            have p3 := HG.out.b.c1
            have f0 := HG.out.a.fz 0
            have f1 := HG.out.a.fz 1
            have f2 := HG.out.b.fz 0
            have f3 := HG.out.b.fz 1
            have hS : SA b6 v wB ∧ SA b8 v2 wB := ⟨⟨X6.out.c0, X6.out.c1⟩, ⟨X8.out.c0, X8.out.c1⟩⟩
            have n1 : w.heap.size ≠ b6 := by omega
            have n2 : w.heap.size ≠ b8 := by omega
            have n3 : w.heap.size + 1 ≠ b6 := by omega
            have n4 : w.heap.size + 1 ≠ b8 := by omega
            have HN := hid (g2_both HG.out V6.out V8.out)
            go_region_held3 (fun w' => SA b6 v w' ∧ SA b8 v2 w') (repeat' (first | with_reducible exact hS | with_reducible refine sa2_drew ?_ | with_reducible refine sa2_set ?_ n1 n2 _ | with_reducible refine sa2_set ?_ n3 n4 _)) (fail)
            all_goals
              go_wp2_with fail
              go_roundw
              case rel => exact ⟨j + 1, H, v, v2, by omega, by go_num, (by first | with_reducible exact HN | with_reducible exact hid (HN.out.below (Below.refl _ _).drew)), HOk2, HLn2⟩
              case measure => simp [intOf]; omega
    · have i2 : ¬ (j : Int) < (N : Int) := by omega
      go_wp2_with (go_at_call 9; refine (K _).mono ?_; rintro e w9 ⟨rfl, b9⟩)
      go_ret
      exact ⟨rfl, q_trans HG.out.low b9⟩
set_option maxHeartbeats 400000 in
theorem runs_long (K : LiveC) (y : Hd) (w : World) (hN : 60 < y.n) :
    Calls Try.prog 4 #[.slice y.o y.n y.c] w fun e w' => e = .returned (.bool true) ∧ Below w.heap.size w w' := by
  have i0 : (y.n : Int) > 60 := by omega
  go_enter Try.func4, Try.ntmps4
  go_wp2_with (go_at_call 9; refine (K _).mono ?_; rintro e w9 ⟨rfl, b9⟩)
  go_ret
  exact ⟨rfl, b9⟩
theorem runs_any (K : LiveC) (y : Hd) (l : List (Ac × Hd)) (w : World) (HH : HasZ w y l) :
    Calls Try.prog 4 #[.slice y.o y.n y.c] w fun e w' => e = .returned (.bool true) ∧ Below w.heap.size w w' := by
  by_cases h : 60 < y.n
  · exact runs_long K y w h
  · exact runs_in K y.o y.n y.c l w (by omega) HH
end Go.Proofs.Ytmnkbkhfonngeaa.Hi
