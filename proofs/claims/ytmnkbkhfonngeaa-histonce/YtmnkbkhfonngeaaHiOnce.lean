/- What HistOnce does. -/
import Derived.Test.YtmnkbkhfonngeaaHiG1
import Derived.Test.YtmnkbkhfonngeaaHiOn0
namespace Go.Proofs.Ytmnkbkhfonngeaa.Hi
open Go.RowKit

attribute [local go_sem ↓] lz_is
/-- What is read of a history's box, and an act's core. -/
abbrev SQ (b : Nat) (x : Hh) (ad : Addr) (c : Int) (w : World) : Prop := w.cell? ⟨b, 0, none⟩ = some (.slice x.s.o x.s.n x.s.c) ∧ w.cell? ⟨b, 1, none⟩ = some (.slice x.e.o x.e.n x.e.c) ∧ w.cell? ⟨ad.block, ad.off + 1, none⟩ = some (.int .i64 c)
theorem sq_keep {b : Nat} {x : Hh} {ad : Addr} {c : Int} {W w : World} (h : SQ b x ad c W) (k : Below W.heap.size W w) : SQ b x ad c w := ⟨(k.cell (World.block_lt_of_cell? W _ h.1)).trans h.1, (k.cell (World.block_lt_of_cell? W _ h.2.1)).trans h.2.1, (k.cell (World.block_lt_of_cell? W _ h.2.2)).trans h.2.2⟩
theorem fin_a {W w9 : World} {v : Hh} {h : Hs} (hv : HasH w9 v h) (b : Below W.heap.size W w9) : Hb (w9.alloc (.cells #[.slice v.s.o v.s.n v.s.c, .slice v.e.o v.e.n v.e.c] 25)) w9.heap.size v ∧ HasH (w9.alloc (.cells #[.slice v.s.o v.s.n v.s.c, .slice v.e.o v.e.n v.e.c] 25)) v h ∧ Below W.heap.size W (w9.alloc (.cells #[.slice v.s.o v.s.n v.s.c, .slice v.e.o v.e.n v.e.c] 25)) ∧ W.heap.size ≤ w9.heap.size := ⟨hb_new _ _, hv.below (alloc_below _ _), q_alloc b _, b.size⟩
theorem fin_b {W w9 : World} {v : Hh} {h : Hs} (hv : HasH w9 v h) (b : Below W.heap.size W w9) (q : Hb w9 W.heap.size nilX) : Hb (put2 w9 W.heap.size v) W.heap.size v ∧ HasH (put2 w9 W.heap.size v) v h ∧ Below W.heap.size W (put2 w9 W.heap.size v) ∧ W.heap.size ≤ W.heap.size := ⟨q.put, hv.put q, put2_low b (Nat.le_refl _), Nat.le_refl _⟩
theorem fin_d {W V : World} {b : Nat} {v : Hh} {h : Hs} (g : Hb V b v ∧ HasH V v h ∧ Below W.heap.size W V ∧ W.heap.size ≤ b) : Hb V.drew b v ∧ HasH V.drew v h ∧ Below W.heap.size W V.drew ∧ W.heap.size ≤ b := ⟨g.1.below (Below.refl _ _).drew, g.2.1.below (Below.refl _ _).drew, g.2.2.1.drew, g.2.2.2⟩
set_option maxRecDepth 100000 in
set_option maxHeartbeats 8000000 in
theorem once_in (K : LiveC) (ao : Option Addr) (N cap : Nat) (l : List (Ac × Hd)) (p : Int) (w : World) (hN : N ≤ 60) (HH : HasZ w ⟨ao, N, cap⟩ l) :
    Calls Try.prog 6 #[.slice ao N cap, .int .i64 p] w fun e w' => e = .returned (.bool true) ∧ Below w.heap.size w w' := by
  have HZ := hid HH
  have HNl : Hid (N = l.length) := HH.has.len
  clear HH
  have i0 : ¬ ((N : Int) > 60) := by omega
  go_enter Try.func6, Try.ntmps6
  go_wp2_with fail
  have HG := hid (g1_new w)
  generalize w.alloc (.cells #[.slice none 0 0, .slice none 0 0] 25) = W0 at HG ⊢
  go_loopw [6] (fun i wr => ∃ (j : Nat) (h : Hs) (x : Hh), j ≤ N ∧ i = .int .i64 j ∧ Hid (G1 w wr x h) ∧ Hid (okH h = true) ∧ Hid (h.s.length ≤ j ∧ h.e.length ≤ j ∧ ShortE h.e)) (fun i _ => N - (intOf i).toNat)
  case atStart => exact ⟨0, h0, nilX, Nat.zero_le _, rfl, HG, h0_ok, Nat.le_refl _, Nat.le_refl _, fun e he => by cases he⟩
  case round =>
    obtain ⟨j, h, x, hj, rfl, HG, HOk, HLn⟩ := hrel
    by_cases hlt : j < N
    · have i1 : (0 : Int) ≤ (j : Int) := by omega
      have i2 : (j : Int) < (N : Int) := by omega
      have hjl : j < l.length := by have := HNl.out; omega
      obtain ⟨a, ea, ca⟩ := atZ_of (HZ.out.below HG.out.low).has.row j hjl
      obtain rfl : ao = some a := ea
      have c26 := ca.c26
      have c1z := ca.c1
      have HU := hid ((HZ.out.below HG.out.low).each _ (show l.getD j (a0, nilH) ∈ l from getD_mem hjl))
      obtain ⟨p9, hp⟩ : ∃ p9, l.getD j (a0, nilH) = p9 := ⟨_, rfl⟩
      have HPq := hid hp
      rw [hp] at ca c26 c1z HU
      clear hp
      obtain ⟨z, u⟩ := p9
      clear ca
      dsimp only at c26 c1z
      by_cases hu : (u.n : Int) > 10
      · have hun : 10 < u.n := by omega
        clear c1z
        go_wp2_with (go_at_call 9; refine (K _).mono ?_; rintro e w9 ⟨rfl, b9⟩)
        go_ret
        exact ⟨rfl, q_trans HG.out.low b9⟩
      · have hun : ¬ (10 < u.n) := by omega
        have hu5 : u.n ≤ 5000 := by omega
        go_upto_region 9 with fail
        clear c26
        have hxn : x.s.n ≤ 5000 ∧ x.e.n ≤ 5000 := by have := HLn.out; exact ⟨by rw [HG.out.ha.s.len]; omega, by rw [HG.out.ha.e.len]; omega⟩
        have CP : Hid (∀ X, Below wr.heap.size wr X → Calls Try.prog 12 #[(.agg #[.slice x.s.o x.s.n x.s.c, .slice x.e.o x.e.n x.e.c]), .int .i64 z.co] X fun e w' => e = .returned (.tuple #[.int .i64 (pnI h.s z.co), .bool (pnB h.s z.co)]) ∧ Below X.heap.size X w') := fun X b => pending_any x h z.co X hxn.1 (hid (HG.out.ha.below b).s)
        have hq : SQ w.heap.size x (a.add (j * 27)) z.co wr := ⟨HG.out.a.c0, HG.out.a.c1, c1z⟩
        clear c1z
        go_cut [7, 8] from 22 to 46 (fun s t wx => ∃ v : Bool, s = .int .i64 (pnI h.s z.co) ∧ t = .bool v ∧ Hid (v = pnB h.s z.co) ∧ Hid (Below wr.heap.size wr wx))
        case first =>
          go_region_held3 (SQ w.heap.size x (a.add (j * 27)) z.co) ((refine sq_keep hq ?_; repeat' (first | with_reducible exact HB9.out | with_reducible exact (Below.refl _ wr).drew | with_reducible exact Below.refl _ _ | with_reducible refine Below.drew ?_)))
            (first
              | (go_at_call 12; refine (CP.out _ (Below.refl _ wr).drew).mono ?_; rintro e w9 ⟨rfl, hb⟩; have HB9 : Hid (Below wr.heap.size wr w9) := q_trans (Below.refl _ wr).drew hb; clear hb)
              | fail)
          all_goals (try go_wp2_with fail)
          all_goals go_meet
          all_goals
            first
              | with_reducible exact ⟨_, rfl, rfl, hid rfl, HB9⟩
              | with_reducible exact ⟨_, rfl, rfl, hid rfl, hid HB9.out.drew⟩
              | fail
        case rest =>
          obtain ⟨was, rfl, rfl, HWas, H6⟩ := hcut
          obtain ⟨W1, hW1⟩ : ∃ W1, W1 = wc := ⟨_, rfl⟩
          subst hW1
          clear CP hq
          replace HG := hid (HG.out.below H6.out)
          replace HU := hid (HU.out.below H6.out)
          obtain ⟨a', ea', hS⟩ := sz_of HG.out.a (HZ.out.below HG.out.low).has.row j hjl
          cases ea'
          rw [HPq.out] at hS
          have CD : Hid (∀ X, Below W1.heap.size W1 X → Calls Try.prog 10 #[(.agg #[.slice x.s.o x.s.n x.s.c, .slice x.e.o x.e.n x.e.c]), (.agg #[.int .i64 z.k, .int .i64 z.co, .int .i64 z.now, .int .i64 z.c.k, .int .u64 z.c.a, .int .u64 z.c.b, .int .i64 z.c.r, .int .i64 z.c.g, .int .i64 z.c.t, .int .i64 z.c.s, .int .i64 z.c.v, .int .i64 z.r.e, .int .i64 z.r.v, .int .i64 z.r.b, .bool z.r.t, .int .i64 z.e.k, .int .i64 z.e.co, .int .i64 z.e.c.k, .int .u64 z.e.c.a, .int .u64 z.e.c.b, .int .i64 z.e.c.r, .int .i64 z.e.c.g, .int .i64 z.e.c.t, .int .i64 z.e.c.s, .int .i64 z.e.c.v, .int .i64 z.e.sp, .slice u.o u.n u.c])] X fun e w' => ∃ v : Hh, e = .returned (.tuple #[(.agg #[.slice v.s.o v.s.n v.s.c, .slice v.e.o v.e.n v.e.c]), .int .i64 (doE h z)]) ∧ HasH w' v (doH h z) ∧ Below X.heap.size X w') := fun X b => does_any x h z u X hxn.1 hxn.2 hu5 HLn.out.2.2 (HG.out.ha.below b) (HU.out.below b)
          have hlw : w.heap.size < W1.heap.size := HG.out.a.lt
          go_upto_region 10 with fail
          go_cut [9, 10] from 22 to 65 (fun s t wx => ∃ (b6 : Nat) (v : Hh) (E : Int), s = .pointer (some ⟨b6, 0, none⟩) ∧ t = .int .i64 E ∧ Hid (E = doE h z) ∧ Hid (Hb wx b6 v ∧ HasH wx v (doH h z) ∧ Below W1.heap.size W1 wx ∧ W1.heap.size ≤ b6))
          case first =>
            go_region_held3 (SZ w.heap.size x (a.add (j * 27)) (z, u)) ((refine sz_keep hS ?_; repeat' (first | with_reducible exact HB9.out | with_reducible exact (Below.refl _ W1).drew | with_reducible exact Below.refl _ _ | with_reducible refine Below.drew ?_ | with_reducible refine q_alloc ?_ _ | with_reducible refine q_set ?_ (by dsimp only; omega) _)))
              (first
                | (go_at_call 10; refine (CD.out _ (by first | exact (Below.refl _ W1).drew | exact q_alloc (Below.refl _ W1).drew _)).mono ?_; rintro e w9 ⟨v, rfl, hv, hb⟩; have HV := hid hv; have HB9 : Hid (Below W1.heap.size W1 w9) := (q_trans (by first | exact (Below.refl _ W1).drew | exact q_alloc (Below.refl _ W1).drew _) hb); have hl9 : W1.heap.size ≤ w9.heap.size := HB9.out.size; (try (have HQ : Hid (Hb w9 W1.heap.size nilX) := Hb.mk (lay1 W1 _ hb); have k0 : w9.cell? ⟨_, 0, none⟩ = some (.slice none 0 0) := HQ.out.c0; have k1 : w9.cell? ⟨_, 1, none⟩ = some (.slice none 0 0) := HQ.out.c1; have f0 := HQ.out.fz 0; have f1 := HQ.out.fz 1; have hq9 := HQ.out.lt)); clear hv hb)
                | fail)
            all_goals (try go_wp2_with fail)
            all_goals go_meet
            all_goals
              first
                | with_reducible exact ⟨_, v, _, rfl, rfl, hid rfl, hid (fin_a HV.out HB9.out)⟩
                | with_reducible exact ⟨_, v, _, rfl, rfl, hid rfl, hid (fin_d (fin_a HV.out HB9.out))⟩
                | with_reducible exact ⟨_, v, _, rfl, rfl, hid rfl, hid (fin_b HV.out HB9.out HQ.out)⟩
                | with_reducible exact ⟨_, v, _, rfl, rfl, hid rfl, hid (fin_d (fin_b HV.out HB9.out HQ.out))⟩
                | fail
          case rest =>
            obtain ⟨b6, v, E, rfl, rfl, HE, H6⟩ := hcut
            obtain ⟨W2, hW2⟩ : ∃ W2, W2 = wc := ⟨_, rfl⟩
            subst hW2
            clear CD hS
            have hl6 : w.heap.size < b6 := by have := H6.out.2.2.2; omega
            have X6 := hid H6.out.1
            have V6 := hid H6.out.2.1
            replace HG := hid (HG.out.below H6.out.2.2.1)
            replace HU := hid (HU.out.below H6.out.2.2.1)
            clear H6
            have HLn2 : Hid ((doH h z).s.length ≤ j + 1 ∧ (doH h z).e.length ≤ j + 1 ∧ ShortE (doH h z).e) := do_sm HLn.out (by rw [← HU.out.len]; exact hu5)
            have HOk2 : Hid (okH (doH h z) = true) := do_ok z HOk.out
            have O1 : Hid (z.k = 0 → doE h z = 0 → pnB h.s z.co = false ∧ pnB (doH h z).s z.co = true) := fun a b => once_inv a b
            have O2 : Hid (z.k = 1 → doE h z = 0 → pnB h.s z.co = true ∧ pnB (doH h z).s z.co = false) := fun a b => once_ans a b
            have O3 : Hid (doE h z ≠ 0 → pnB (doH h z).s z.co = pnB h.s z.co) := fun a => once_no a
            obtain ⟨a', ea', ca⟩ := atZ_of (HZ.out.below HG.out.low).has.row j hjl
            cases ea'
            rw [HPq.out] at ca
            have c1z := ca.c1
            dsimp only at c1z
            clear ca
            have hvn : v.s.n ≤ 5000 ∧ v.e.n ≤ 5000 := by have := HLn2.out; exact ⟨by rw [V6.out.s.len]; omega, by rw [V6.out.e.len]; omega⟩
            have CP : Hid (∀ X, Below W2.heap.size W2 X → Calls Try.prog 12 #[(.agg #[.slice v.s.o v.s.n v.s.c, .slice v.e.o v.e.n v.e.c]), .int .i64 z.co] X fun e w' => e = .returned (.tuple #[.int .i64 (pnI (doH h z).s z.co), .bool (pnB (doH h z).s z.co)]) ∧ Below X.heap.size X w') := fun X b => pending_any v (doH h z) z.co X hvn.1 (hid (V6.out.below b).s)
            have hq : SQ b6 v (a.add (j * 27)) z.co W2 := ⟨X6.out.c0, X6.out.c1, c1z⟩
            clear c1z
            go_upto_region 11 with fail
            go_cut [11, 12] from 22 to 65 (fun s t wx => ∃ (q : Int) (v2 : Bool), s = .int .i64 q ∧ t = .bool v2 ∧ Hid (v2 = pnB (doH h z).s z.co) ∧ Hid (Below W2.heap.size W2 wx))
            case first =>
              go_region_held3 (SQ b6 v (a.add (j * 27)) z.co) ((refine sq_keep hq ?_; repeat' (first | with_reducible exact HB9.out | with_reducible exact (Below.refl _ W2).drew | with_reducible exact Below.refl _ _ | with_reducible refine Below.drew ?_)))
                (first
                  | (go_at_call 12; refine (CP.out _ (Below.refl _ W2).drew).mono ?_; rintro e w9 ⟨rfl, hb⟩; have HB9 : Hid (Below W2.heap.size W2 w9) := q_trans (Below.refl _ W2).drew hb; clear hb)
                  | fail)
              all_goals (try go_wp2_with fail)
              all_goals go_meet
              all_goals
                first
                  | with_reducible exact ⟨_, _, rfl, rfl, hid rfl, HB9⟩
                  | with_reducible exact ⟨_, _, rfl, rfl, hid rfl, hid HB9.out.drew⟩
                  | fail
            case rest =>
              obtain ⟨q0, v2, rfl, rfl, HV2, H7⟩ := hcut
              obtain ⟨W3, hW3⟩ : ∃ W3, W3 = wc := ⟨_, rfl⟩
              subst hW3
              clear CP hq
              have HF := hid (g1_put HG.out H7.out (V6.out.below H7.out))
              replace HG := hid (HG.out.below H7.out)
              replace X6 := hid (X6.out.below H7.out)
              clear H7 V6 HU
              obtain ⟨a', ea', ca⟩ := atZ_of (HZ.out.below HG.out.low).has.row j hjl
              cases ea'
              rw [HPq.out] at ca
              obtain ⟨k, hk⟩ : ∃ k, k = z.k := ⟨_, rfl⟩
              have c0z := ca.c0
              dsimp only at c0z
              rw [← hk] at c0z
              clear ca
              have O1' : Hid (k = 0 → E = 0 → was = false ∧ v2 = true) := fun a b => by
                obtain ⟨e1, e2⟩ := O1.out (hk ▸ a) (HE.out ▸ b)
                exact ⟨HWas.out.trans e1, HV2.out.trans e2⟩
              have O2' : Hid (k = 1 → E = 0 → was = true ∧ v2 = false) := fun a b => by
                obtain ⟨e1, e2⟩ := O2.out (hk ▸ a) (HE.out ▸ b)
                exact ⟨HWas.out.trans e1, HV2.out.trans e2⟩
              have O3' : Hid (E ≠ 0 → v2 = was) := fun a => (HV2.out.trans (O3.out (HE.out ▸ a))).trans HWas.out.symm
              clear O1 O2 O3 HV2 HWas HE hk
              generalize doH h z = H at HF HLn2 HOk2
              have p0 := HG.out.a.c0
              have p1 := HG.out.a.c1
              have f0 := HG.out.a.fz 0
              have f1 := HG.out.a.fz 1
              have d0 := X6.out.c0
              have d1 := X6.out.c1
              have n1 : ¬ w.heap.size = b6 := by omega
              have n2 : ¬ b6 = w.heap.size := by omega
              by_cases hE : E = 0
              · subst hE
                clear O3'
                by_cases hk0 : k = 0
                · subst hk0
                  obtain ⟨rfl, rfl⟩ := O1'.out rfl rfl
                  clear O1' O2'
                  go_wp2_with fail
                  go_roundw
                  case rel => exact ⟨j + 1, H, v, by omega, by go_num, HF, HOk2, HLn2⟩
                  case measure => simp [intOf]; omega
                · by_cases hk1 : k = 1
                  · subst hk1
                    obtain ⟨rfl, rfl⟩ := O2'.out rfl rfl
                    clear O1' O2' hk0
                    go_wp2_with fail
                    go_roundw
                    case rel => exact ⟨j + 1, H, v, by omega, by go_num, HF, HOk2, HLn2⟩
                    case measure => simp [intOf]; omega
                  · clear O1' O2'
                    go_wp2_with fail
                    go_roundw
                    case rel => exact ⟨j + 1, H, v, by omega, by go_num, HF, HOk2, HLn2⟩
                    case measure => simp [intOf]; omega
              · obtain rfl := O3'.out hE
                clear O1' O2' O3'
                cases v2 with
                | true =>
                  by_cases hk0 : k = 0
                  · subst hk0
                    go_wp2_with fail
                    go_roundw
                    case rel => exact ⟨j + 1, H, v, by omega, by go_num, HF, HOk2, HLn2⟩
                    case measure => simp [intOf]; omega
                  · by_cases hk1 : k = 1
                    · subst hk1
                      clear hk0
                      go_wp2_with fail
                      go_roundw
                      case rel => exact ⟨j + 1, H, v, by omega, by go_num, HF, HOk2, HLn2⟩
                      case measure => simp [intOf]; omega
                    · go_wp2_with fail
                      go_roundw
                      case rel => exact ⟨j + 1, H, v, by omega, by go_num, HF, HOk2, HLn2⟩
                      case measure => simp [intOf]; omega
                | false =>
                  by_cases hk0 : k = 0
                  · subst hk0
                    go_wp2_with fail
                    go_roundw
                    case rel => exact ⟨j + 1, H, v, by omega, by go_num, HF, HOk2, HLn2⟩
                    case measure => simp [intOf]; omega
                  · by_cases hk1 : k = 1
                    · subst hk1
                      clear hk0
                      go_wp2_with fail
                      go_roundw
                      case rel => exact ⟨j + 1, H, v, by omega, by go_num, HF, HOk2, HLn2⟩
                      case measure => simp [intOf]; omega
                    · go_wp2_with fail
                      go_roundw
                      case rel => exact ⟨j + 1, H, v, by omega, by go_num, HF, HOk2, HLn2⟩
                      case measure => simp [intOf]; omega
    · have i2 : ¬ (j : Int) < (N : Int) := by omega
      obtain ⟨⟨so, sn, sc⟩, ⟨eo, en, ec⟩⟩ := x
      have c0 : wr.cell? ⟨w.heap.size, 0, none⟩ = some (.slice so sn sc) := HG.out.a.c0
      have cB : wr.cell? ⟨w.heap.size, 1, none⟩ = some (.slice eo en ec) := HG.out.a.c1
      have HL : Hid (sn = h.s.length) := HG.out.ha.s.len
      have hsn : sn ≤ 5000 := by have := HLn.out; have := HL.out; omega
      have CP : Hid (Calls Try.prog 12 #[.agg #[.slice so sn sc, .slice eo en ec], .int .i64 p] wr fun e w' => e = .returned (.tuple #[.int .i64 (pnI h.s p), .bool (pnB h.s p)]) ∧ Below wr.heap.size wr w') := pending_any ⟨⟨so, sn, sc⟩, ⟨eo, en, ec⟩⟩ h p wr hsn (hid HG.out.ha.s)
      have HCn : Hid (cO h.s p sn = if pnB h.s p then 1 else 0) := by have := cO_all (okH_iff.1 HOk.out).1 p; rw [← HL.out] at this; exact this
      go_wp2_with fail
      go_loop [13, 14] (fun s i => ∃ (q : Nat) (M : Int), q ≤ sn ∧ i = .int .i64 q ∧ s = .int .i64 M ∧ 0 ≤ M ∧ M ≤ q ∧ Hid (M = (cO h.s p q : Nat))) (fun _ i => sn - (intOf i).toNat)
      case atStart => exact ⟨0, 0, Nat.zero_le _, rfl, rfl, Int.le_refl _, Int.le_refl _, rfl⟩
      case round =>
        obtain ⟨q, M, hq, rfl, rfl, m0, m1, HM⟩ := hrel
        by_cases hql : q < sn
        · have j1 : (0 : Int) ≤ (q : Int) := by omega
          have j2 : (q : Int) < (sn : Int) := by omega
          obtain ⟨A, eA, cs⟩ := atS_of HG.out.ha.s.row q (show q < h.s.length by rw [← HL.out]; exact hql)
          obtain rfl : so = some A := eA
          obtain ⟨k, hk⟩ : ∃ k, k = (h.s.getD q s0).co := ⟨_, rfl⟩
          obtain ⟨e, he⟩ : ∃ e, e = (h.s.getD q s0).en := ⟨_, rfl⟩
          have d0 := cs.c0
          have d10 := cs.c10
          rw [← hk] at d0
          rw [← he] at d10
          clear cs
          by_cases hkp : k = p
          · by_cases he0 : e = 0
            · have HM2 : Hid (M + 1 = ((cO h.s p (q + 1) : Nat) : Int)) := by unfold Hid; rw [cO_yes (hk.symm.trans hkp) (he.symm.trans he0), HM.out]; omega
              subst he0
              obtain rfl : p = k := hkp.symm
              clear hk he
              go_wp2_with fail
              go_round
              case rel => exact ⟨q + 1, M + 1, by omega, by go_num, by go_num, by omega, by omega, HM2⟩
              case measure => simp [intOf]; omega
            · have HM2 : Hid (M = ((cO h.s p (q + 1) : Nat) : Int)) := by unfold Hid; rw [cO_no2 (fun x => he0 (he.trans x)), HM.out]
              obtain rfl : p = k := hkp.symm
              clear hk he
              go_wp2_with fail
              go_round
              case rel => exact ⟨q + 1, M, by omega, by go_num, rfl, by omega, by omega, HM2⟩
              case measure => simp [intOf]; omega
          · have HM2 : Hid (M = ((cO h.s p (q + 1) : Nat) : Int)) := by unfold Hid; rw [cO_no1 (fun x => hkp (hk.trans x)), HM.out]
            clear hk he
            go_wp2_with fail
            go_round
            case rel => exact ⟨q + 1, M, by omega, by go_num, rfl, by omega, by omega, HM2⟩
            case measure => simp [intOf]; omega
        · have j2 : ¬ (q : Int) < (sn : Int) := by omega
          obtain rfl : sn = q := by omega
          cases hp : pnB h.s p with
          | true =>
            rw [hp] at CP
            obtain rfl : M = 1 := by rw [HM.out, HCn.out, hp]; rfl
            clear hp
            go_wp2_with (first | (go_at_call 12; refine CP.out.mono ?_; rintro e w9 ⟨rfl, b9⟩) | (go_at_call 9; refine (K _).mono ?_; rintro e w8 ⟨rfl, b8⟩))
            go_ret
            exact ⟨rfl, q_trans HG.out.low (q_trans b9 b8)⟩
          | false =>
            rw [hp] at CP
            obtain rfl : M = 0 := by rw [HM.out, HCn.out, hp]; rfl
            clear hp
            go_wp2_with (first | (go_at_call 12; refine CP.out.mono ?_; rintro e w9 ⟨rfl, b9⟩) | (go_at_call 9; refine (K _).mono ?_; rintro e w8 ⟨rfl, b8⟩))
            go_ret
            exact ⟨rfl, q_trans HG.out.low (q_trans b9 b8)⟩
set_option maxHeartbeats 400000 in
theorem once_long (K : LiveC) (y : Hd) (p : Int) (w : World) (hN : 60 < y.n) :
    Calls Try.prog 6 #[.slice y.o y.n y.c, .int .i64 p] w fun e w' => e = .returned (.bool true) ∧ Below w.heap.size w w' := by
  have i0 : (y.n : Int) > 60 := by omega
  go_enter Try.func6, Try.ntmps6
  go_wp2_with (go_at_call 9; refine (K _).mono ?_; rintro e w9 ⟨rfl, b9⟩)
  go_ret
  exact ⟨rfl, b9⟩
theorem once_any (K : LiveC) (y : Hd) (l : List (Ac × Hd)) (p : Int) (w : World) (HH : HasZ w y l) :
    Calls Try.prog 6 #[.slice y.o y.n y.c, .int .i64 p] w fun e w' => e = .returned (.bool true) ∧ Below w.heap.size w w' := by
  by_cases h : 60 < y.n
  · exact once_long K y p w h
  · exact once_in K y.o y.n y.c l p w (by omega) HH
end Go.Proofs.Ytmnkbkhfonngeaa.Hi
