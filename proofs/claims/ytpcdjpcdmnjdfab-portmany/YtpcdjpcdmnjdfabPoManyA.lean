/- PortMany, its numbers in bounds: all that come send. -/
import Derived.Test.YtpcdjpcdmnjdfabPoManyM
namespace Go.Proofs.Ytpcdjpcdmnjdfab.Po
open Go.RowKit

set_option maxRecDepth 100000 in
set_option maxHeartbeats 4000000 in
theorem many_s (K : LiveM) (N : Nat) (w : World) (h : N < 64) :
    Calls Try.prog 3 #[.int .i64 N, .bool true] w fun e w' => e = .returned (.bool true) ∧ Below w.heap.size w w' := by
  have i0 : ¬ (N : Int) < 0 := by omega
  have i1 : ¬ (N : Int) ≥ 64 := by omega
  go_enter Try.func3, Try.ntmps3
  go_upto_region 4 with fail
  have HR : Hid (Ms w (w.alloc (.cells #[.int .i64 0, .int .i64 0, .slice none 0 0] 25)) (mP 1 0 0) nilH) := ⟨⟨pb_new w p0 nilH, hasQ_nil _⟩, alloc_below _ _⟩
  generalize w.alloc (.cells #[.int .i64 0, .int .i64 0, .slice none 0 0] 25) = W at HR ⊢
  go_wp2_with fail
  go_loopw [6] (fun s6 wr => ∃ (j : Nat) (y : Hd), j ≤ N ∧ s6 = .int .i64 j ∧ Hid (Ms w wr (mP 1 0 j) y)) (fun i _ => N - (intOf i).toNat)
  case atStart => exact ⟨0, nilH, Nat.zero_le _, rfl, HR⟩
  case round =>
    clear HR
    obtain ⟨W0, rfl⟩ : ∃ W0, W0 = wr := ⟨_, rfl⟩
    obtain ⟨j, y, hj, rfl, HS0⟩ := hrel
    by_cases hlt : j < N
    · have i2 : (j : Int) < (N : Int) := by omega
      have c := many_come (own := 1) (meets := 2) (by decide) j (by omega)
      have hyn : y.n ≤ 4999 := by have h1 := HS0.out.sp.has.len; have h2 := mL_len 0 j; have h3 : y.n = (mL 0 j).length := h1; omega
      have CS : Hid (∀ X, Below W0.heap.size W0 X → Calls Try.prog 5 #[(.agg #[.int .i64 (mP 1 0 j).k, .int .i64 (mP 1 0 j).w, .slice y.o y.n y.c]), (.agg #[.int .i64 (wq j).c, .int .i64 (wq j).v, .int .i64 (wq j).b, .bool (wq j).h, .int .i64 (wq j).o, .int .i64 (wq j).s, .int .i64 (wq j).g, .bool (wq j).t])] X fun e w' => ∃ z : Hd, e = .returned (.tuple #[(.agg #[.int .i64 (mP 1 0 (j + 1)).k, .int .i64 (mP 1 0 (j + 1)).w, .slice z.o z.n z.c]), (.agg #[.int .i64 z0.c, .int .i64 z0.v, .int .i64 z0.b, .bool z0.h, .int .i64 z0.o, .int .i64 z0.s, .int .i64 z0.g, .bool z0.t]), .bool false, .int .i64 0]) ∧ Ans X w' z (mP 1 0 (j + 1)).l) := fun X b => by
        have g := send_any (mP 1 0 j) y (wq j) X hyn (HS0.out.sp.has.below b)
        rw [c.1, c.2.1, c.2.2.1, c.2.2.2] at g
        exact g
      clear c
      obtain ⟨p, hp⟩ : ∃ p, mP 1 0 j = p := ⟨_, rfl⟩
      obtain ⟨d, hd⟩ : ∃ d, mP 1 0 (j + 1) = d := ⟨_, rfl⟩
      have HDL : Hid (d.l.length = j + 1) := by subst hd; exact mL_len 0 (j + 1)
      rw [hp, hd] at CS
      rw [hp] at HS0
      have HDE := hid hd
      clear hp hd
      have p0 := HS0.out.sp.pb.c0
      have p1 := HS0.out.sp.pb.c1
      have p2 := HS0.out.sp.pb.c2
      go_upto_region 10 with fail
      have HS1 := hid (HS0.out.below (alloc_below W0 (.cells #[.int .i64 p.k, .int .i64 p.w, .slice y.o y.n y.c] 25)))
      have HB7 := hid (pb_new W0 p y)
      have HL7 : Hid (w.heap.size < W0.heap.size) := HS0.out.sp.pb.lt
      have HA7 := hid (alloc_below W0 (.cells #[.int .i64 p.k, .int .i64 p.w, .slice y.o y.n y.c] 25))
      clear p0 p1 p2
      have HW0 := hid (HS0.out.low)
      clear HS0
      generalize W0.heap.size = b7 at HB7 HL7 ⊢
      generalize hW1 : W0.alloc (.cells #[.int .i64 p.k, .int .i64 p.w, .slice y.o y.n y.c] 25) = W1 at HS1 HB7 HA7 ⊢
      clear hW1
      have p0 := HS1.out.sp.pb.c0
      have p1 := HS1.out.sp.pb.c1
      have p2 := HS1.out.sp.pb.c2
      have hlp := HS1.out.sp.pb.lt
      have HQ7 : Hid (∀ X, Below W1.heap.size W1 X → (X.cell? ⟨b7, 0, none⟩ = some (.int .i64 p.k) ∧ X.cell? ⟨b7, 1, none⟩ = some (.int .i64 p.w) ∧ X.cell? ⟨b7, 2, none⟩ = some (.slice y.o y.n y.c)) ∧ X.frozen? ⟨b7, 0, none⟩ = false ∧ X.frozen? ⟨b7, 1, none⟩ = false ∧ X.frozen? ⟨b7, 2, none⟩ = false ∧ b7 < X.heap.size) := fun X b => ⟨⟨(HB7.out.below b).c0, (HB7.out.below b).c1, (HB7.out.below b).c2⟩, (HB7.out.below b).fz 0, (HB7.out.below b).fz 1, (HB7.out.below b).fz 2, (HB7.out.below b).lt⟩
      have hl7 := HL7.out
      go_cut [8, 9] from 30 to 38 (fun s8 s9 wx => ∃ z : Hd, s8 = .bool false ∧ s9 = .int .i64 0 ∧ Hid (Ms w wx p y ∧ Hp wx b7 d z))
      case first =>
        go_region_with
          (first
            | (go_at_call 6; refine (who_any _ _).mono ?_; rintro e w8 ⟨rfl, hw⟩; rw [hw]; clear hw w8)
            | (go_at_call 5; refine (CS.out _ (q_trans HA7.out (by (repeat' (first | with_reducible exact Below.refl _ _ | with_reducible refine Below.drew ?_ | with_reducible refine q_alloc ?_ _))))).mono ?_; rintro e w9 ⟨z9, rfl, hz⟩; have HZ := hid hz; have q9 := HQ7.out _ (q_trans (by (repeat' (first | with_reducible exact Below.refl _ _ | with_reducible refine Below.drew ?_ | with_reducible refine q_alloc ?_ _))) hz.low); obtain ⟨⟨r0, r1, r2⟩, f0, f1, f2, hb9⟩ := q9; clear hz)
            | fail)
        all_goals (try go_wp2_with fail)
        all_goals go_meet
        all_goals (with_reducible refine ⟨z9, rfl, rfl, hid (ms_q HS1.out HB7.out HL7.out ?_ HZ.out)⟩; (repeat' (first | with_reducible exact Below.refl _ _ | with_reducible refine Below.drew ?_ | with_reducible refine q_alloc ?_ _)))
      case rest =>
        obtain ⟨z, rfl, rfl, HC⟩ := hcut
        clear p0 p1 p2 hlp HQ7 hl7 HS1 HB7 HA7 CS
        obtain ⟨W2, hWc⟩ : ∃ W2, W2 = wc := ⟨_, rfl⟩
        subst hWc
        have p0 := HC.out.1.sp.pb.c0
        have p1 := HC.out.1.sp.pb.c1
        have p2 := HC.out.1.sp.pb.c2
        have f0 := HC.out.1.sp.pb.fz 0
        have f1 := HC.out.1.sp.pb.fz 1
        have f2 := HC.out.1.sp.pb.fz 2
        have q0 := HC.out.2.pb.c0
        have q1 := HC.out.2.pb.c1
        have q2 := HC.out.2.pb.c2
        have hzn : z.n = j + 1 := HC.out.2.has.len.trans HDL.out
        obtain ⟨zo, zn, zc⟩ := z
        have hzn : zn = j + 1 := hzn
        subst hzn
        go_wp2_with (first | (go_at_call 8; refine (num_any _ _).mono ?_; rintro e w8 ⟨rfl, hw⟩; rw [hw]; clear hw w8) | fail)
        refine ⟨⟨j + 1, ⟨zo, j + 1, zc⟩, hlt, by simp, ?_⟩, ?_⟩
        · rw [HDE.out]
          exact hid (HC.out.1.put HC.out.2.has)
        · show N - ((j : Int) + 1).toNat < N - (j : Int).toNat
          omega
    · have i2 : ¬ (j : Int) < (N : Int) := by omega
      obtain rfl : j = N := by omega
      clear hj hlt
      go_wp2_with fail
      go_loopw [10] (fun s10 wr => ∃ (a : Nat) (y : Hd), a ≤ j ∧ s10 = .int .i64 a ∧ Hid (Ms w wr (mP 1 a (j - a)) y)) (fun i _ => j - (intOf i).toNat)
      case atStart => exact ⟨0, y, Nat.zero_le _, rfl, HS0⟩
      case round =>
        clear HS0 i2
        obtain ⟨V0, rfl⟩ : ∃ V0, V0 = wr := ⟨_, rfl⟩
        obtain ⟨a, u, ha, rfl, HS0⟩ := hrel
        by_cases hlt : a < j
        · have i2 : (a : Int) < (j : Int) := by omega
          have c := many_meet (own := 1) (meets := 2) (by decide) a (j - a) (by omega) (by omega)
          have hyn : u.n ≤ 4999 := by have h1 := HS0.out.sp.has.len; have h2 := mL_len a (j - a); have h3 : u.n = (mL a (j - a)).length := h1; omega
          have CS : Hid (∀ X, Below V0.heap.size V0 X → Calls Try.prog 7 #[(.agg #[.int .i64 (mP 1 a (j - a)).k, .int .i64 (mP 1 a (j - a)).w, .slice u.o u.n u.c]), (.agg #[.int .i64 (wq 63).c, .int .i64 (wq 63).v, .int .i64 (wq 63).b, .bool (wq 63).h, .int .i64 (wq 63).o, .int .i64 (wq 63).s, .int .i64 (wq 63).g, .bool (wq 63).t])] X fun e w' => ∃ z : Hd, e = .returned (.tuple #[(.agg #[.int .i64 (mP 1 (a + 1) (j - a - 1)).k, .int .i64 (mP 1 (a + 1) (j - a - 1)).w, .slice z.o z.n z.c]), (.agg #[.int .i64 (wq a).c, .int .i64 (wq a).v, .int .i64 (wq a).b, .bool (wq a).h, .int .i64 (wq a).o, .int .i64 (wq a).s, .int .i64 (wq a).g, .bool (wq a).t]), .bool true, .int .i64 0]) ∧ Ans X w' z (mP 1 (a + 1) (j - a - 1)).l) := fun X b => by
            have g := recv_any (mP 1 a (j - a)) u (wq 63) X hyn (HS0.out.sp.has.below b)
            rw [c.1, c.2.1, c.2.2.1, c.2.2.2] at g
            exact g
          clear c
          rw [show j - a - 1 = j - (a + 1) by omega] at CS
          obtain ⟨p, hp⟩ : ∃ p, mP 1 a (j - a) = p := ⟨_, rfl⟩
          obtain ⟨d, hd⟩ : ∃ d, mP 1 (a + 1) (j - (a + 1)) = d := ⟨_, rfl⟩
          obtain ⟨v, hv⟩ : ∃ v, wq (a : Int) = v := ⟨_, rfl⟩
          rw [hp, hd, hv] at CS
          rw [hp] at HS0
          have HDE := hid hd
          have HVE := hid hv
          clear hp hd hv
          have p0 := HS0.out.sp.pb.c0
          have p1 := HS0.out.sp.pb.c1
          have p2 := HS0.out.sp.pb.c2
          have hlp := HS0.out.sp.pb.lt
          go_upto_region 21 with fail
          have HB := hid (ms_two V0 p u)
          clear p0 p1 p2 hlp
          generalize hW1 : (V0.alloc (.cells #[.int .i64 p.k, .int .i64 p.w, .slice u.o u.n u.c] 25)).alloc (.cells #[.int .i64 0, .int .i64 0, .int .i64 0, .bool false, .int .i64 0, .int .i64 0, .int .i64 0, .bool false] 30) = W1 at HB ⊢
          clear hW1
          obtain ⟨b, hb⟩ : ∃ b, V0.heap.size = b := ⟨_, rfl⟩
          have HLB := hid hb
          rw [hb] at HB
          have HS1 := hid (HS0.out.below (by rw [hb]; exact HB.out.2.2))
          have p0 := HS1.out.sp.pb.c0
          have p1 := HS1.out.sp.pb.c1
          have p2 := HS1.out.sp.pb.c2
          have hlp := HS1.out.sp.pb.lt
          have HA7 : Hid (Below V0.heap.size V0 W1) := by unfold Hid; rw [hb]; exact HB.out.2.2
          have hl7 : w.heap.size < b := by rw [← hb]; exact HS0.out.sp.pb.lt
          rw [hb]
          clear hb
          have HQ7 : Hid (∀ X, Below W1.heap.size W1 X → (X.cell? ⟨b, 0, none⟩ = some (.int .i64 p.k) ∧ X.cell? ⟨b, 1, none⟩ = some (.int .i64 p.w) ∧ X.cell? ⟨b, 2, none⟩ = some (.slice u.o u.n u.c)) ∧ (X.frozen? ⟨b, 0, none⟩ = false ∧ X.frozen? ⟨b, 1, none⟩ = false ∧ X.frozen? ⟨b, 2, none⟩ = false ∧ b < X.heap.size) ∧ (X.cell? ⟨b + 1, 0, none⟩ = some (.int .i64 0) ∧ X.cell? ⟨b + 1, 1, none⟩ = some (.int .i64 0) ∧ X.cell? ⟨b + 1, 2, none⟩ = some (.int .i64 0) ∧ X.cell? ⟨b + 1, 3, none⟩ = some (.bool false) ∧ X.cell? ⟨b + 1, 4, none⟩ = some (.int .i64 0) ∧ X.cell? ⟨b + 1, 5, none⟩ = some (.int .i64 0) ∧ X.cell? ⟨b + 1, 6, none⟩ = some (.int .i64 0) ∧ X.cell? ⟨b + 1, 7, none⟩ = some (.bool false)) ∧ (X.frozen? ⟨b + 1, 0, none⟩ = false ∧ X.frozen? ⟨b + 1, 1, none⟩ = false ∧ X.frozen? ⟨b + 1, 2, none⟩ = false ∧ X.frozen? ⟨b + 1, 3, none⟩ = false ∧ X.frozen? ⟨b + 1, 4, none⟩ = false ∧ X.frozen? ⟨b + 1, 5, none⟩ = false ∧ X.frozen? ⟨b + 1, 6, none⟩ = false ∧ X.frozen? ⟨b + 1, 7, none⟩ = false ∧ b + 1 < X.heap.size)) := fun X bb => by
            have g1 := HB.out.1.below bb
            have g2 := HB.out.2.1.below bb
            exact ⟨⟨g1.c0, g1.c1, g1.c2⟩, ⟨g1.fz 0, g1.fz 1, g1.fz 2, g1.lt⟩, ⟨g2.at.c0, g2.at.c1, g2.at.c2, g2.at.c3, g2.at.c4, g2.at.c5, g2.at.c6, g2.at.c7⟩, ⟨g2.fz 0, g2.fz 1, g2.fz 2, g2.fz 3, g2.fz 4, g2.fz 5, g2.fz 6, g2.fz 7, g2.lt⟩⟩
          go_cut [13, 14] from 71 to 78 (fun s13 s14 wx => ∃ z : Hd, s13 = .bool true ∧ s14 = .int .i64 0 ∧ Hid (Ms w wx p u ∧ Hp wx b d z ∧ Wb wx (b + 1) v))
          case first =>
            go_region_with
              (first
                | (go_at_call 6; refine (who_any _ _).mono ?_; rintro e w8 ⟨rfl, hw⟩; rw [hw]; clear hw w8)
                | (go_at_call 7; refine (CS.out _ (q_trans HA7.out (by (repeat' (first | with_reducible exact Below.refl _ _ | with_reducible refine Below.drew ?_ | with_reducible refine q_alloc ?_ _))))).mono ?_; rintro e w9 ⟨z9, rfl, hz⟩; have HZ := hid hz; have q9 := HQ7.out _ (q_trans (by (repeat' (first | with_reducible exact Below.refl _ _ | with_reducible refine Below.drew ?_ | with_reducible refine q_alloc ?_ _))) hz.low); obtain ⟨⟨r0, r1, r2⟩, ⟨f0, f1, f2, hb9⟩, ⟨s0, s1, s2, s3, s4, s5, s6, s7⟩, ⟨k0, k1, k2, k3, k4, k5, k6, k7, hc9⟩⟩ := q9; clear hz)
                | fail)
            all_goals (try go_wp2_with fail)
            all_goals go_meet
            all_goals (with_reducible refine ⟨z9, rfl, rfl, hid (ms_qw (v := v) HS0.out HA7.out (Nat.le_of_eq HLB.out) HB.out.1 HB.out.2.1 ?_ HZ.out)⟩; (repeat' (first | with_reducible exact Below.refl _ _ | with_reducible refine Below.drew ?_ | with_reducible refine q_alloc ?_ _)))
          case rest =>
            obtain ⟨z, rfl, rfl, HC⟩ := hcut
            clear p0 p1 p2 hlp HQ7 hl7 HS1 HA7 HLB HS0 CS
            obtain ⟨W2, hWc⟩ : ∃ W2, W2 = wc := ⟨_, rfl⟩
            subst hWc
            rw [← HVE.out] at HC
            clear HVE
            have HX : Hid (∀ X, Below W2.heap.size W2 X → Hid (Ms w X p u ∧ Hp X b d z)) := fun X bb => ⟨HC.out.1.below bb, HC.out.2.1.below bb⟩
            have he : ∀ w : World, (Op.equalIn 10000 30 (.agg #[.int .i64 a, .int .i64 a, .int .i64 0, .bool false, .int .i64 0, .int .i64 0, .int .i64 0, .bool false]) (.agg #[.int .i64 a, .int .i64 a, .int .i64 0, .bool false, .int .i64 0, .int .i64 0, .int .i64 0, .bool false])).run Try.prog w = .ok true w := eqw_yes (rfl : wq a = wq a)
            have s0 : W2.cell? ⟨b + 1, 0, none⟩ = some (.int .i64 a) := HC.out.2.2.at.c0
            have s1 : W2.cell? ⟨b + 1, 1, none⟩ = some (.int .i64 a) := HC.out.2.2.at.c1
            have s2 : W2.cell? ⟨b + 1, 2, none⟩ = some (.int .i64 0) := HC.out.2.2.at.c2
            have s3 : W2.cell? ⟨b + 1, 3, none⟩ = some (.bool false) := HC.out.2.2.at.c3
            have s4 : W2.cell? ⟨b + 1, 4, none⟩ = some (.int .i64 0) := HC.out.2.2.at.c4
            have s5 : W2.cell? ⟨b + 1, 5, none⟩ = some (.int .i64 0) := HC.out.2.2.at.c5
            have s6 : W2.cell? ⟨b + 1, 6, none⟩ = some (.int .i64 0) := HC.out.2.2.at.c6
            have s7 : W2.cell? ⟨b + 1, 7, none⟩ = some (.bool false) := HC.out.2.2.at.c7
            have hlb := HC.out.2.2.lt
            go_upto_region 23 with fail
            go_cut [99] from 87 to 98 (fun s99 wx => s99 = .bool false ∧ Hid (Ms w wx p u ∧ Hp wx b d z))
            case first =>
              go_region_with
                (first
                  | (go_at_call 6; refine (who_any _ _).mono ?_; rintro e w8 ⟨rfl, hw⟩; rw [hw]; clear hw w8)
                  | (go_at_call 8; refine (num_any _ _).mono ?_; rintro e w8 ⟨rfl, hw⟩; rw [hw]; clear hw w8)
                  | fail)
              all_goals (try go_wp2_with fail)
              all_goals go_meet
              all_goals (with_reducible refine ⟨rfl, HX.out _ ?_⟩; (repeat' (first | with_reducible exact Below.refl _ _ | with_reducible refine Below.drew ?_ | with_reducible refine q_alloc ?_ _)))
            case rest =>
              obtain ⟨rfl, HC2⟩ := hcut
              clear s0 s1 s2 s3 s4 s5 s6 s7 hlb HX HC he
              obtain ⟨W3, hWc⟩ : ∃ W3, W3 = wc := ⟨_, rfl⟩
              subst hWc
              have p0 := HC2.out.1.sp.pb.c0
              have p1 := HC2.out.1.sp.pb.c1
              have p2 := HC2.out.1.sp.pb.c2
              have f0 := HC2.out.1.sp.pb.fz 0
              have f1 := HC2.out.1.sp.pb.fz 1
              have f2 := HC2.out.1.sp.pb.fz 2
              have q0 := HC2.out.2.pb.c0
              have q1 := HC2.out.2.pb.c1
              have q2 := HC2.out.2.pb.c2
              go_wp2_with fail
              refine ⟨⟨a + 1, z, hlt, by simp, ?_⟩, ?_⟩
              · rw [HDE.out]
                exact hid (HC2.out.1.put HC2.out.2.has)
              · show j - ((a : Int) + 1).toNat < j - (a : Int).toNat
                omega
        · have i2 : ¬ (a : Int) < (j : Int) := by omega
          obtain rfl : a = j := by omega
          clear ha hlt
          rw [show mP 1 a (a - a) = p0 by simp [mP, mL]] at HS0
          have CQ := hid (psame_any p0 p0 u nilH V0 (by have := HS0.out.sp.has.len; simp at this; omega) HS0.out.sp.has (hasQ_nil V0))
          rw [show eqP p0 p0 = true by rfl] at CQ
          have P0 : V0.cell? ⟨w.heap.size, 0, none⟩ = some (.int .i64 0) := HS0.out.sp.pb.c0
          have P1 : V0.cell? ⟨w.heap.size, 1, none⟩ = some (.int .i64 0) := HS0.out.sp.pb.c1
          have P2 : V0.cell? ⟨w.heap.size, 2, none⟩ = some (.slice u.o u.n u.c) := HS0.out.sp.pb.c2
          go_wp2_with (first | (go_at_call 9; refine CQ.out.mono ?_; rintro e w8 ⟨rfl, b8⟩; have HB8 := hid b8; clear b8) | (go_at_call 4; refine (K _).mono ?_; rintro e w9 ⟨rfl, b9⟩; have HB9 := hid b9; clear b9))
          go_ret
          exact ⟨rfl, q_trans (q_trans HS0.out.low HB8.out) HB9.out⟩
end Go.Proofs.Ytpcdjpcdmnjdfab.Po
