/- What EpochNow does, over the program's contracts. -/
import Derived.Test.YtejghoncihdfkaaEpActs
namespace Go.Proofs.Ytejghoncihdfkaa.Ep
open Go.RowKit

theorem wrap_id {x : Int} (h1 : 0 ≤ x) (h2 : x ≤ 1099511627780) : IntKind.i64.wrap x = x := by rw [IntKind.wrap_i64]; omega
/-- What the walk knows behind an act: the epochs ahead in their box, those that follow in another. -/
structure Nx (w wr : World) (B : Nat) (z : WE) (f : E) (X : Nat) (t : Int) (v : WE) (d : E) : Prop where
  e : Fl w wr B z f
  x : InE wr X t v
  v : HasE wr (fun i => False ∨ i = B) v d
theorem Nx.below {w wr W : World} {B X : Nat} {z v : WE} {f d : E} {t : Int} (h : Nx w wr B z f X t v d) (b : Below wr.heap.size wr W) : Nx w W B z f X t v d := ⟨h.e.below b, h.x.below b, h.v.below b⟩
set_option maxRecDepth 100000 in
set_option maxHeartbeats 4000000 in
theorem now_in (K : Con) (n : Int) (ao : Option Addr) (N cap : Nat) (l : List Ac) (w : World) (h1 : 1 ≤ n) (h2 : n ≤ 64) (h3 : N ≤ 120) (HC : Hid (HasC w ao N l)) :
    Calls Try.prog 7 #[.int .i64 n, .slice ao N cap] w fun r w' => r = .returned (.bool true) ∧ Below w.heap.size w w' := by
  have hn : newE n = 0 := if_pos ⟨h1, h2⟩
  have i0 : (N : Int) ≤ 120 := by omega
  have HK0 := hid (ok_new hn)
  have C0 := hid (fun (W : World) => k_new K (n := n) (m := 1) (q := 0) (f := newA n) (fu_start (c := 0) hn 0).now hn rfl No W (no_lt W))
  have HN0 := hid (fu_start (c := 0) hn 0).now
  generalize newA n = A0 at C0 HK0 HN0
  clear hn
  go_enter Try.func7, Try.ntmps7
  go_wp2_with fail
  refine (C0.out _).mono ?_
  rintro r w1 ⟨y, rfl, h0, b0⟩
  have HE := hid (Fl.mk (q_alloc b0 (.cells #[.int .i64 1, .slice y.p.o y.p.n y.p.c, .slice y.l.o y.l.n y.l.c] 25)) (be_at HN0.out 25 h0) b0.size)
  clear h0 b0
  go_wp2_with fail
  generalize w1.heap.size = B at HE ⊢
  generalize w1.alloc (.cells #[.int .i64 1, .slice y.p.o y.p.n y.p.c, .slice y.l.o y.l.n y.l.c] 25) = W at HE ⊢
  clear w1
  refine (num_any _ _).mono ?_
  rintro r w' ⟨rfl, hw⟩
  rw [hw]
  clear hw w'
  go_wp2_with fail
  go_loopw [7] (fun i wr => ∃ (j : Nat) (z : WE) (f : E), j ≤ N ∧ i = .int .i64 j ∧ Hid (Fl w wr B z f) ∧ Hid (Ok f)) (fun i _ => N - (intOf i).toNat)
  case atStart => exact ⟨0, y, A0, Nat.zero_le _, rfl, HE, HK0⟩
  case round =>
    clear HE HK0 HN0 C0
    obtain ⟨W0, rfl⟩ : ∃ W0, W0 = wr := ⟨_, rfl⟩
    obtain ⟨j, z, f, hj, rfl, HG, HO⟩ := hrel
    by_cases hlt : j < N
    · have i1 : (0 : Int) ≤ (j : Int) := by omega
      have i2 : (j : Int) < (N : Int) := by omega
      obtain ⟨la, rfl, hz⟩ := HC.out.at_ j hlt
      obtain ⟨a, ha⟩ : ∃ a, l.getD j Ac.zero = a := ⟨_, rfl⟩
      rw [ha] at hz
      have HBL := hid (World.block_lt_of_cell? w _ hz.1)
      have HZ := hid (atC_below hz HG.out.low)
      clear hz ha
      obtain ⟨m, hm⟩ : ∃ m, f.now = m := ⟨_, rfl⟩
      have CA := hid (fun (W' : World) (b : Below W0.heap.size W0 W') => does_any K z f a (fun i => False ∨ i = B) W' (av_lt (HG.out.be.below b).box) (sm_ok HO.out) (HG.out.be.has.below b))
      have CB := hid (fun (W' : World) (b : Below W0.heap.size W0 W') (hx : W0.heap.size < W'.heap.size) => does_any K z f a (fun i => (False ∨ i = B) ∨ i = W0.heap.size) W' (fun i s => by rcases s with s | s; exact (av_lt (HG.out.be.below b).box) i s; exact s ▸ hx) (sm_ok HO.out) (HG.out.be.has.beside b W0.heap.size (Nat.le_refl _)))
      have HD := hid (do_now f a)
      have HK2 := hid (do_ok a HO.out)
      generalize doE f a = d at CA CB HD HK2
      generalize (doL f a).length = L at CA CB
      generalize doL f a = dl at CA CB
      generalize doN f a = q at CA CB HD
      rw [hm] at CA CB HD
      obtain ⟨p0, p1, p2, pf⟩ := HG.out.be.box
      rw [hm] at p0
      obtain ⟨t, ht⟩ : ∃ t, d.now = t := ⟨_, rfl⟩
      rw [ht] at CA CB HD
      have hBW : B < W0.heap.size := HG.out.be.box.lt
      have HNC : Hid (B ≠ W0.heap.size ∧ (la.add (j * 3)).block ≠ W0.heap.size) := ⟨Nat.ne_of_lt hBW, Nat.ne_of_lt (Nat.lt_of_lt_of_le HBL.out HG.out.low.size)⟩
      obtain ⟨z0, z1, z2⟩ := HZ.out
      go_upto_region 9 with fail
      go_cut [8, 9, 10] from 38 to 47 (fun s8 s9 s10 wx => ∃ (b : Nat) (v : WE) (o : Option Addr) (cp : Nat), s8 = .pointer (some ⟨b, 0, none⟩) ∧ s9 = .slice o L cp ∧ s10 = .int .i64 q ∧ b ≠ B ∧ Hid (InE wx b t v) ∧ Hid (HasE wx (fun i => False ∨ i = B) v d) ∧ Hid (Below W0.heap.size W0 wx))
      case first =>
        have hS : SX B m z (la.add (j * 3)) a W0 := ⟨⟨p0, p1, p2⟩, HZ.out⟩
        go_region_held3 (SX B m z (la.add (j * 3)) a) (first | with_reducible assumption | with_reducible exact HS3.out | with_reducible exact sx_alloc HS3.out | with_reducible exact sx_three HS3.out HNC.out | with_reducible exact sx_drew hS | with_reducible exact sx_alloc (sx_drew hS) | exact sx_alloc hS)
          (first
            | (go_at_call 11; refine (CB.out _ (by exact q_alloc (Below.refl _ W0).drew _) (by exact (inE_new W0.drew 0 WE.zero 25).lt)).mono ?_; rintro r w3 ⟨v, o3, c3, rfl, h3, _, b⟩; have HO3 := hid h3; have HB3 : Hid (Below W0.heap.size W0 w3) := (q_trans (q_alloc (Below.refl _ W0).drew _) b); have HS3 : Hid (SX B m z (la.add (j * 3)) a w3) := (sx_keep HB3.out hS); have HI3 : Hid (InE w3 W0.heap.size 0 WE.zero) := ((inE_new W0.drew 0 WE.zero 25).below b); obtain ⟨y0, y1, y2, yf⟩ := HI3.out; clear h3)
            | (go_at_call 11; refine (CA.out _ (by exact (Below.refl _ W0).drew)).mono ?_; rintro r w3 ⟨v, o3, c3, rfl, h3, _, b⟩; have HO3 := hid h3; have HB3 : Hid (Below W0.heap.size W0 w3) := (q_trans (Below.refl _ W0).drew b); have HS3 : Hid (SX B m z (la.add (j * 3)) a w3) := (sx_keep HB3.out hS); clear h3))
        all_goals (try go_wp2_with fail)
        all_goals go_meet
        all_goals first
          | exact ⟨_, v, o3, c3, rfl, rfl, rfl, Nat.ne_of_gt (Nat.lt_of_lt_of_le hBW HB3.out.size), inE_new w3 t v _, HO3.out.below (alloc_below _ _), q_alloc HB3.out _⟩
          | exact ⟨_, v, o3, c3, rfl, rfl, rfl, Nat.ne_of_gt hBW, HI3.out.store t v, fin_hasR HO3.out _ _ _, fin_lowR HB3.out (Nat.le_refl _) _ _ _⟩
      case rest =>
        obtain ⟨X, v, o3, c3, rfl, rfl, rfl, hXB, HI, HV, HBc⟩ := hcut
        have HN := hid (Nx.mk (HG.out.below HBc.out) HI.out HV.out)
        have HZ2 := hid (atC_below HZ.out HBc.out)
        have hm2 : m ≤ 1099511627776 := by rw [← hm]; exact HO.out.now2
        have HM := hid hm
        have HT := hid ht
        clear CA CB HG HI HV HBc HZ p0 p1 p2 pf z0 z1 z2 HNC hBW HBL hm ht W0
        obtain ⟨p0, p1, p2, pf⟩ := HN.out.e.be.box
        rw [HM.out] at p0
        obtain ⟨x0, x1, x2, xf⟩ := HN.out.x
        obtain ⟨z0, z1, z2⟩ := HZ2.out
        have HPL := hid HN.out.v.pn
        have hP64 : v.p.n ≤ 64 := by rw [HPL.out]; exact HK2.out.most
        have hm1 : 1 ≤ m := by rw [← HM.out]; exact HO.out.now1
        have hC : ((a.kind == 3) = true ∧ (a.kind != 3) = false ∧ (q == 1000) = true ∧ (q != 1000) = false ∧ t = m + 1) ∨ ((a.kind == 3) = true ∧ (a.kind != 3) = false ∧ (q == 1000) = false ∧ (q != 1000) = true ∧ t = m) ∨ ((a.kind == 3) = false ∧ (a.kind != 3) = true ∧ t = m) := by
          by_cases e1 : a.kind = 3
          · by_cases e2 : q = 1000
            · exact .inl ⟨beq_yes e1, bne_no e1, beq_yes e2, bne_no e2, by rw [HD.out, if_pos ⟨e1, e2⟩]⟩
            · exact .inr (.inl ⟨beq_yes e1, bne_no e1, beq_no e2, bne_yes e2, by rw [HD.out, if_neg (fun h => e2 h.2)]⟩)
          · exact .inr (.inr ⟨beq_no e1, bne_yes e1, by rw [HD.out, if_neg (fun h => e1 h.1)]⟩)
        clear HD
        rcases hC with ⟨q1, q2, q3, q4, et⟩ | ⟨q1, q2, q3, q4, et⟩ | ⟨q1, q2, et⟩ <;> subst et
        · go_wp2_with fail
          clear p0 p1 p2 pf x0 x1 x2 xf z0 z1 z2
          go_loopw [11] (fun s wr => ∃ k : Nat, k ≤ v.p.n ∧ s = .int .i64 k ∧ Hid (Nx w wr B z f X (m + 1) v d)) (fun s _ => v.p.n - (intOf s).toNat)
          case atStart => exact ⟨0, Nat.zero_le _, rfl, HN⟩
          case round =>
            obtain ⟨k, hk, rfl, HQ⟩ := hrel
            obtain ⟨x0, x1, x2, xf⟩ := HQ.out.x
            by_cases hk2 : k < v.p.n
            · have k1 : (0 : Int) ≤ (k : Int) := by omega
              have k2 : (k : Int) < (v.p.n : Int) := by omega
              obtain ⟨ca, eca, hc⟩ := HQ.out.v.pin k (by rw [← HPL.out]; exact hk2)
              have hnear := pin_near HK2.out (c := k) (by rw [← HPL.out]; exact hk2)
              obtain ⟨pv, hpv⟩ : ∃ p, d.pins.getD k 0 = p := ⟨_, rfl⟩
              rw [hpv] at hc
              rw [hpv, HT.out] at hnear
              rw [eca] at x1
              clear eca hpv
              by_cases hp0 : pv = 0
              · have e0 := bne_no hp0
                clear hnear hp0
                go_wp2_with fail
                go_quiet (fail)
                go_wp2_with fail
                go_roundw
                case rel => exact ⟨k + 1, by omega, by go_num, by first | exact HQ | exact HQ.out.below (Below.refl _ _).drew | exact HQ.out.below (drewN_below _ _)⟩
                case measure => simp [intOf]; omega
              · have e0 := bne_yes hp0
                have n1 : m + 1 ≤ pv := by omega
                have n2 : pv ≤ m + 1 + 1 := by omega
                have n3 : IntKind.i64.wrap (m + 1 + 1) = m + 1 + 1 := wrap_id (by omega) (by omega)
                clear hnear hp0
                go_wp2_with fail
                go_quiet (fail)
                go_wp2_with fail
                go_roundw
                case rel => exact ⟨k + 1, by omega, by go_num, by first | exact HQ | exact HQ.out.below (Below.refl _ _).drew | exact HQ.out.below (drewN_below _ _)⟩
                case measure => simp [intOf]; omega
            · obtain rfl : k = v.p.n := by omega
              obtain ⟨p0, p1, p2, pf⟩ := HQ.out.e.be.box
              have HP := hid (HQ.out.e.put HT.out HQ.out.v)
              go_wp2_with fail
              go_roundw
              case rel => exact ⟨j + 1, v, d, by omega, by go_num, HP, HK2⟩
              case measure => simp [intOf]; omega
        · go_wp2_with fail
          clear p0 p1 p2 pf x0 x1 x2 xf z0 z1 z2
          go_loopw [11] (fun s wr => ∃ k : Nat, k ≤ v.p.n ∧ s = .int .i64 k ∧ Hid (Nx w wr B z f X (t) v d)) (fun s _ => v.p.n - (intOf s).toNat)
          case atStart => exact ⟨0, Nat.zero_le _, rfl, HN⟩
          case round =>
            obtain ⟨k, hk, rfl, HQ⟩ := hrel
            obtain ⟨x0, x1, x2, xf⟩ := HQ.out.x
            by_cases hk2 : k < v.p.n
            · have k1 : (0 : Int) ≤ (k : Int) := by omega
              have k2 : (k : Int) < (v.p.n : Int) := by omega
              obtain ⟨ca, eca, hc⟩ := HQ.out.v.pin k (by rw [← HPL.out]; exact hk2)
              have hnear := pin_near HK2.out (c := k) (by rw [← HPL.out]; exact hk2)
              obtain ⟨pv, hpv⟩ : ∃ p, d.pins.getD k 0 = p := ⟨_, rfl⟩
              rw [hpv] at hc
              rw [hpv, HT.out] at hnear
              rw [eca] at x1
              clear eca hpv
              by_cases hp0 : pv = 0
              · have e0 := bne_no hp0
                clear hnear hp0
                go_wp2_with fail
                go_quiet (fail)
                go_wp2_with fail
                go_roundw
                case rel => exact ⟨k + 1, by omega, by go_num, by first | exact HQ | exact HQ.out.below (Below.refl _ _).drew | exact HQ.out.below (drewN_below _ _)⟩
                case measure => simp [intOf]; omega
              · have e0 := bne_yes hp0
                have n1 : t ≤ pv := by omega
                have n2 : pv ≤ t + 1 := by omega
                have n3 : IntKind.i64.wrap (t + 1) = t + 1 := wrap_id (by omega) (by omega)
                clear hnear hp0
                go_wp2_with fail
                go_quiet (fail)
                go_wp2_with fail
                go_roundw
                case rel => exact ⟨k + 1, by omega, by go_num, by first | exact HQ | exact HQ.out.below (Below.refl _ _).drew | exact HQ.out.below (drewN_below _ _)⟩
                case measure => simp [intOf]; omega
            · obtain rfl : k = v.p.n := by omega
              obtain ⟨p0, p1, p2, pf⟩ := HQ.out.e.be.box
              have HP := hid (HQ.out.e.put HT.out HQ.out.v)
              go_wp2_with fail
              go_roundw
              case rel => exact ⟨j + 1, v, d, by omega, by go_num, HP, HK2⟩
              case measure => simp [intOf]; omega
        · go_wp2_with fail
          clear p0 p1 p2 pf x0 x1 x2 xf z0 z1 z2
          go_loopw [11] (fun s wr => ∃ k : Nat, k ≤ v.p.n ∧ s = .int .i64 k ∧ Hid (Nx w wr B z f X (t) v d)) (fun s _ => v.p.n - (intOf s).toNat)
          case atStart => exact ⟨0, Nat.zero_le _, rfl, HN⟩
          case round =>
            obtain ⟨k, hk, rfl, HQ⟩ := hrel
            obtain ⟨x0, x1, x2, xf⟩ := HQ.out.x
            by_cases hk2 : k < v.p.n
            · have k1 : (0 : Int) ≤ (k : Int) := by omega
              have k2 : (k : Int) < (v.p.n : Int) := by omega
              obtain ⟨ca, eca, hc⟩ := HQ.out.v.pin k (by rw [← HPL.out]; exact hk2)
              have hnear := pin_near HK2.out (c := k) (by rw [← HPL.out]; exact hk2)
              obtain ⟨pv, hpv⟩ : ∃ p, d.pins.getD k 0 = p := ⟨_, rfl⟩
              rw [hpv] at hc
              rw [hpv, HT.out] at hnear
              rw [eca] at x1
              clear eca hpv
              by_cases hp0 : pv = 0
              · have e0 := bne_no hp0
                clear hnear hp0
                go_wp2_with fail
                go_quiet (fail)
                go_wp2_with fail
                go_roundw
                case rel => exact ⟨k + 1, by omega, by go_num, by first | exact HQ | exact HQ.out.below (Below.refl _ _).drew | exact HQ.out.below (drewN_below _ _)⟩
                case measure => simp [intOf]; omega
              · have e0 := bne_yes hp0
                have n1 : t ≤ pv := by omega
                have n2 : pv ≤ t + 1 := by omega
                have n3 : IntKind.i64.wrap (t + 1) = t + 1 := wrap_id (by omega) (by omega)
                clear hnear hp0
                go_wp2_with fail
                go_quiet (fail)
                go_wp2_with fail
                go_roundw
                case rel => exact ⟨k + 1, by omega, by go_num, by first | exact HQ | exact HQ.out.below (Below.refl _ _).drew | exact HQ.out.below (drewN_below _ _)⟩
                case measure => simp [intOf]; omega
            · obtain rfl : k = v.p.n := by omega
              obtain ⟨p0, p1, p2, pf⟩ := HQ.out.e.be.box
              have HP := hid (HQ.out.e.put HT.out HQ.out.v)
              go_wp2_with fail
              go_roundw
              case rel => exact ⟨j + 1, v, d, by omega, by go_num, HP, HK2⟩
              case measure => simp [intOf]; omega
    · obtain rfl : j = N := by omega
      go_wp2_with fail
      refine (live_any K _).mono ?_
      rintro r w' ⟨rfl, bl⟩
      have HBl := hid (q_trans HG.out.low bl)
      clear bl
      go_wp2_with fail
      go_ret
      exact ⟨rfl, HBl.out⟩
set_option maxRecDepth 100000 in
set_option maxHeartbeats 1000000 in
/-- EPOCHNOW IS TRUE. -/
theorem now_any (K : Con) (n : Int) (ao : Option Addr) (l : List Ac) (N cap : Nat) (w : World) (hN : N ≤ 9223372036854775807) (HC : HasC w ao N l) :
    Calls Try.prog 7 #[.int .i64 n, .slice ao N cap] w fun r w' => r = .returned (.bool true) ∧ Below w.heap.size w w' := by
  by_cases h1 : 1 ≤ n
  · by_cases h2 : n ≤ 64
    · by_cases h3 : N ≤ 120
      · exact now_in K n ao N cap l w h1 h2 h3 HC
      · have i3 : (120 : Int) < (N : Int) := by omega
        clear h3
        go_enter Try.func7, Try.ntmps7
        go_wp2_with fail
        refine (live_any K _).mono ?_
        rintro r w' ⟨rfl, bl⟩
        have HBl := hid bl
        clear bl
        go_wp2_with fail
        go_ret
        exact ⟨rfl, HBl.out⟩
    · clear HC
      go_enter Try.func7, Try.ntmps7
      go_wp2_with fail
      refine (live_any K _).mono ?_
      rintro r w' ⟨rfl, bl⟩
      have HBl := hid bl
      clear bl
      go_wp2_with fail
      go_ret
      exact ⟨rfl, HBl.out⟩
  · clear HC
    go_enter Try.func7, Try.ntmps7
    go_wp2_with fail
    refine (live_any K _).mono ?_
    rintro r w' ⟨rfl, bl⟩
    have HBl := hid bl
    clear bl
    go_wp2_with fail
    go_ret
    exact ⟨rfl, HBl.out⟩
end Go.Proofs.Ytejghoncihdfkaa.Ep
