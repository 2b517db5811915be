/- What EpochFull does, over the program's contracts. -/
import Derived.Test.YtejghoncihdfkaaEpOne
namespace Go.Proofs.Ytejghoncihdfkaa.Ep
open Go.RowKit

/-- Epochs in their box, behind a function's door. -/
structure Fl (w wr : World) (B : Nat) (z : WE) (f : E) : Prop where
  low : Below w.heap.size w wr
  be : Be wr No B z f
  b : w.heap.size ≤ B
theorem Fl.below {w wr W : World} {B : Nat} {z : WE} {f : E} (h : Fl w wr B z f) (hb : Below wr.heap.size wr W) : Fl w W B z f := ⟨q_trans h.low hb, h.be.below hb, h.b⟩
theorem Fl.put {w wr : World} {B : Nat} {y z : WE} {e f : E} {n : Int} (h : Fl w wr B y e) (hn : f.now = n) (hz : HasE wr (fun i => False ∨ i = B) z f) : Fl w (((wr.setCell ⟨B, 0, none⟩ (.int .i64 n)).setCell ⟨B, 1, none⟩ (.slice z.p.o z.p.n z.p.c)).setCell ⟨B, 2, none⟩ (.slice z.l.o z.l.n z.l.c)) B z f :=
  ⟨fin_lowR h.low h.b _ _ _, put_at hn h.be hz, h.b⟩
set_option maxRecDepth 100000 in
set_option maxHeartbeats 4000000 in
theorem full_in (K : Con) (n ob : Int) (k : Nat) (w : World) (h1 : 1 ≤ n) (h2 : n ≤ 64) (h4 : (k : Int) < n) (h5 : 0 ≤ ob) (h6 : ob ≤ 63) :
    Calls Try.prog 8 #[.int .i64 n, .int .i64 (k : Int), .int .i64 ob] w fun r w' => r = .returned (.bool true) ∧ Below w.heap.size w w' := by
  have hk : k < n.toNat := by omega
  have hn : newE n = 0 := if_pos ⟨h1, h2⟩
  have HF0 := hid (fu_start (c := k) hn ob)
  have h3 : (0 : Int) ≤ (k : Int) := by omega
  have C0 := hid (fun (W : World) => k_new K (n := n) (m := 1) (q := 0) (f := newA n) HF0.out.now hn rfl No W (no_lt W))
  generalize newA n = A0 at C0 HF0
  clear hn
  go_enter Try.func8, Try.ntmps8
  go_wp2_with fail
  refine (C0.out _).mono ?_
  rintro r w1 ⟨y, rfl, h0, b0⟩
  have HE := hid (Fl.mk (q_alloc b0 (.cells #[.int .i64 1, .slice y.p.o y.p.n y.p.c, .slice y.l.o y.l.n y.l.c] 25)) (be_at HF0.out.now 25 h0) b0.size)
  clear h0 b0
  go_wp2_with fail
  generalize w1.heap.size = B at HE ⊢
  generalize w1.alloc (.cells #[.int .i64 1, .slice y.p.o y.p.n y.p.c, .slice y.l.o y.l.n y.l.c] 25) = W at HE ⊢
  clear w1
  refine (num_any _ _).mono ?_
  rintro r w' ⟨rfl, hw⟩
  rw [hw]
  clear hw w'
  go_wp2_with fail
  go_loopw [9] (fun i wr => ∃ (j : Nat) (z : WE) (f : E), j ≤ 8 ∧ i = .int .i64 j ∧ Hid (Fl w wr B z f) ∧ Hid (Fu n.toNat k ob j f)) (fun i _ => 8 - (intOf i).toNat)
  case atStart => exact ⟨0, y, A0, Nat.zero_le _, rfl, HE, HF0⟩
  case round =>
    clear HE HF0 C0
    obtain ⟨j, z, f, hj, rfl, HG, HU⟩ := hrel
    have CR := hid (fun (W : World) (h : HasE W (fun i => False ∨ i = B) z f) (hb : B < W.heap.size) (q : Int) (hq : reE f k ob = q) => k_re K (e := f) (n := 1) (c := k) (ob := ob) (q := q) (f := reA f k ob) HU.out.now hq rfl z (fun i => False ∨ i = B) W (fun i s => by rcases s with s | s; exact s.elim; exact s ▸ hb) (sm_ok HU.out.zr.ok) h)
    by_cases hlt : j < 8
    · have i2 : (j : Int) < 8 := by omega
      obtain ⟨x0, x1, x2, xf⟩ := HG.out.be.box
      rw [HU.out.now] at x0
      have HS := hid (fu_step HU.out hk hlt ⟨h5, h6⟩)
      go_wp2_with fail
      refine (CR.out _ HG.out.be.has HG.out.be.box.lt 0 HS.out.1).mono ?_
      rintro r v ⟨z', rfl, hz, b⟩
      have HP := hid (((HG.out.below b).put HS.out.2.now hz).below (alloc_below _ (.cells #[.int .i64 1, .slice z'.p.o z'.p.n z'.p.c, .slice z'.l.o z'.l.n z'.l.c] 25)))
      replace HG := hid (HG.out.below b)
      clear x0 x1 x2 xf hz b
      obtain ⟨x0, x1, x2, xf⟩ := HG.out.be.box
      have hltB : B < v.heap.size := HG.out.be.box.lt
      go_wp2_with (first | (go_at_call 17; refine (num_any _ _).mono ?_; rintro r w8 ⟨rfl, hw⟩; rw [hw]; clear hw w8))
      go_roundw
      case rel => exact ⟨j + 1, z', _, by omega, by go_num, HP, HS.out.2⟩
      case measure => simp [intOf]; omega
    · obtain rfl : j = 8 := by omega
      obtain ⟨x0, x1, x2, xf⟩ := HG.out.be.box
      rw [HU.out.now] at x0
      have HS := hid (fu_full HU.out hk ⟨h5, h6⟩)
      have HR := hid (fu_room HU.out hk ⟨h5, h6⟩)
      obtain ⟨d, hd, hdn⟩ : ∃ d : Nat, ((k : Int) + 1).tmod n = (d : Int) ∧ d < n.toNat := ⟨((((k : Int) + 1).tmod n)).toNat, by rw [Int.toNat_of_nonneg (Int.tmod_nonneg _ (by omega))], by have := Int.tmod_lt_of_pos ((k : Int) + 1) (show 0 < n by omega); have := Int.tmod_nonneg n (show 0 ≤ (k : Int) + 1 by omega); omega⟩
      go_wp2_with fail
      refine (CR.out _ HG.out.be.has HG.out.be.box.lt 5 HS.out.1).mono ?_
      rintro r v ⟨z', rfl, hz, b⟩
      rw [HS.out.2.1] at hz
      replace HG := hid (HG.out.below b)
      clear x0 x1 x2 xf
      obtain ⟨x0, x1, x2, xf⟩ := HG.out.be.box
      rw [HU.out.now] at x0
      have hltB : B < v.heap.size := HG.out.be.box.lt
      have HX := hid (be_at HU.out.now 25 (hz.less (Av' := No) (fun _ s => s.elim)))
      have HG2 := hid (HG.out.below (alloc_below v (.cells #[.int .i64 1, .slice z'.p.o z'.p.n z'.p.c, .slice z'.l.o z'.l.n z'.l.c] 25)))
      clear hz b
      go_wp2_with fail
      clear x0 x1 x2 xf hltB HG
      generalize v.heap.size = X at HX ⊢
      generalize v.alloc (.cells #[.int .i64 1, .slice z'.p.o z'.p.n z'.p.c, .slice z'.l.o z'.l.n z'.l.c] 25) = W2 at HX HG2 ⊢
      clear v
      obtain ⟨q, hq, hq2⟩ : ∃ q, reE f (d : Int) ob = q ∧ (q == 0) = ((d : Int) != (k : Int)) := by
        by_cases e : d = k
        · subst e; exact ⟨5, HS.out.1, by simp⟩
        · exact ⟨0, HS.out.2.2 d hdn e, by simp; omega⟩
      refine (k_re K (e := f) (n := 1) (c := d) (ob := ob) (q := q) (f := reA f d ob) HU.out.now hq rfl z No _ (no_lt _) (sm_ok HU.out.zr.ok) (HG2.out.be.has.less (fun _ s => s.elim))).mono ?_
      rintro r v ⟨z'', rfl, hz, b⟩
      clear hz hq
      replace HG2 := hid (HG2.out.below b)
      replace HX := hid (HX.out.below b)
      clear b W2
      have HV := hid (HG2.out.below (alloc_below v (.cells #[.int .i64 1, .slice z''.p.o z''.p.n z''.p.c, .slice z''.l.o z''.l.n z''.l.c] 25)))
      have HY := hid (HX.out.below (alloc_below v (.cells #[.int .i64 1, .slice z''.p.o z''.p.n z''.p.c, .slice z''.l.o z''.l.n z''.l.c] 25)))
      clear HG2 HX
      go_wp2_with fail
      generalize v.heap.size = Y at ⊢
      generalize v.alloc (.cells #[.int .i64 1, .slice z''.p.o z''.p.n z''.p.c, .slice z''.l.o z''.l.n z''.l.c] 25) = W2 at HV HY ⊢
      clear v
      obtain ⟨x0, x1, x2, xf⟩ := HV.out.be.box
      obtain ⟨a0, a1, a2, af⟩ := HY.out.box
      rw [HU.out.now] at x0 a0
      refine (num_any _ _).mono ?_
      rintro r w' ⟨rfl, hw⟩
      rw [hw]
      clear hw w'
      go_wp2_with fail
      refine (k_same K (e := f) (f := f) (b := true) HU.out.now HU.out.now (same_iff.2 rfl) _ _ _ _ _ (sm_ok HU.out.zr.ok) (sm_ok HU.out.zr.ok) HY.out.has HV.out.be.has).mono ?_
      rintro r v ⟨rfl, b⟩
      replace HV := hid (HV.out.below b)
      clear b x0 x1 x2 xf a0 a1 a2 af HY W2
      obtain ⟨x0, x1, x2, xf⟩ := HV.out.be.box
      rw [HU.out.now] at x0
      go_wp2_with (first | (go_at_call 17; refine (num_any _ _).mono ?_; rintro r w8 ⟨rfl, hw⟩; rw [hw]; clear hw w8))
      have HM : Hid ((adA f).now = 2 ∧ Ok (adA f)) := by
        obtain ⟨a1, a2, a3⟩ := zr_ad HU.out.zr (by rw [HU.out.now]; decide)
        exact ⟨by rw [a2, HU.out.now]; rfl, a3.ok⟩
      refine (k_ad K (e := f) (n := 1) (m := 2) (f := adA f) HU.out.now HM.out.1 rfl rfl z (fun i => False ∨ i = B) _ (av_lt HV.out.be.box) (sm_ok HU.out.zr.ok) HV.out.be.has).mono ?_
      obtain ⟨A1, hA1⟩ : ∃ A, adA f = A := ⟨_, rfl⟩
      obtain ⟨A2, hA2⟩ : ∃ A, rpA A1 (k : Int) = A := ⟨_, rfl⟩
      obtain ⟨A3, hA3⟩ : ∃ A, adA A2 = A := ⟨_, rfl⟩
      obtain ⟨A4, hA4⟩ : ∃ A, rpA A3 (k : Int) = A := ⟨_, rfl⟩
      obtain ⟨m, hm⟩ : ∃ m, A3.now = m := ⟨_, rfl⟩
      rw [hA1] at HM ⊢
      rw [hA1, hA2, hA3, hA4] at HR
      have HO : Hid (A2.now = 2 ∧ Ok A2 ∧ Ok A3 ∧ Ok A4 ∧ A4.now = m) := by
        have o2 : Ok A2 := hA2 ▸ ok_rp _ HM.out.2
        have o3 : Ok A3 := hA3 ▸ ok_ad o2
        exact ⟨by rw [← hA2, now_rp]; exact HM.out.1, o2, o3, hA4 ▸ ok_rp _ o3, by rw [← hA4, now_rp]; exact hm⟩
      have R1 := hid (fun (W : World) (y : WE) (B : Nat) (hb : B < W.heap.size) (h : HasE W (fun i => False ∨ i = B) y A1) => k_rp K (e := A1) (n := 2) (c := k) (l := []) (k := 0) (f := A2) HM.out.1 HR.out.1 rfl hA2 y (fun i => False ∨ i = B) W (fun i s => by rcases s with s | s; exact s.elim; exact s ▸ hb) (sm_ok HM.out.2) h)
      have R2 := hid (fun (W : World) (y : WE) (B : Nat) (hb : B < W.heap.size) (h : HasE W (fun i => False ∨ i = B) y A2) => k_ad K (e := A2) (n := 2) (m := m) (b := adB A2) (f := A3) HO.out.1 (by rw [hA3]; exact hm) rfl hA3 y (fun i => False ∨ i = B) W (fun i s => by rcases s with s | s; exact s.elim; exact s ▸ hb) (sm_ok HO.out.2.1) h)
      have R3 := hid (fun (W : World) (y : WE) (h : HasE W No y A3) => k_rp K (e := A3) (n := m) (c := k) (l := rpL A3 k) (k := 8) (f := A4) hm rfl HR.out.2.1 hA4 y No W (no_lt W) (sm_ok HO.out.2.2.1) h)
      have R4 := hid (fun (W : World) (y : WE) (h : HasE W No y A4) => k_re K (e := A4) (n := m) (c := k) (ob := ob) (q := 0) (f := reA A4 k ob) HO.out.2.2.2.2 HR.out.2.2 rfl y No W (no_lt W) (sm_ok HO.out.2.2.2.1) h)
      have HM3 := hid hm
      clear hA1 hA2 hA3 hA4 hm HR HS CR
      generalize adB A2 = t2 at R2
      generalize adB f = t1
      rintro r u ⟨z1, rfl, hz, b⟩
      replace HV := hid (HV.out.below b)
      have HP := hid (HV.out.put HM.out.1 hz)
      clear x0 x1 x2 xf hz b v
      obtain ⟨x0, x1, x2, xf⟩ := HV.out.be.box
      go_wp2_with fail
      clear x0 x1 x2 xf HV
      generalize (((u.setCell ⟨B, 0, none⟩ (.int .i64 2)).setCell ⟨B, 1, none⟩ (.slice z1.p.o z1.p.n z1.p.c)).setCell ⟨B, 2, none⟩ (.slice z1.l.o z1.l.n z1.l.c)) = W3 at HP ⊢
      clear u
      refine (R1.out _ _ B HP.out.be.box.lt HP.out.be.has).mono ?_
      rintro r v ⟨z2, o2, c2, rfl, hz, hl, ho, b⟩
      replace HP := hid ((HP.out.below b).below (alloc_below v (.cells #[.int .i64 2, .slice z2.p.o z2.p.n z2.p.c, .slice z2.l.o z2.l.n z2.l.c] 25)))
      have HZ := hid (hz.below (alloc_below v (.cells #[.int .i64 2, .slice z2.p.o z2.p.n z2.p.c, .slice z2.l.o z2.l.n z2.l.c] 25)))
      clear hz hl ho b W3
      go_wp2_with fail
      generalize v.heap.size = Y2 at ⊢
      generalize v.alloc (.cells #[.int .i64 2, .slice z2.p.o z2.p.n z2.p.c, .slice z2.l.o z2.l.n z2.l.c] 25) = W4 at HP HZ ⊢
      clear v
      refine (R2.out _ _ B HP.out.be.box.lt HZ.out).mono ?_
      rintro r u ⟨z3, rfl, hz, b⟩
      replace HP := hid (HP.out.below b)
      have HQ := hid (HP.out.put HM3.out hz)
      clear hz b HZ W4
      obtain ⟨x0, x1, x2, xf⟩ := HP.out.be.box
      go_wp2_with fail
      clear x0 x1 x2 xf HP
      generalize (((u.setCell ⟨B, 0, none⟩ (.int .i64 m)).setCell ⟨B, 1, none⟩ (.slice z3.p.o z3.p.n z3.p.c)).setCell ⟨B, 2, none⟩ (.slice z3.l.o z3.l.n z3.l.c)) = W5 at HQ ⊢
      clear u
      refine (R3.out _ _ (HQ.out.be.has.less (fun _ s => s.elim))).mono ?_
      rintro r v ⟨z4, o4, c4, rfl, hz, hl, ho, b⟩
      have HZ := hid (hz.below (alloc_below v (.cells #[.int .i64 m, .slice z4.p.o z4.p.n z4.p.c, .slice z4.l.o z4.l.n z4.l.c] 25)))
      have HLo := hid (q_alloc (q_trans HQ.out.low b) (.cells #[.int .i64 m, .slice z4.p.o z4.p.n z4.p.c, .slice z4.l.o z4.l.n z4.l.c] 25))
      clear hz hl ho b W5 HQ
      go_wp2_with fail
      generalize v.heap.size = Y3 at ⊢
      generalize v.alloc (.cells #[.int .i64 m, .slice z4.p.o z4.p.n z4.p.c, .slice z4.l.o z4.l.n z4.l.c] 25) = W6 at HZ HLo ⊢
      clear v
      refine (R4.out _ _ HZ.out).mono ?_
      rintro r v ⟨z5, rfl, hz, b⟩
      replace HLo := hid (q_alloc (q_trans HLo.out b) (.cells #[.int .i64 m, .slice z5.p.o z5.p.n z5.p.c, .slice z5.l.o z5.l.n z5.l.c] 25))
      clear hz b HZ W6
      go_wp2_with (first | (go_at_call 17; refine (num_any _ _).mono ?_; rintro r w8 ⟨rfl, hw⟩; rw [hw]; clear hw w8))
      refine (live_any K _).mono ?_
      rintro r w' ⟨rfl, bl⟩
      have HBl := hid (q_trans HLo.out bl)
      clear bl
      go_wp2_with fail
      go_ret
      exact ⟨rfl, HBl.out⟩
set_option maxRecDepth 100000 in
set_option maxHeartbeats 4000000 in
/-- EPOCHFULL IS TRUE. -/
theorem full_any (K : Con) (n c ob : Int) (w : World) :
    Calls Try.prog 8 #[.int .i64 n, .int .i64 c, .int .i64 ob] w fun r w' => r = .returned (.bool true) ∧ Below w.heap.size w w' := by
  by_cases h0 : 1 ≤ n
  · skip
    by_cases h1 : n ≤ 64
    · skip
      by_cases h2 : 0 ≤ c
      · skip
        by_cases h3 : c < n
        · skip
          by_cases h4 : 0 ≤ ob
          · skip
            by_cases h5 : ob ≤ 63
            · skip
              obtain ⟨k, rfl⟩ : ∃ k : Nat, c = (k : Int) := ⟨c.toNat, by omega⟩
              exact full_in K n ob k w h0 h1 h3 h4 h5
            · skip
              go_enter Try.func8, Try.ntmps8
              go_wp2_with fail
              refine (live_any K _).mono ?_
              rintro r w' ⟨rfl, bl⟩
              have HBl := hid bl
              clear bl
              go_wp2_with fail
              go_ret
              exact ⟨rfl, HBl.out⟩
          · skip
            go_enter Try.func8, Try.ntmps8
            go_wp2_with fail
            refine (live_any K _).mono ?_
            rintro r w' ⟨rfl, bl⟩
            have HBl := hid bl
            clear bl
            go_wp2_with fail
            go_ret
            exact ⟨rfl, HBl.out⟩
        · skip
          go_enter Try.func8, Try.ntmps8
          go_wp2_with fail
          refine (live_any K _).mono ?_
          rintro r w' ⟨rfl, bl⟩
          have HBl := hid bl
          clear bl
          go_wp2_with fail
          go_ret
          exact ⟨rfl, HBl.out⟩
      · skip
        go_enter Try.func8, Try.ntmps8
        go_wp2_with fail
        refine (live_any K _).mono ?_
        rintro r w' ⟨rfl, bl⟩
        have HBl := hid bl
        clear bl
        go_wp2_with fail
        go_ret
        exact ⟨rfl, HBl.out⟩
    · skip
      go_enter Try.func8, Try.ntmps8
      go_wp2_with fail
      refine (live_any K _).mono ?_
      rintro r w' ⟨rfl, bl⟩
      have HBl := hid bl
      clear bl
      go_wp2_with fail
      go_ret
      exact ⟨rfl, HBl.out⟩
  · skip
    go_enter Try.func8, Try.ntmps8
    go_wp2_with fail
    refine (live_any K _).mono ?_
    rintro r w' ⟨rfl, bl⟩
    have HBl := hid bl
    clear bl
    go_wp2_with fail
    go_ret
    exact ⟨rfl, HBl.out⟩
end Go.Proofs.Ytejghoncihdfkaa.Ep
