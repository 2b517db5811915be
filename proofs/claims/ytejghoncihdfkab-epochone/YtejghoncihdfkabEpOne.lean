/- What EpochOne does, over the program's contracts. -/
import Derived.Test.YtejghoncihdfkabEpSteps
namespace Go.Proofs.Ytejghoncihdfkab.Ep
open Go.RowKit

/-- What comes of one core that is pinned. -/
structure OneF (n c : Int) (A0 A1 A2 A4 A5 A6 : E) : Prop where
  new : (newA n).now = 1 ∧ newE n = 0 ∧ newA n = A0
  pin : A0.now = 1 ∧ pinE A0 c = 0 ∧ pinA A0 c = A1
  there : A1.now = 1 ∧ pinE A1 c = 8 ∧ pinA A1 c = A1
  ad : A1.now = 1 ∧ (adA A1).now = 2 ∧ adB A1 = true ∧ adA A1 = A2
  stuck : A2.now = 2 ∧ (adA A2).now = 2 ∧ adB A2 = false ∧ adA A2 = A2
  un : A2.now = 2 ∧ unE A2 c = 0 ∧ unA A2 c = A4
  none : A4.now = 2 ∧ unE A4 c = 7 ∧ unA A4 c = A4
  again : A4.now = 2 ∧ pinE A4 c = 0 ∧ pinA A4 c = A5
  last : A5.now = 2 ∧ (adA A5).now = 3 ∧ adB A5 = true ∧ adA A5 = A6
  end_ : A6.now = 3
  s0 : Sm A0
  s1 : Sm A1
  s2 : Sm A2
  s4 : Sm A4
  s5 : Sm A5
theorem one_facts {n c : Int} (h1 : 1 ≤ n) (h2 : n ≤ 64) (h3 : 0 ≤ c) (h4 : c < n) : ∃ A0 A1 A2 A4 A5 A6, OneF n c A0 A1 A2 A4 A5 A6 := by
  obtain ⟨k, rfl⟩ : ∃ k : Nat, c = (k : Int) := ⟨c.toNat, by omega⟩
  have hk : k < n.toNat := by omega
  have hn : newE n = 0 := if_pos ⟨h1, h2⟩
  have w0 : (newA n).now = 1 := by rw [show newA n = ⟨1, List.replicate n.toNat 0, List.replicate n.toNat []⟩ from if_pos ⟨h1, h2⟩]
  have o0 := on_start k hn
  obtain ⟨p0, o1, w1⟩ := on_pin o0 hk
  rw [w0] at o1 w1
  have t1 := on_there o1 hk (by decide)
  have u1 : pinA (pinA (newA n) k) k = pinA (newA n) k := by rw [pinA, if_neg (by rw [t1]; decide)]
  obtain ⟨a1, o2, w2⟩ := on_ad o1 (by rw [w1]; decide) (.inr (by rw [w1]))
  rw [w1] at w2
  obtain ⟨a2, e2⟩ := on_stuck o2 hk (by decide) (by rw [w2]; decide)
  obtain ⟨p3, o3, w3⟩ := on_un o2 hk (by decide)
  rw [w2] at w3
  have t3 := on_none o3 hk
  have u3 : unA (unA (adA (pinA (newA n) k)) k) k = unA (adA (pinA (newA n) k)) k := by rw [unA, if_neg (by rw [t3]; decide)]
  obtain ⟨p4, o4, w4⟩ := on_pin o3 hk
  rw [w3] at o4 w4
  obtain ⟨a5, o5, w5⟩ := on_ad o4 (by rw [w4]; decide) (.inr (by rw [w4]))
  rw [w4] at w5
  exact ⟨_, _, _, _, _, _, ⟨w0, hn, rfl⟩, ⟨w0, p0, rfl⟩, ⟨w1, t1, u1⟩, ⟨w1, w2, a1, rfl⟩, ⟨w2, by rw [e2]; exact w2, a2, e2⟩, ⟨w2, p3, rfl⟩, ⟨w3, t3, u3⟩, ⟨w3, p4, rfl⟩, ⟨w4, w5, a5, rfl⟩, w5, sm_ok o0.ok, sm_ok o1.ok, sm_ok o2.ok, sm_ok o3.ok, sm_ok o4.ok⟩
theorem be_at {w : World} {Av : Nat → Prop} {y : WE} {e : E} {n : Int} (h : e.now = n) (T : TypeId) (hh : HasE w Av y e) : Be (w.alloc (.cells #[.int .i64 n, .slice y.p.o y.p.n y.p.c, .slice y.l.o y.l.n y.l.c] T)) Av w.heap.size y e := by subst h; exact be_new T hh
theorem put_at {w : World} {Av : Nat → Prop} {b : Nat} {y z : WE} {e f : E} {n : Int} (hn : f.now = n) (h : Be w Av b y e) (hz : HasE w (fun i => Av i ∨ i = b) z f) : Be (((w.setCell ⟨b, 0, none⟩ (.int .i64 n)).setCell ⟨b, 1, none⟩ (.slice z.p.o z.p.n z.p.c)).setCell ⟨b, 2, none⟩ (.slice z.l.o z.l.n z.l.c)) Av b z f := by subst hn; exact h.put hz
set_option maxRecDepth 100000 in
set_option maxHeartbeats 4000000 in
theorem one_in (K : Con) (n c : Int) (w : World) (h1 : 1 ≤ n) (h2 : n ≤ 64) (h3 : 0 ≤ c) (h4 : c < n) :
    Calls Try.prog 3 #[.int .i64 n, .int .i64 c] w fun r w' => r = .returned (.bool true) ∧ Below w.heap.size w w' := by
  obtain ⟨A0, A1, A2, A4, A5, A6, hF⟩ := one_facts h1 h2 h3 h4
  have C0 := hid (fun (W : World) => k_new K (n := n) (m := 1) (q := 0) (f := A0) hF.new.1 hF.new.2.1 hF.new.2.2 (fun _ => False) W (fun _ h => h.elim))
  have C1 := hid (fun (W : World) (B : Nat) (y : WE) (h : Be W (fun _ => False) B y A0) => k_pin K (e := A0) (f := A1) (c := c) hF.pin.1 hF.pin.2.1 hF.pin.2.2 y (fun i => False ∨ i = B) W (av_lt h.box) hF.s0 h.has)
  have C2 := hid (fun (W : World) (B : Nat) (y : WE) (h : Be W (fun _ => False) B y A1) => k_pin K (e := A1) (f := A1) (c := c) hF.there.1 hF.there.2.1 hF.there.2.2 y (fun i => False ∨ i = B) W (av_lt h.box) hF.s1 h.has)
  have C3 := hid (fun (W : World) (B : Nat) (y : WE) (h : Be W (fun _ => False) B y A1) => k_ad K (e := A1) (f := A2)  hF.ad.1 hF.ad.2.1 hF.ad.2.2.1 hF.ad.2.2.2 y (fun i => False ∨ i = B) W (av_lt h.box) hF.s1 h.has)
  have C4 := hid (fun (W : World) (B : Nat) (y : WE) (h : Be W (fun _ => False) B y A2) => k_ad K (e := A2) (f := A2)  hF.stuck.1 hF.stuck.2.1 hF.stuck.2.2.1 hF.stuck.2.2.2 y (fun i => False ∨ i = B) W (av_lt h.box) hF.s2 h.has)
  have C5 := hid (fun (W : World) (B : Nat) (y : WE) (h : Be W (fun _ => False) B y A2) => k_un K (e := A2) (f := A4) (c := c) hF.un.1 hF.un.2.1 hF.un.2.2 y (fun i => False ∨ i = B) W (av_lt h.box) hF.s2 h.has)
  have C6 := hid (fun (W : World) (B : Nat) (y : WE) (h : Be W (fun _ => False) B y A4) => k_un K (e := A4) (f := A4) (c := c) hF.none.1 hF.none.2.1 hF.none.2.2 y (fun i => False ∨ i = B) W (av_lt h.box) hF.s4 h.has)
  have C7 := hid (fun (W : World) (B : Nat) (y : WE) (h : Be W (fun _ => False) B y A4) => k_pin K (e := A4) (f := A5) (c := c) hF.again.1 hF.again.2.1 hF.again.2.2 y (fun i => False ∨ i = B) W (av_lt h.box) hF.s4 h.has)
  have C8 := hid (fun (W : World) (B : Nat) (y : WE) (h : Be W (fun _ => False) B y A5) => k_ad K (e := A5) (f := A6)  hF.last.1 hF.last.2.1 hF.last.2.2.1 hF.last.2.2.2 y (fun i => False ∨ i = B) W (av_lt h.box) hF.s5 h.has)
  have HN : Hid (A0.now = 1 ∧ A1.now = 1 ∧ A2.now = 2 ∧ A4.now = 2 ∧ A5.now = 2 ∧ A6.now = 3) := ⟨hF.pin.1, hF.there.1, hF.stuck.1, hF.none.1, hF.last.1, hF.end_⟩
  clear hF
  go_enter Try.func3, Try.ntmps3
  go_wp2_with fail
  refine (C0.out _).mono ?_
  rintro r w1 ⟨y, rfl, h0, b0⟩
  have HE := hid (be_at HN.out.1 26 h0)
  have HB0 : w.heap.size ≤ w1.heap.size := b0.size
  have HW := hid (q_alloc b0 (.cells #[.int .i64 1, .slice y.p.o y.p.n y.p.c, .slice y.l.o y.l.n y.l.c] 26))
  clear h0 b0
  go_wp2_with fail
  generalize w1.heap.size = B at HE HB0 ⊢
  generalize w1.alloc (.cells #[.int .i64 1, .slice y.p.o y.p.n y.p.c, .slice y.l.o y.l.n y.l.c] 26) = W at HE HW ⊢
  refine (C1.out _ _ _ HE.out).mono ?_
  rintro r v ⟨z, rfl, hz, b⟩
  replace HE := hid (HE.out.below b)
  replace HW := hid (q_trans HW.out b)
  have HP := hid (put_at HN.out.2.1 HE.out hz)
  have HV := hid (fin_lowR HW.out HB0 (.int .i64 1) (.slice z.p.o z.p.n z.p.c) (.slice z.l.o z.l.n z.l.c))
  obtain ⟨x0, x1, x2, xf⟩ := HE.out.box
  clear hz b
  go_wp2_with fail
  clear x0 x1 x2 xf HE HW W
  generalize (((v.setCell ⟨B, 0, none⟩ (.int .i64 1)).setCell ⟨B, 1, none⟩ (.slice z.p.o z.p.n z.p.c)).setCell ⟨B, 2, none⟩ (.slice z.l.o z.l.n z.l.c)) = W at HP HV ⊢
  have HE := HP
  have HW := HV
  clear HP HV v
  refine (C2.out _ _ _ HE.out).mono ?_
  rintro r v ⟨z, rfl, hz, b⟩
  replace HE := hid (HE.out.below b)
  replace HW := hid (q_trans HW.out b)
  obtain ⟨x0, x1, x2, xf⟩ := HE.out.box
  rw [HN.out.2.1] at x0
  have hlt : B < v.heap.size := HE.out.box.lt
  have HV := hid (HE.out.below (alloc_below v (.cells #[.int .i64 1, .slice z.p.o z.p.n z.p.c, .slice z.l.o z.l.n z.l.c] 26)))
  have HU := hid (q_alloc HW.out (.cells #[.int .i64 1, .slice z.p.o z.p.n z.p.c, .slice z.l.o z.l.n z.l.c] 26))
  clear hz b W
  go_wp2_with fail
  clear x0 x1 x2 xf hlt HE HW
  generalize v.heap.size = F at ⊢
  generalize v.alloc (.cells #[.int .i64 1, .slice z.p.o z.p.n z.p.c, .slice z.l.o z.l.n z.l.c] 26) = W at HV HU ⊢
  have HE := HV
  have HW := HU
  clear HV HU v
  refine (C3.out _ _ _ HE.out).mono ?_
  rintro r v ⟨z, rfl, hz, b⟩
  replace HE := hid (HE.out.below b)
  replace HW := hid (q_trans HW.out b)
  have HP := hid (put_at HN.out.2.2.1 HE.out hz)
  have HV := hid (fin_lowR HW.out HB0 (.int .i64 2) (.slice z.p.o z.p.n z.p.c) (.slice z.l.o z.l.n z.l.c))
  obtain ⟨x0, x1, x2, xf⟩ := HE.out.box
  clear hz b
  go_wp2_with fail
  clear x0 x1 x2 xf HE HW W
  generalize (((v.setCell ⟨B, 0, none⟩ (.int .i64 2)).setCell ⟨B, 1, none⟩ (.slice z.p.o z.p.n z.p.c)).setCell ⟨B, 2, none⟩ (.slice z.l.o z.l.n z.l.c)) = W at HP HV ⊢
  have HE := HP
  have HW := HV
  clear HP HV v
  refine (C4.out _ _ _ HE.out).mono ?_
  rintro r v ⟨z, rfl, hz, b⟩
  replace HE := hid (HE.out.below b)
  replace HW := hid (q_trans HW.out b)
  have HP := hid (put_at HN.out.2.2.1 HE.out hz)
  have HV := hid (fin_lowR HW.out HB0 (.int .i64 2) (.slice z.p.o z.p.n z.p.c) (.slice z.l.o z.l.n z.l.c))
  obtain ⟨x0, x1, x2, xf⟩ := HE.out.box
  clear hz b
  go_wp2_with fail
  clear x0 x1 x2 xf HE HW W
  generalize (((v.setCell ⟨B, 0, none⟩ (.int .i64 2)).setCell ⟨B, 1, none⟩ (.slice z.p.o z.p.n z.p.c)).setCell ⟨B, 2, none⟩ (.slice z.l.o z.l.n z.l.c)) = W at HP HV ⊢
  have HE := HP
  have HW := HV
  clear HP HV v
  refine (C5.out _ _ _ HE.out).mono ?_
  rintro r v ⟨z, rfl, hz, b⟩
  replace HE := hid (HE.out.below b)
  replace HW := hid (q_trans HW.out b)
  have HP := hid (put_at HN.out.2.2.2.1 HE.out hz)
  have HV := hid (fin_lowR HW.out HB0 (.int .i64 2) (.slice z.p.o z.p.n z.p.c) (.slice z.l.o z.l.n z.l.c))
  obtain ⟨x0, x1, x2, xf⟩ := HE.out.box
  clear hz b
  go_wp2_with fail
  clear x0 x1 x2 xf HE HW W
  generalize (((v.setCell ⟨B, 0, none⟩ (.int .i64 2)).setCell ⟨B, 1, none⟩ (.slice z.p.o z.p.n z.p.c)).setCell ⟨B, 2, none⟩ (.slice z.l.o z.l.n z.l.c)) = W at HP HV ⊢
  have HE := HP
  have HW := HV
  clear HP HV v
  refine (C6.out _ _ _ HE.out).mono ?_
  rintro r v ⟨z, rfl, hz, b⟩
  replace HE := hid (HE.out.below b)
  replace HW := hid (q_trans HW.out b)
  obtain ⟨x0, x1, x2, xf⟩ := HE.out.box
  rw [HN.out.2.2.2.1] at x0
  have hlt : B < v.heap.size := HE.out.box.lt
  have HV := hid (HE.out.below (alloc_below v (.cells #[.int .i64 2, .slice z.p.o z.p.n z.p.c, .slice z.l.o z.l.n z.l.c] 26)))
  have HU := hid (q_alloc HW.out (.cells #[.int .i64 2, .slice z.p.o z.p.n z.p.c, .slice z.l.o z.l.n z.l.c] 26))
  clear hz b W
  go_wp2_with fail
  clear x0 x1 x2 xf hlt HE HW
  generalize v.heap.size = F at ⊢
  generalize v.alloc (.cells #[.int .i64 2, .slice z.p.o z.p.n z.p.c, .slice z.l.o z.l.n z.l.c] 26) = W at HV HU ⊢
  have HE := HV
  have HW := HU
  clear HV HU v
  refine (C7.out _ _ _ HE.out).mono ?_
  rintro r v ⟨z, rfl, hz, b⟩
  replace HE := hid (HE.out.below b)
  replace HW := hid (q_trans HW.out b)
  have HP := hid (put_at HN.out.2.2.2.2.1 HE.out hz)
  have HV := hid (fin_lowR HW.out HB0 (.int .i64 2) (.slice z.p.o z.p.n z.p.c) (.slice z.l.o z.l.n z.l.c))
  obtain ⟨x0, x1, x2, xf⟩ := HE.out.box
  clear hz b
  go_wp2_with fail
  clear x0 x1 x2 xf HE HW W
  generalize (((v.setCell ⟨B, 0, none⟩ (.int .i64 2)).setCell ⟨B, 1, none⟩ (.slice z.p.o z.p.n z.p.c)).setCell ⟨B, 2, none⟩ (.slice z.l.o z.l.n z.l.c)) = W at HP HV ⊢
  have HE := HP
  have HW := HV
  clear HP HV v
  refine (C8.out _ _ _ HE.out).mono ?_
  rintro r v ⟨z, rfl, hz, b⟩
  replace HE := hid (HE.out.below b)
  replace HW := hid (q_trans HW.out b)
  have HP := hid (put_at HN.out.2.2.2.2.2 HE.out hz)
  have HV := hid (fin_lowR HW.out HB0 (.int .i64 3) (.slice z.p.o z.p.n z.p.c) (.slice z.l.o z.l.n z.l.c))
  obtain ⟨x0, x1, x2, xf⟩ := HE.out.box
  clear hz b
  go_wp2_with fail
  clear x0 x1 x2 xf HE HW W
  generalize (((v.setCell ⟨B, 0, none⟩ (.int .i64 3)).setCell ⟨B, 1, none⟩ (.slice z.p.o z.p.n z.p.c)).setCell ⟨B, 2, none⟩ (.slice z.l.o z.l.n z.l.c)) = W at HP HV ⊢
  have HE := HP
  have HW := HV
  clear HP HV v
  obtain ⟨x0, x1, x2, xf⟩ := HE.out.box
  rw [HN.out.2.2.2.2.2] at x0
  refine (num_any _ _).mono ?_
  rintro r w' ⟨rfl, hw⟩
  rw [hw]
  clear hw w'
  go_wp2_with (first | (go_at_call 9; refine (num_any _ _).mono ?_; rintro r w8 ⟨rfl, hw⟩; rw [hw]; clear hw w8))
  refine (live_any K _).mono ?_
  rintro r w' ⟨rfl, bl⟩
  have HBl := hid (q_trans HW.out bl)
  clear bl
  go_wp2_with fail
  go_ret
  exact ⟨rfl, HBl.out⟩
set_option maxRecDepth 100000 in
set_option maxHeartbeats 4000000 in
/-- EPOCHONE IS TRUE. -/
theorem one_any (K : Con) (n c : Int) (w : World) :
    Calls Try.prog 3 #[.int .i64 n, .int .i64 c] w fun r w' => r = .returned (.bool true) ∧ Below w.heap.size w w' := by
  by_cases h1 : 1 ≤ n
  · by_cases h2 : n ≤ 64
    · by_cases h3 : 0 ≤ c
      · by_cases h4 : c < n
        · exact one_in K n c w h1 h2 h3 h4
        · go_enter Try.func3, Try.ntmps3
          go_wp2_with fail
          refine (live_any K _).mono ?_
          rintro r w' ⟨rfl, bl⟩
          have HBl := hid bl
          clear bl
          go_wp2_with fail
          go_ret
          exact ⟨rfl, HBl.out⟩
      · go_enter Try.func3, Try.ntmps3
        go_wp2_with fail
        refine (live_any K _).mono ?_
        rintro r w' ⟨rfl, bl⟩
        have HBl := hid bl
        clear bl
        go_wp2_with fail
        go_ret
        exact ⟨rfl, HBl.out⟩
    · go_enter Try.func3, Try.ntmps3
      go_wp2_with fail
      refine (live_any K _).mono ?_
      rintro r w' ⟨rfl, bl⟩
      have HBl := hid bl
      clear bl
      go_wp2_with fail
      go_ret
      exact ⟨rfl, HBl.out⟩
  · go_enter Try.func3, Try.ntmps3
    go_wp2_with fail
    refine (live_any K _).mono ?_
    rintro r w' ⟨rfl, bl⟩
    have HBl := hid bl
    clear bl
    go_wp2_with fail
    go_ret
    exact ⟨rfl, HBl.out⟩
end Go.Proofs.Ytejghoncihdfkab.Ep
