/- ArenaAll: the cores can take all places there are, each once, and no more. -/
import Derived.Test.YtnagpedkmfmniaaArActs
import Derived.Test.YtnagpedkmfmniaaArAll0
namespace Go.Proofs.Ytnagpedkmfmniaa.Ar
open Go.RowKit Go.Proofs.Ytnagpedkmfmniaa.Ha

/-- The thing's box, and the arena's. -/
structure Al (w W : World) (b : Nat) (y : Wh) (a : Ar) (t : Th) : Prop where
  low : Below w.heap.size w W
  tb : InT W w.heap.size t
  bo : Ba W b y a
  gt : w.heap.size < b
theorem Al.below {w W W' : World} {b : Nat} {y : Wh} {a : Ar} {t : Th} (h : Al w W b y a t) (k : Below W.heap.size W W') : Al w W' b y a t := ⟨q_trans h.low k, h.tb.below k, h.bo.below k, h.gt⟩
theorem Al.set {w W : World} {b : Nat} {y z : Wh} {a a' : Ar} {t : Th} (h : Al w W b y a t) (hz : HasO W z a') : Al w ((W.setCell ⟨b, 0, none⟩ (.slice z.t.o z.t.n z.t.c)).setCell ⟨b, 1, none⟩ (.slice z.f.o z.f.n z.f.c)) b z a' t :=
  ⟨low_put h.low (Nat.le_of_lt h.gt), h.tb.kept (kept_two W b _ _) (Nat.ne_of_lt h.gt), ba_set h.bo.blk hz, h.gt⟩
theorem live_end {w W : World} (h : Below w.heap.size w W) : Calls Try.prog 10 #[] W fun e w' => e = .returned (.bool true) ∧ Below w.heap.size w w' := (live9_any W).mono fun _ _ ⟨h1, h2⟩ => ⟨h1, q_trans h h2⟩
set_option maxRecDepth 100000 in
set_option maxHeartbeats 8000000 in
theorem all_in (n m : Nat) (t : Th) (w : World) (h1 : (1 : Int) ≤ (n : Int)) (h2 : (n : Int) ≤ 64) (h3 : (1 : Int) ≤ (m : Int)) (h4 : (m : Int) ≤ 64) (h5 : 1 ≤ t.ty) (h6 : t.ty ≤ 5) :
    Calls Try.prog 8 #[.int .i64 n, .int .i64 m, (.agg #[.int .i64 t.ty, .int .i64 t.gen, .int .i64 t.refs, .int .i64 t.st, .int .i64 t.sz, .int .i64 t.wa, .int .i64 t.fm, .int .i64 t.va])] w fun e w' => e = .returned (.bool true) ∧ Below w.heap.size w w' := by
  have HLT : Hid (liveT t = true) := live_iff.2 ⟨h5, h6⟩
  go_enter Try.func8, Try.ntmps8
  go_wp2_with fail
  refine (new_yes n m _ h1 h2 h3 h4).mono ?_
  rintro e w1 ⟨y, rfl, hy, b1⟩
  have HA := hid ((⟨q_alloc (q_trans (alloc_below w _) b1) _, ((inT_new w t 40).below b1).below (alloc_below _ _), ba_new hy.has, ((inT_new w t 40).below b1).lt⟩ : Al w (w1.alloc (.cells #[.slice y.t.o y.t.n y.t.c, .slice y.f.o y.f.n y.f.c] 25)) w1.heap.size y (newA n m) t))
  have HN := hid (alls_start n m (by omega) (by omega) (by omega) (by omega))
  clear hy b1 h5 h6
  go_wp2_with fail
  generalize w1.alloc (.cells #[.slice y.t.o y.t.n y.t.c, .slice y.f.o y.f.n y.f.c] 25) = W at HA ⊢
  generalize w1.heap.size = b0 at HA ⊢
  refine (num_any 0 _).mono ?_
  rintro e w3 ⟨rfl, hw⟩; rw [hw]; clear hw w3
  go_wp2_with fail
  go_loopw [9, 10] (fun s9 s10 wr => ∃ (c k : Nat) (y : Wh) (a : Ar), c ≤ m ∧ s10 = .int .i64 c ∧ s9 = .int .i64 k ∧ k ≤ n ∧ Hid (Al w wr b0 y a t) ∧ Hid (All n m c 0 k a)) (fun _ s10 _ => m - (intOf s10).toNat)
  case atStart => exact ⟨0, 0, y, _, Nat.zero_le _, rfl, rfl, Nat.zero_le _, HA, HN⟩
  case round =>
    clear HA HN
    obtain ⟨c, k, y, a, hc, rfl, rfl, hk, HA, HN⟩ := hrel
    by_cases hlt : c < m
    · have i1 : (c : Int) < (m : Int) := by omega
      go_wp2_with fail
      have HLN := hid (len_newL n m c)
      go_loopw [9, 11] (fun s9 s11 wr => ∃ (i k : Nat) (y : Wh) (a : Ar), i ≤ n ∧ s11 = .int .i64 i ∧ s9 = .int .i64 k ∧ k ≤ n ∧ Hid (i ≤ (newL n m c).length) ∧ Hid (Al w wr b0 y a t) ∧ Hid (All n m c i k a)) (fun _ s11 _ => n + 1 - (intOf s11).toNat)
      case atStart => exact ⟨0, k, y, a, Nat.zero_le _, rfl, rfl, hk, Nat.zero_le _, HA, HN⟩
      case round =>
        clear HA HN
        obtain ⟨i, k, y, a, hi, rfl, rfl, hk, HI, HA, HN⟩ := hrel
        have i2 : (i : Int) ≤ (n : Int) := by omega
        obtain ⟨p0, p1, pf⟩ := HA.out.bo.inA
        obtain ⟨t0, t1, t2, t3, t4, t5, t6, t7, tf⟩ := HA.out.tb
        go_wp2_with fail
        refine (take_any y a (c : Int) t _ (small_of HN.out.ok) HA.out.bo.has).mono ?_
        rintro e w3 ⟨z, rfl, hz, b3⟩
        replace HA := hid ((HA.out.below b3).below (alloc_below _ (.cells #[.slice z.t.o z.t.n z.t.c, .slice z.f.o z.f.n z.f.c] 25)))
        have HZ := hid (bo_new hz)
        clear b3 hz p0 p1 pf t0 t1 t2 t3 t4 t5 t6 t7 tf
        by_cases hl : i < (newL n m c).length
        · obtain ⟨hE, ⟨p, hP, hpm, hpn, hs1, hs2⟩, hN2⟩ := alls_take HN.out hlt HLT.out hl
          have HN2 := hid hN2
          have HL2 : Hid (i + 1 ≤ (newL n m c).length) := hl
          have HK2 := hid (alls_le hN2)
          have HS1 := hid hs1
          have HS2 := hid hs2
          have hi2 : i + 1 ≤ n := by have := HLN.out; omega
          have hk2 : k + 1 ≤ n := HK2.out
          rw [hE, hP]
          have hrem : (p : Int).tmod (m : Int) = (c : Int) := by rw [← hpm]; rfl
          have m0 : ((m : Int) == 0) = false := bne_of (by omega)
          clear hE hP hpm hN2 hs1 hs2 hl
          go_wp2_with fail
          generalize w3.alloc (.cells #[.slice z.t.o z.t.n z.t.c, .slice z.f.o z.f.n z.f.c] 25) = W3 at HA HZ ⊢
          generalize w3.heap.size = c3 at HZ ⊢
          refine (num_any 0 _).mono ?_
          rintro e w4 ⟨rfl, hw⟩; rw [hw]; clear hw w4
          obtain ⟨p0, p1, pf⟩ := HA.out.bo.inA
          go_wp2_with fail
          refine (state_any y a (p : Int) _ HN.out.ok HA.out.bo.has).mono ?_
          rintro e v1 ⟨rfl, k1⟩
          rw [HS1.out, show stT 3 = ⟨#[102, 114, 101, 101]⟩ from rfl]
          replace HA := hid (HA.out.below k1)
          replace HZ := hid (HZ.out.below k1)
          clear k1 p0 p1 pf
          obtain ⟨p0, p1, pf⟩ := HZ.out.box
          go_wp2_with fail
          refine (state_any z _ (p : Int) _ HN2.out.ok HZ.out.has.has).mono ?_
          rintro e v2 ⟨rfl, k1⟩
          rw [HS2.out, show stT 1 = ⟨#[108, 105, 118, 101]⟩ from rfl]
          replace HA := hid (HA.out.below k1)
          replace HZ := hid (HZ.out.below k1)
          clear k1 p0 p1 pf
          obtain ⟨p0, p1, pf⟩ := HZ.out.box
          obtain ⟨q0, q1, qf⟩ := HA.out.bo.inA
          have HF := hid (HA.out.set HZ.out.has)
          go_wp2_with fail
          go_roundw
          case rel => exact ⟨i + 1, k + 1, z, _, hi2, by go_num, by go_num, hk2, HL2, HF, HN2⟩
          case measure => simp [intOf]; omega
        · have hE := (alls_full HN.out hlt HLT.out (by omega)).1
          have HN2 := hid (alls_full HN.out hlt HLT.out (by omega)).2
          have hP : takeP a (c : Int) t = 0 := takeP_no (by rw [hE]; decide)
          have HAA : Hid (takeA a (c : Int) t = a) := takeA_no (by rw [hE]; decide)
          rw [hE, hP]
          clear hE hP hl
          go_wp2_with fail
          generalize w3.alloc (.cells #[.slice z.t.o z.t.n z.t.c, .slice z.f.o z.f.n z.f.c] 25) = W3 at HA HZ ⊢
          generalize w3.heap.size = c3 at HZ ⊢
          refine (num_any 5 _).mono ?_
          rintro e w4 ⟨rfl, hw⟩; rw [hw]; clear hw w4
          go_wp2_with fail
          refine (num_any 5 _).mono ?_
          rintro e w4 ⟨rfl, hw⟩; rw [hw]; clear hw w4
          obtain ⟨p0, p1, pf⟩ := HZ.out.box
          obtain ⟨q0, q1, qf⟩ := HA.out.bo.inA
          go_wp2_with fail
          refine (rsame_yes y z a _ (small_of HN.out.ok) HA.out.bo.has (by have := HZ.out.has.has; rwa [HAA.out] at this)).mono ?_
          rintro e v2 ⟨rfl, k2⟩
          replace HA := hid (HA.out.below k2)
          clear k2 p0 p1 pf q0 q1 qf
          go_wp2_with fail
          go_roundw
          case rel => exact ⟨c + 1, k, y, a, by omega, by go_num, rfl, hk, HA, HN2⟩
          case measure => simp [intOf]; omega
    · obtain rfl : c = m := by omega
      obtain rfl := alls_end HN.out (by omega)
      go_wp2_with fail
      refine (live_end HA.out.low).mono ?_
      rintro e v2 ⟨rfl, k2⟩
      go_wp2_with fail
      go_ret
      exact ⟨rfl, k2⟩
set_option maxHeartbeats 1000000 in
theorem all_any (x y : Int) (t : Th) (w : World) :
    Calls Try.prog 8 #[.int .i64 x, .int .i64 y, (.agg #[.int .i64 t.ty, .int .i64 t.gen, .int .i64 t.refs, .int .i64 t.st, .int .i64 t.sz, .int .i64 t.wa, .int .i64 t.fm, .int .i64 t.va])] w fun e w' => e = .returned (.bool true) ∧ Below w.heap.size w w' := by
  by_cases h1 : 1 ≤ x
  · by_cases h2 : x ≤ 64
    · by_cases h3 : 1 ≤ y
      · by_cases h4 : y ≤ 64
        · by_cases h5 : 1 ≤ t.ty
          · by_cases h6 : t.ty ≤ 5
            · obtain ⟨n, rfl⟩ : ∃ n : Nat, x = (n : Int) := ⟨x.toNat, by omega⟩
              obtain ⟨m, rfl⟩ : ∃ m : Nat, y = (m : Int) := ⟨y.toNat, by omega⟩
              exact all_in n m t w h1 h2 h3 h4 h5 h6
            · go_enter Try.func8, Try.ntmps8
              go_wp2_with fail
              refine (live_end (alloc_below w _)).mono ?_
              rintro e v2 ⟨rfl, k2⟩
              go_wp2_with fail
              go_ret
              exact ⟨rfl, k2⟩
          · go_enter Try.func8, Try.ntmps8
            go_wp2_with fail
            refine (live_end (alloc_below w _)).mono ?_
            rintro e v2 ⟨rfl, k2⟩
            go_wp2_with fail
            go_ret
            exact ⟨rfl, k2⟩
        · go_enter Try.func8, Try.ntmps8
          go_wp2_with fail
          refine (live_end (alloc_below w _)).mono ?_
          rintro e v2 ⟨rfl, k2⟩
          go_wp2_with fail
          go_ret
          exact ⟨rfl, k2⟩
      · go_enter Try.func8, Try.ntmps8
        go_wp2_with fail
        refine (live_end (alloc_below w _)).mono ?_
        rintro e v2 ⟨rfl, k2⟩
        go_wp2_with fail
        go_ret
        exact ⟨rfl, k2⟩
    · go_enter Try.func8, Try.ntmps8
      go_wp2_with fail
      refine (live_end (alloc_below w _)).mono ?_
      rintro e v2 ⟨rfl, k2⟩
      go_wp2_with fail
      go_ret
      exact ⟨rfl, k2⟩
  · go_enter Try.func8, Try.ntmps8
    go_wp2_with fail
    refine (live_end (alloc_below w _)).mono ?_
    rintro e v2 ⟨rfl, k2⟩
    go_wp2_with fail
    go_ret
    exact ⟨rfl, k2⟩
end Go.Proofs.Ytnagpedkmfmniaa.Ar
