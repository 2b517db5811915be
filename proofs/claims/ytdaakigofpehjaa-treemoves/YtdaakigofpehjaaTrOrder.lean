/- TreeOrder. -/
import Derived.Test.YtdaakigofpehjaaTrLive
import Derived.Test.YtdaakigofpehjaaTrGrown
namespace Go.Proofs.Ytdaakigofpehjaa.Tr
open Go.RowKit

/-- Three keys' boxes. -/
theorem three_keys (w : World) (a b c : P) (T : TypeId) (W : World) (h : ((w.alloc (.cells #[.int .i64 a.1, .int .i64 a.2] T)).alloc (.cells #[.int .i64 b.1, .int .i64 b.2] T)).alloc (.cells #[.int .i64 c.1, .int .i64 c.2] T) = W) : Below w.heap.size w W ∧ AtP W ⟨w.heap.size, 0, none⟩ a ∧ AtP W ⟨w.heap.size + 1, 0, none⟩ b ∧ AtP W ⟨w.heap.size + 1 + 1, 0, none⟩ c := by
  subst h
  refine ⟨q_alloc (q_alloc (alloc_below w _) _) _, ((at_new w a T).below (alloc_below _ _)).below (alloc_below _ _), (at_new2 w a b T).below (alloc_below _ _), ?_⟩
  have := at_new ((w.alloc (.cells #[.int .i64 a.1, .int .i64 a.2] T)).alloc (.cells #[.int .i64 b.1, .int .i64 b.2] T)) c T
  simp only [World.size_alloc] at this
  exact this
set_option maxHeartbeats 1600000 in
theorem order_long (ao : Option Addr) (n cap : Nat) (a b c : P) (w : World) (h : 60 < n) :
    Calls Try.prog 7 #[.slice ao n cap, (.agg #[.int .i64 a.1, .int .i64 a.2]), (.agg #[.int .i64 b.1, .int .i64 b.2]), (.agg #[.int .i64 c.1, .int .i64 c.2])] w fun e w' => e = .returned (.bool true) ∧ Below w.heap.size w w' := by
  have B0 := hid (q_alloc (q_alloc (alloc_below w (.cells #[.int .i64 a.1, .int .i64 a.2] 24)) (.cells #[.int .i64 b.1, .int .i64 b.2] 24)) (.cells #[.int .i64 c.1, .int .i64 c.2] 24))
  have i1 : (n : Int) > 60 := by omega
  clear h
  go_enter Try.func7, Try.ntmps7
  go_wp2_with (go_at_call 9; refine (live_any _).mono ?_; rintro e w2 ⟨rfl, b⟩)
  go_ret
  exact ⟨rfl, q_trans B0.out b⟩
set_option maxRecDepth 100000 in
set_option maxHeartbeats 8000000 in
theorem order_in (ao : Option Addr) (n cap : Nat) (l : List Ac) (a b c : P) (w : World) (hn : n ≤ 60) (HH : Hid (HasC w ao n cap l)) :
    Calls Try.prog 7 #[.slice ao n cap, (.agg #[.int .i64 a.1, .int .i64 a.2]), (.agg #[.int .i64 b.1, .int .i64 b.2]), (.agg #[.int .i64 c.1, .int .i64 c.2])] w fun e w' => e = .returned (.bool true) ∧ Below w.heap.size w w' := by
  have j1 : ¬ (n : Int) > 60 := by omega
  go_enter Try.func7, Try.ntmps7
  go_wp2_with fail
  obtain ⟨W, hW⟩ : ∃ W, ((w.alloc (.cells #[.int .i64 a.1, .int .i64 a.2] 24)).alloc (.cells #[.int .i64 b.1, .int .i64 b.2] 24)).alloc (.cells #[.int .i64 c.1, .int .i64 c.2] 24) = W := ⟨_, rfl⟩
  obtain ⟨b0, k0, k1, k2⟩ := three_keys w _ _ _ _ W hW
  rw [hW]
  have B := hid b0
  have K0 := hid k0
  have K1 := hid k1
  have K2 := hid k2
  clear hW b0 k0 k1 k2
  refine (grown_any ao n cap l W (by omega) (HH.out.below B.out)).mono ?_
  rintro e w0 ⟨to, tn, tc, rfl, hh, bb⟩
  have G := hid hh
  replace B := hid (q_trans B.out bb)
  replace K0 := hid (K0.out.below bb)
  replace K1 := hid (K1.out.below bb)
  replace K2 := hid (K2.out.below bb)
  clear hh bb
  obtain ⟨t, ht⟩ : ∃ t, gr l = t := ⟨_, rfl⟩
  have HTr : Hid (Tree t) := by unfold Hid; rw [← ht]; exact gr_tree l
  rw [ht] at G
  clear ht
  have hl : tn ≤ 1000 := by have h1 := G.out.len; have h2 := HTr.out.len; omega
  obtain ⟨a0, a1⟩ := K0.out
  obtain ⟨b0, b1⟩ := K1.out
  obtain ⟨c0, c1⟩ := K2.out
  go_wp2_with fail
  refine (ds_at (a := a) (b := a) false hl G.out (des_irr HTr.out a)).mono ?_
  rintro e w1 ⟨rfl, bb⟩
  replace B := hid (q_trans B.out bb)
  replace G := hid (G.out.below bb)
  replace K0 := hid (K0.out.below bb)
  replace K1 := hid (K1.out.below bb)
  replace K2 := hid (K2.out.below bb)
  clear a0 a1 b0 b1 c0 c1
  clear bb
  obtain ⟨a0, a1⟩ := K0.out
  obtain ⟨b0, b1⟩ := K1.out
  obtain ⟨c0, c1⟩ := K2.out
  rcases Bool.eq_false_or_eq_true (dsB t a b) with hx | hx
  · skip
    have HX := hid hx
    have HAn := hid (des_anti HTr.out hx)
    have hp : prB t a = true := by
      rcases Bool.eq_false_or_eq_true (prB t a) with hp | hp
      · exact hp
      · rw [par_no HTr.out hp b] at hx; cases hx
    clear hx
    go_wp2_with fail
    refine (ds_at (a := a) (b := b) true hl G.out HX.out).mono ?_
    rintro e w2 ⟨rfl, bb⟩
    replace B := hid (q_trans B.out bb)
    replace G := hid (G.out.below bb)
    replace K0 := hid (K0.out.below bb)
    replace K1 := hid (K1.out.below bb)
    replace K2 := hid (K2.out.below bb)
    clear a0 a1 b0 b1 c0 c1
    clear bb
    obtain ⟨a0, a1⟩ := K0.out
    obtain ⟨b0, b1⟩ := K1.out
    obtain ⟨c0, c1⟩ := K2.out
    go_wp2_with fail
    refine (ds_at (a := b) (b := a) false hl G.out HAn.out).mono ?_
    rintro e w3 ⟨rfl, bb⟩
    replace B := hid (q_trans B.out bb)
    replace G := hid (G.out.below bb)
    replace K0 := hid (K0.out.below bb)
    replace K1 := hid (K1.out.below bb)
    replace K2 := hid (K2.out.below bb)
    clear a0 a1 b0 b1 c0 c1
    clear bb
    obtain ⟨a0, a1⟩ := K0.out
    obtain ⟨b0, b1⟩ := K1.out
    obtain ⟨c0, c1⟩ := K2.out
    rcases Bool.eq_false_or_eq_true (dsB t b c) with hy | hy
    · skip
      have HY := hid hy
      have HZ := hid (des_trans HTr.out HX.out hy)
      clear hy
      go_wp2_with fail
      refine (ds_at (a := b) (b := c) true hl G.out HY.out).mono ?_
      rintro e w4 ⟨rfl, bb⟩
      replace B := hid (q_trans B.out bb)
      replace G := hid (G.out.below bb)
      replace K0 := hid (K0.out.below bb)
      replace K1 := hid (K1.out.below bb)
      replace K2 := hid (K2.out.below bb)
      clear a0 a1 b0 b1 c0 c1
      clear bb
      obtain ⟨a0, a1⟩ := K0.out
      obtain ⟨b0, b1⟩ := K1.out
      obtain ⟨c0, c1⟩ := K2.out
      go_wp2_with fail
      refine (ds_at (a := a) (b := c) true hl G.out HZ.out).mono ?_
      rintro e w5 ⟨rfl, bb⟩
      replace B := hid (q_trans B.out bb)
      replace G := hid (G.out.below bb)
      replace K0 := hid (K0.out.below bb)
      replace K1 := hid (K1.out.below bb)
      replace K2 := hid (K2.out.below bb)
      clear a0 a1 b0 b1 c0 c1
      clear bb
      obtain ⟨a0, a1⟩ := K0.out
      obtain ⟨b0, b1⟩ := K1.out
      obtain ⟨c0, c1⟩ := K2.out
      go_wp2_with fail
      refine (par_at (k := a) (prK t a) true hl G.out rfl hp).mono ?_
      rintro e w6 ⟨rfl, bb⟩
      replace B := hid (q_trans B.out bb)
      replace G := hid (G.out.below bb)
      replace K0 := hid (K0.out.below bb)
      replace K1 := hid (K1.out.below bb)
      replace K2 := hid (K2.out.below bb)
      clear a0 a1 b0 b1 c0 c1
      clear bb
      obtain ⟨a0, a1⟩ := K0.out
      obtain ⟨b0, b1⟩ := K1.out
      obtain ⟨c0, c1⟩ := K2.out
      have HPy := hid (par_yes HTr.out hp)
      obtain ⟨p, hpk⟩ : ∃ p, prK t a = p := ⟨_, rfl⟩
      rw [hpk] at HPy ⊢
      clear hpk hp
      have KP := hid (at_new w6 p 24)
      replace B := hid (q_alloc B.out (.cells #[.int .i64 p.1, .int .i64 p.2] 24))
      replace G := hid (G.out.below (alloc_below w6 (.cells #[.int .i64 p.1, .int .i64 p.2] 24)))
      replace K0 := hid (K0.out.below (alloc_below w6 (.cells #[.int .i64 p.1, .int .i64 p.2] 24)))
      replace K1 := hid (K1.out.below (alloc_below w6 (.cells #[.int .i64 p.1, .int .i64 p.2] 24)))
      replace K2 := hid (K2.out.below (alloc_below w6 (.cells #[.int .i64 p.1, .int .i64 p.2] 24)))
      clear a0 a1 b0 b1 c0 c1
      obtain ⟨a0, a1⟩ := K0.out
      obtain ⟨b0, b1⟩ := K1.out
      obtain ⟨c0, c1⟩ := K2.out
      obtain ⟨p0, p1⟩ := KP.out
      go_wp2_with fail
      generalize w6.heap.size = pb at KP p0 p1 ⊢
      generalize w6.alloc (.cells #[.int .i64 p.1, .int .i64 p.2] 24) = V at B G K0 K1 K2 KP a0 a1 b0 b1 c0 c1 p0 p1 ⊢
      skip
      refine (ds_at (a := a) (b := p) true hl G.out HPy.out.1).mono ?_
      rintro e w7 ⟨rfl, bb⟩
      replace B := hid (q_trans B.out bb)
      replace G := hid (G.out.below bb)
      replace K0 := hid (K0.out.below bb)
      replace K1 := hid (K1.out.below bb)
      replace K2 := hid (K2.out.below bb)
      replace KP := hid (KP.out.below bb)
      clear a0 a1 b0 b1 c0 c1 p0 p1
      clear bb
      obtain ⟨a0, a1⟩ := K0.out
      obtain ⟨b0, b1⟩ := K1.out
      obtain ⟨c0, c1⟩ := K2.out
      obtain ⟨p0, p1⟩ := KP.out
      go_wp2_with fail
      refine (ds_at (a := a) (b := b) true hl G.out HX.out).mono ?_
      rintro e w8 ⟨rfl, bb⟩
      replace B := hid (q_trans B.out bb)
      replace G := hid (G.out.below bb)
      replace K0 := hid (K0.out.below bb)
      replace K1 := hid (K1.out.below bb)
      replace K2 := hid (K2.out.below bb)
      replace KP := hid (KP.out.below bb)
      clear a0 a1 b0 b1 c0 c1 p0 p1
      clear bb
      obtain ⟨a0, a1⟩ := K0.out
      obtain ⟨b0, b1⟩ := K1.out
      obtain ⟨c0, c1⟩ := K2.out
      obtain ⟨p0, p1⟩ := KP.out
      by_cases he : b = p
      · skip
        have ee := eqk_yes he
        clear he
        go_wp2_with fail
        refine (live_any _).mono ?_
        rintro e wz ⟨rfl, bb⟩
        have BZ := hid (q_trans B.out bb)
        clear bb
        go_wp2_with fail
        go_ret
        exact ⟨rfl, BZ.out⟩
      · skip
        have HPb := hid ((HPy.out.2 b HX.out).resolve_left he)
        have ee := eqk_no he
        clear he
        go_wp2_with fail
        refine (ds_at (a := p) (b := b) true hl G.out HPb.out).mono ?_
        rintro e w9 ⟨rfl, bb⟩
        replace B := hid (q_trans B.out bb)
        replace G := hid (G.out.below bb)
        replace K0 := hid (K0.out.below bb)
        replace K1 := hid (K1.out.below bb)
        replace K2 := hid (K2.out.below bb)
        replace KP := hid (KP.out.below bb)
        clear a0 a1 b0 b1 c0 c1 p0 p1
        clear bb
        obtain ⟨a0, a1⟩ := K0.out
        obtain ⟨b0, b1⟩ := K1.out
        obtain ⟨c0, c1⟩ := K2.out
        obtain ⟨p0, p1⟩ := KP.out
        go_wp2_with fail
        refine (live_any _).mono ?_
        rintro e wz ⟨rfl, bb⟩
        have BZ := hid (q_trans B.out bb)
        clear bb
        go_wp2_with fail
        go_ret
        exact ⟨rfl, BZ.out⟩
    · skip
      have HY := hid hy
      clear hy
      go_wp2_with fail
      refine (ds_at (a := b) (b := c) false hl G.out HY.out).mono ?_
      rintro e w4 ⟨rfl, bb⟩
      replace B := hid (q_trans B.out bb)
      replace G := hid (G.out.below bb)
      replace K0 := hid (K0.out.below bb)
      replace K1 := hid (K1.out.below bb)
      replace K2 := hid (K2.out.below bb)
      clear a0 a1 b0 b1 c0 c1
      clear bb
      obtain ⟨a0, a1⟩ := K0.out
      obtain ⟨b0, b1⟩ := K1.out
      obtain ⟨c0, c1⟩ := K2.out
      go_wp2_with fail
      refine (par_at (k := a) (prK t a) true hl G.out rfl hp).mono ?_
      rintro e w5 ⟨rfl, bb⟩
      replace B := hid (q_trans B.out bb)
      replace G := hid (G.out.below bb)
      replace K0 := hid (K0.out.below bb)
      replace K1 := hid (K1.out.below bb)
      replace K2 := hid (K2.out.below bb)
      clear a0 a1 b0 b1 c0 c1
      clear bb
      obtain ⟨a0, a1⟩ := K0.out
      obtain ⟨b0, b1⟩ := K1.out
      obtain ⟨c0, c1⟩ := K2.out
      have HPy := hid (par_yes HTr.out hp)
      obtain ⟨p, hpk⟩ : ∃ p, prK t a = p := ⟨_, rfl⟩
      rw [hpk] at HPy ⊢
      clear hpk hp
      have KP := hid (at_new w5 p 24)
      replace B := hid (q_alloc B.out (.cells #[.int .i64 p.1, .int .i64 p.2] 24))
      replace G := hid (G.out.below (alloc_below w5 (.cells #[.int .i64 p.1, .int .i64 p.2] 24)))
      replace K0 := hid (K0.out.below (alloc_below w5 (.cells #[.int .i64 p.1, .int .i64 p.2] 24)))
      replace K1 := hid (K1.out.below (alloc_below w5 (.cells #[.int .i64 p.1, .int .i64 p.2] 24)))
      replace K2 := hid (K2.out.below (alloc_below w5 (.cells #[.int .i64 p.1, .int .i64 p.2] 24)))
      clear a0 a1 b0 b1 c0 c1
      obtain ⟨a0, a1⟩ := K0.out
      obtain ⟨b0, b1⟩ := K1.out
      obtain ⟨c0, c1⟩ := K2.out
      obtain ⟨p0, p1⟩ := KP.out
      go_wp2_with fail
      generalize w5.heap.size = pb at KP p0 p1 ⊢
      generalize w5.alloc (.cells #[.int .i64 p.1, .int .i64 p.2] 24) = V at B G K0 K1 K2 KP a0 a1 b0 b1 c0 c1 p0 p1 ⊢
      skip
      refine (ds_at (a := a) (b := p) true hl G.out HPy.out.1).mono ?_
      rintro e w6 ⟨rfl, bb⟩
      replace B := hid (q_trans B.out bb)
      replace G := hid (G.out.below bb)
      replace K0 := hid (K0.out.below bb)
      replace K1 := hid (K1.out.below bb)
      replace K2 := hid (K2.out.below bb)
      replace KP := hid (KP.out.below bb)
      clear a0 a1 b0 b1 c0 c1 p0 p1
      clear bb
      obtain ⟨a0, a1⟩ := K0.out
      obtain ⟨b0, b1⟩ := K1.out
      obtain ⟨c0, c1⟩ := K2.out
      obtain ⟨p0, p1⟩ := KP.out
      go_wp2_with fail
      refine (ds_at (a := a) (b := b) true hl G.out HX.out).mono ?_
      rintro e w7 ⟨rfl, bb⟩
      replace B := hid (q_trans B.out bb)
      replace G := hid (G.out.below bb)
      replace K0 := hid (K0.out.below bb)
      replace K1 := hid (K1.out.below bb)
      replace K2 := hid (K2.out.below bb)
      replace KP := hid (KP.out.below bb)
      clear a0 a1 b0 b1 c0 c1 p0 p1
      clear bb
      obtain ⟨a0, a1⟩ := K0.out
      obtain ⟨b0, b1⟩ := K1.out
      obtain ⟨c0, c1⟩ := K2.out
      obtain ⟨p0, p1⟩ := KP.out
      by_cases he : b = p
      · skip
        have ee := eqk_yes he
        clear he
        go_wp2_with fail
        refine (live_any _).mono ?_
        rintro e wz ⟨rfl, bb⟩
        have BZ := hid (q_trans B.out bb)
        clear bb
        go_wp2_with fail
        go_ret
        exact ⟨rfl, BZ.out⟩
      · skip
        have HPb := hid ((HPy.out.2 b HX.out).resolve_left he)
        have ee := eqk_no he
        clear he
        go_wp2_with fail
        refine (ds_at (a := p) (b := b) true hl G.out HPb.out).mono ?_
        rintro e w8 ⟨rfl, bb⟩
        replace B := hid (q_trans B.out bb)
        replace G := hid (G.out.below bb)
        replace K0 := hid (K0.out.below bb)
        replace K1 := hid (K1.out.below bb)
        replace K2 := hid (K2.out.below bb)
        replace KP := hid (KP.out.below bb)
        clear a0 a1 b0 b1 c0 c1 p0 p1
        clear bb
        obtain ⟨a0, a1⟩ := K0.out
        obtain ⟨b0, b1⟩ := K1.out
        obtain ⟨c0, c1⟩ := K2.out
        obtain ⟨p0, p1⟩ := KP.out
        go_wp2_with fail
        refine (live_any _).mono ?_
        rintro e wz ⟨rfl, bb⟩
        have BZ := hid (q_trans B.out bb)
        clear bb
        go_wp2_with fail
        go_ret
        exact ⟨rfl, BZ.out⟩
  · skip
    have HX := hid hx
    clear hx
    go_wp2_with fail
    refine (ds_at (a := a) (b := b) false hl G.out HX.out).mono ?_
    rintro e w2 ⟨rfl, bb⟩
    replace B := hid (q_trans B.out bb)
    replace G := hid (G.out.below bb)
    replace K0 := hid (K0.out.below bb)
    replace K1 := hid (K1.out.below bb)
    replace K2 := hid (K2.out.below bb)
    clear a0 a1 b0 b1 c0 c1
    clear bb
    obtain ⟨a0, a1⟩ := K0.out
    obtain ⟨b0, b1⟩ := K1.out
    obtain ⟨c0, c1⟩ := K2.out
    rcases Bool.eq_false_or_eq_true (prB t a) with hp | hp
    · skip
      go_wp2_with fail
      refine (par_at (k := a) (prK t a) true hl G.out rfl hp).mono ?_
      rintro e w3 ⟨rfl, bb⟩
      replace B := hid (q_trans B.out bb)
      replace G := hid (G.out.below bb)
      replace K0 := hid (K0.out.below bb)
      replace K1 := hid (K1.out.below bb)
      replace K2 := hid (K2.out.below bb)
      clear a0 a1 b0 b1 c0 c1
      clear bb
      obtain ⟨a0, a1⟩ := K0.out
      obtain ⟨b0, b1⟩ := K1.out
      obtain ⟨c0, c1⟩ := K2.out
      have HPy := hid (par_yes HTr.out hp)
      obtain ⟨p, hpk⟩ : ∃ p, prK t a = p := ⟨_, rfl⟩
      rw [hpk] at HPy ⊢
      clear hpk hp
      have KP := hid (at_new w3 p 24)
      replace B := hid (q_alloc B.out (.cells #[.int .i64 p.1, .int .i64 p.2] 24))
      replace G := hid (G.out.below (alloc_below w3 (.cells #[.int .i64 p.1, .int .i64 p.2] 24)))
      replace K0 := hid (K0.out.below (alloc_below w3 (.cells #[.int .i64 p.1, .int .i64 p.2] 24)))
      replace K1 := hid (K1.out.below (alloc_below w3 (.cells #[.int .i64 p.1, .int .i64 p.2] 24)))
      replace K2 := hid (K2.out.below (alloc_below w3 (.cells #[.int .i64 p.1, .int .i64 p.2] 24)))
      clear a0 a1 b0 b1 c0 c1
      obtain ⟨a0, a1⟩ := K0.out
      obtain ⟨b0, b1⟩ := K1.out
      obtain ⟨c0, c1⟩ := K2.out
      obtain ⟨p0, p1⟩ := KP.out
      go_wp2_with fail
      generalize w3.heap.size = pb at KP p0 p1 ⊢
      generalize w3.alloc (.cells #[.int .i64 p.1, .int .i64 p.2] 24) = V at B G K0 K1 K2 KP a0 a1 b0 b1 c0 c1 p0 p1 ⊢
      skip
      refine (ds_at (a := a) (b := p) true hl G.out HPy.out.1).mono ?_
      rintro e w4 ⟨rfl, bb⟩
      replace B := hid (q_trans B.out bb)
      replace G := hid (G.out.below bb)
      replace K0 := hid (K0.out.below bb)
      replace K1 := hid (K1.out.below bb)
      replace K2 := hid (K2.out.below bb)
      replace KP := hid (KP.out.below bb)
      clear a0 a1 b0 b1 c0 c1 p0 p1
      clear bb
      obtain ⟨a0, a1⟩ := K0.out
      obtain ⟨b0, b1⟩ := K1.out
      obtain ⟨c0, c1⟩ := K2.out
      obtain ⟨p0, p1⟩ := KP.out
      go_wp2_with fail
      refine (ds_at (a := a) (b := b) false hl G.out HX.out).mono ?_
      rintro e w5 ⟨rfl, bb⟩
      replace B := hid (q_trans B.out bb)
      replace G := hid (G.out.below bb)
      replace K0 := hid (K0.out.below bb)
      replace K1 := hid (K1.out.below bb)
      replace K2 := hid (K2.out.below bb)
      replace KP := hid (KP.out.below bb)
      clear a0 a1 b0 b1 c0 c1 p0 p1
      clear bb
      obtain ⟨a0, a1⟩ := K0.out
      obtain ⟨b0, b1⟩ := K1.out
      obtain ⟨c0, c1⟩ := K2.out
      obtain ⟨p0, p1⟩ := KP.out
      go_wp2_with fail
      refine (live_any _).mono ?_
      rintro e wz ⟨rfl, bb⟩
      have BZ := hid (q_trans B.out bb)
      clear bb
      go_wp2_with fail
      go_ret
      exact ⟨rfl, BZ.out⟩
    · skip
      go_wp2_with fail
      refine (par_at (k := a) (prK t a) false hl G.out rfl hp).mono ?_
      rintro e w3 ⟨rfl, bb⟩
      replace B := hid (q_trans B.out bb)
      replace G := hid (G.out.below bb)
      replace K0 := hid (K0.out.below bb)
      replace K1 := hid (K1.out.below bb)
      replace K2 := hid (K2.out.below bb)
      clear a0 a1 b0 b1 c0 c1
      clear bb
      obtain ⟨a0, a1⟩ := K0.out
      obtain ⟨b0, b1⟩ := K1.out
      obtain ⟨c0, c1⟩ := K2.out
      obtain ⟨p, hpk⟩ : ∃ p, prK t a = p := ⟨_, rfl⟩
      rw [hpk]
      clear hpk hp
      replace B := hid (q_alloc B.out (.cells #[.int .i64 p.1, .int .i64 p.2] 24))
      replace G := hid (G.out.below (alloc_below w3 (.cells #[.int .i64 p.1, .int .i64 p.2] 24)))
      replace K0 := hid (K0.out.below (alloc_below w3 (.cells #[.int .i64 p.1, .int .i64 p.2] 24)))
      replace K1 := hid (K1.out.below (alloc_below w3 (.cells #[.int .i64 p.1, .int .i64 p.2] 24)))
      replace K2 := hid (K2.out.below (alloc_below w3 (.cells #[.int .i64 p.1, .int .i64 p.2] 24)))
      clear a0 a1 b0 b1 c0 c1
      obtain ⟨a0, a1⟩ := K0.out
      obtain ⟨b0, b1⟩ := K1.out
      obtain ⟨c0, c1⟩ := K2.out
      go_wp2_with fail
      refine (ds_at (a := a) (b := b) false hl G.out HX.out).mono ?_
      rintro e w4 ⟨rfl, bb⟩
      replace B := hid (q_trans B.out bb)
      replace G := hid (G.out.below bb)
      replace K0 := hid (K0.out.below bb)
      replace K1 := hid (K1.out.below bb)
      replace K2 := hid (K2.out.below bb)
      clear a0 a1 b0 b1 c0 c1
      clear bb
      obtain ⟨a0, a1⟩ := K0.out
      obtain ⟨b0, b1⟩ := K1.out
      obtain ⟨c0, c1⟩ := K2.out
      go_wp2_with fail
      refine (live_any _).mono ?_
      rintro e wz ⟨rfl, bb⟩
      have BZ := hid (q_trans B.out bb)
      clear bb
      go_wp2_with fail
      go_ret
      exact ⟨rfl, BZ.out⟩
/-- TREEORDER. -/
theorem order_any (ao : Option Addr) (n cap : Nat) (l : List Ac) (a b c : P) (w : World) (HH : HasC w ao n cap l) :
    Calls Try.prog 7 #[.slice ao n cap, (.agg #[.int .i64 a.1, .int .i64 a.2]), (.agg #[.int .i64 b.1, .int .i64 b.2]), (.agg #[.int .i64 c.1, .int .i64 c.2])] w fun e w' => e = .returned (.bool true) ∧ Below w.heap.size w w' := by
  rcases Nat.lt_or_ge 60 n with q | q
  · exact order_long ao n cap a b c w q
  · exact order_in ao n cap l a b c w q HH
end Go.Proofs.Ytdaakigofpehjaa.Tr
