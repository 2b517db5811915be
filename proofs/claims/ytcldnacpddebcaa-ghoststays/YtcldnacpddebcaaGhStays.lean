/- GhostStays: who descends from whom stays, whatever comes, until one of them dies; a move takes it along. -/
import Derived.Test.YtcldnacpddebcaaGhLive
import Derived.Test.YtcldnacpddebcaaGhRel
namespace Go.Proofs.Ytcldnacpddebcaa.Gh
open Go.RowKit
open Go.Proofs.Ytcldnacpddebcaa.Tr

theorem bb_new (w : World) (a b : P) : Bp ((w.alloc (.cells #[.int .i64 a.1, .int .i64 a.2] 27)).alloc (.cells #[.int .i64 b.1, .int .i64 b.2] 27)) w.heap.size a ∧ Bp ((w.alloc (.cells #[.int .i64 a.1, .int .i64 a.2] 27)).alloc (.cells #[.int .i64 b.1, .int .i64 b.2] 27)) (w.heap.size + 1) b ∧ Below w.heap.size w ((w.alloc (.cells #[.int .i64 a.1, .int .i64 a.2] 27)).alloc (.cells #[.int .i64 b.1, .int .i64 b.2] 27)) :=
  ⟨(bp_new w a 27).below (alloc_below _ _), bp_two w _ b 27, q_alloc (alloc_below _ _) _⟩
theorem Bp.atP {w : World} {b : Nat} {k : P} (h : Tr.Bp w b k) : AtP w ⟨b, 0, none⟩ k := ⟨h.c0, h.c1⟩
/-- What GhostStays knows of a world: the two keys' boxes, the ghost's, and the ghost. -/
structure Sy (w W : World) (p : Nat) (x : Gv) (g : Gt) (a b : P) : Prop where
  ka : Tr.Bp W w.heap.size a
  kb : Tr.Bp W (w.heap.size + 1) b
  gb : Gb W p x
  has : HasG W x g
  hp : w.heap.size + 2 ≤ p
  lw : Below w.heap.size w W
theorem Sy.below {w W W' : World} {p : Nat} {x : Gv} {g : Gt} {a b : P} (h : Sy w W p x g a b) (q : Below W.heap.size W W') : Sy w W' p x g a b := ⟨h.ka.below q, h.kb.below q, h.gb.below q, h.has.below q, h.hp, q_trans h.lw q⟩
theorem two_kept (W : World) {p H : Nat} (hp : p < H) (u v : Value) : Kept (fun i => i < H) W ((W.setCell ⟨p, 0, none⟩ u).setCell ⟨p, 1, none⟩ v) := (kept_set _ W ⟨p, 0, none⟩ u hp).setCell ⟨p, 1, none⟩ v (fun _ => hp)
theorem Sy.putA {w W : World} {p : Nat} {x : Gv} {g : Gt} {a b : P} (h : Sy w W p x g a b) (n : NewG (w.heap.size + 2) W x g) (k : P) :
    Sy w ((W.setCell ⟨w.heap.size, 0, none⟩ (.int .i64 k.1)).setCell ⟨w.heap.size, 1, none⟩ (.int .i64 k.2)) p x g k b ∧ NewG (w.heap.size + 2) ((W.setCell ⟨w.heap.size, 0, none⟩ (.int .i64 k.1)).setCell ⟨w.heap.size, 1, none⟩ (.int .i64 k.2)) x g := by
  have n2 := n.kept (two_kept W (p := w.heap.size) (by omega) (.int .i64 k.1) (.int .i64 k.2))
  have hp := h.hp
  exact ⟨⟨bp_put h.ka k, (h.kb.other _ (by omega)).other _ (by omega), (h.gb.other _ (by omega)).other _ (by omega), n2.has, hp, q_set (q_set h.lw (Nat.le_refl _) _) (Nat.le_refl _) _⟩, n2⟩
theorem Sy.putB {w W : World} {p : Nat} {x : Gv} {g : Gt} {a b : P} (h : Sy w W p x g a b) (n : NewG (w.heap.size + 2) W x g) (k : P) :
    Sy w ((W.setCell ⟨w.heap.size + 1, 0, none⟩ (.int .i64 k.1)).setCell ⟨w.heap.size + 1, 1, none⟩ (.int .i64 k.2)) p x g a k ∧ NewG (w.heap.size + 2) ((W.setCell ⟨w.heap.size + 1, 0, none⟩ (.int .i64 k.1)).setCell ⟨w.heap.size + 1, 1, none⟩ (.int .i64 k.2)) x g := by
  have n2 := n.kept (two_kept W (p := w.heap.size + 1) (by omega) (.int .i64 k.1) (.int .i64 k.2))
  have hp := h.hp
  exact ⟨⟨(h.ka.other _ (by omega)).other _ (by omega), bp_put h.kb k, (h.gb.other _ (by omega)).other _ (by omega), n2.has, hp, q_set (q_set h.lw (by show w.heap.size ≤ w.heap.size + 1; omega) _) (by show w.heap.size ≤ w.heap.size + 1; omega) _⟩, n2⟩
/-- The ghost's box has Add's answer. -/
theorem Sy.next {w wr wc : World} {p : Nat} {x x1 : Gv} {g g1 : Gt} {a b : P} (h : Sy w wr p x g a b) (q : Below wr.heap.size wr wc) (n : NewG wr.heap.size wc x1 g1) : Sy w (put3 wc p x1) p x1 g1 a b ∧ NewG (w.heap.size + 2) (put3 wc p x1) x1 g1 := by
  have y := h.below q
  have hp := h.hp
  have hpl := h.gb.lt
  have n2 : NewG wr.heap.size (put3 wc p x1) x1 g1 := ⟨n.has.put y.gb, n.ok, n.oi, n.of⟩
  exact ⟨⟨((y.ka.other _ (by omega)).other _ (by omega)).other _ (by omega), ((y.kb.other _ (by omega)).other _ (by omega)).other _ (by omega), y.gb.put x1, n2.has, hp, put3_low y.lw (by omega)⟩, n2.mono (by omega)⟩
/-- What GhostStays knows of the ghost. -/
structure Stg (g : Gt) (a b : P) (d : Bool) : Prop where
  ok : Ok g
  ha : hasG g a = true
  hb : hasG g b = true
  ds : dsG g a b = d
theorem stg_no {g : Gt} {a b : P} {d : Bool} {z : Bi} (h : Stg g a b d) (e : adE g z ≠ 0) : Stg (adA g z) a b d := by
  have : adA g z = g := by unfold adA; rw [if_pos e]
  rw [this]
  exact h
theorem stg_yes {g : Gt} {a b a' b' : P} {d : Bool} {z : Bi} (h : Stg g a b d) (e : adE g z = 0) (hn : ¬ (z.kind = 4 ∧ (z.key = a ∨ z.key = b))) (ea : na z a = a') (eb : na z b = b') : Stg (adA g z) a' b' d := by
  have s := stay e h.ha h.hb hn
  rw [ea, eb] at s
  exact ⟨ad_ok h.ok z, s.1, s.2.1, s.2.2.trans h.ds⟩
theorem na_no {z : Bi} {a : P} (h : ¬ z.kind = 3) : na z a = a := if_neg (fun q => h q.1)
theorem na_other {z : Bi} {a : P} (h : ¬ z.fm = a) : na z a = a := if_neg (fun q => h q.2)
theorem na_yes {z : Bi} {a : P} (h : z.kind = 3) (h2 : z.fm = a) : na z a = z.key := if_pos ⟨h, h2⟩
theorem ds_whF {g : Gt} {a b : P} (h : whB g a = false ∨ whB g b = false) : dsG g a b = false := by
  rw [ds_wh]
  rcases h with h | h <;> rw [h] <;> simp
set_option maxHeartbeats 800000 in
theorem stays_long1 (ao : Option Addr) (n cap : Nat) (a b : P) (mo : Option Addr) (m mc : Nat) (w : World) (h : 80 < n) :
    Calls Try.prog 7 #[.slice ao n cap, (.agg #[.int .i64 a.1, .int .i64 a.2]), (.agg #[.int .i64 b.1, .int .i64 b.2]), .slice mo m mc] w fun e w' => e = .returned (.bool true) ∧ Below w.heap.size w w' := by
  have i1 : (n : Int) > 80 := by omega
  clear h
  go_enter Try.func7, Try.ntmps7
  go_wp2_with (go_at_call 10; refine (live_any _).mono ?_; rintro e w2 ⟨rfl, bb⟩)
  go_ret
  exact ⟨rfl, q_trans (q_alloc (alloc_below _ _) _) bb⟩
set_option maxHeartbeats 800000 in
theorem stays_long2 (ao : Option Addr) (n cap : Nat) (a b : P) (mo : Option Addr) (m mc : Nat) (w : World) (h0 : n ≤ 80) (h : 80 < m) :
    Calls Try.prog 7 #[.slice ao n cap, (.agg #[.int .i64 a.1, .int .i64 a.2]), (.agg #[.int .i64 b.1, .int .i64 b.2]), .slice mo m mc] w fun e w' => e = .returned (.bool true) ∧ Below w.heap.size w w' := by
  have i0 : ¬ (n : Int) > 80 := by omega
  have i1 : (m : Int) > 80 := by omega
  clear h h0
  go_enter Try.func7, Try.ntmps7
  go_wp2_with (go_at_call 10; refine (live_any _).mono ?_; rintro e w2 ⟨rfl, bb⟩)
  go_ret
  exact ⟨rfl, q_trans (q_alloc (alloc_below _ _) _) bb⟩
set_option maxRecDepth 100000 in
set_option maxHeartbeats 8000000 in
theorem stays_in (ao : Option Addr) (n cap : Nat) (l : List Bi) (a b : P) (mo : Option Addr) (m mc : Nat) (r : List Bi) (w : World) (hn : n ≤ 80) (hm : m ≤ 80) (HL : Hid (HasZ w ao n cap l)) (HH : Hid (HasZ w mo m mc r)) :
    Calls Try.prog 7 #[.slice ao n cap, (.agg #[.int .i64 a.1, .int .i64 a.2]), (.agg #[.int .i64 b.1, .int .i64 b.2]), .slice mo m mc] w fun e w' => e = .returned (.bool true) ∧ Below w.heap.size w w' := by
  have j1 : ¬ (n : Int) > 80 := by omega
  have j2 : ¬ (m : Int) > 80 := by omega
  go_enter Try.func7, Try.ntmps7
  go_wp2_with fail
  obtain ⟨g1, g2, g4⟩ := bb_new w a b
  have K1 := hid g1
  have K2 := hid g2
  have B := hid g4
  clear g1 g2 g4
  generalize (w.alloc (.cells #[.int .i64 a.1, .int .i64 a.2] 27)).alloc (.cells #[.int .i64 b.1, .int .i64 b.2] 27) = W0 at K1 K2 B ⊢
  obtain ⟨g, hg⟩ : ∃ g, rnA l = g := ⟨_, rfl⟩
  have HG : Hid (Ok g) := by rw [← hg]; exact rn_ok l
  have HA := hid hg
  clear hg
  obtain ⟨k, hk⟩ : ∃ k, rnN l = k := ⟨_, rfl⟩
  have HK := hid hk
  clear hk
  refine (run_at g k (by omega) (HL.out.below B.out) HA.out HK.out).mono ?_
  rintro e w4 ⟨x, rfl, h4, b4⟩
  have Y : Hid (Sy w (w4.alloc (.cells #[.slice x.k.o x.k.n x.k.c, .slice x.i.o x.i.n x.i.c, .slice x.f.o x.f.n x.f.c] 25)) w4.heap.size x g a b) := by
    have b5 := q_alloc b4 (.cells #[.slice x.k.o x.k.n x.k.c, .slice x.i.o x.i.n x.i.c, .slice x.f.o x.f.n x.f.c] 25)
    have h5 := hg_new h4
    have hl := K2.out.lt
    have hl2 := b4.size
    exact ⟨K1.out.below b5, K2.out.below b5, h5.gb, h5.has, by omega, q_trans B.out b5⟩
  clear h4 b4 B K1 K2
  go_upto_region 4 with fail
  generalize w4.heap.size = p1 at Y ⊢
  generalize w4.alloc (.cells #[.slice x.k.o x.k.n x.k.c, .slice x.i.o x.i.n x.i.c, .slice x.f.o x.f.n x.f.c] 25) = V at Y ⊢
  obtain ⟨x0, x1, x2⟩ := Y.out.gb.inW.inG
  obtain ⟨a0, a1⟩ := (Bp.atP Y.out.ka)
  go_wp2_with fail
  refine (who_at2 _ _ Y.out.has HG.out rfl rfl).mono ?_
  rintro e w5 ⟨rfl, b5⟩
  replace Y := hid (Y.out.below b5)
  clear b5 x0 x1 x2 a0 a1
  obtain ⟨x0, x1, x2⟩ := Y.out.gb.inW.inG
  obtain ⟨b0, b1⟩ := (Bp.atP Y.out.kb)
  go_wp2_with fail
  refine (who_at2 _ _ Y.out.has HG.out rfl rfl).mono ?_
  rintro e w6 ⟨rfl, b5⟩
  replace Y := hid (Y.out.below b5)
  clear b5 x0 x1 x2 b0 b1
  obtain ⟨v1, hv1⟩ : ∃ v, whI g a = v := ⟨_, rfl⟩
  obtain ⟨v2, hv2⟩ : ∃ v, whI g b = v := ⟨_, rfl⟩
  rw [hv1, hv2]
  clear hv1 hv2
  cases ha : whB g a with
  | false =>
    have HD : Hid (dsG g a b = false) := ds_whF (.inl ha)
    clear ha
    obtain ⟨x0, x1, x2⟩ := Y.out.gb.inW.inG
    obtain ⟨a0, a1⟩ := (Bp.atP Y.out.ka)
    obtain ⟨b0, b1⟩ := (Bp.atP Y.out.kb)
    go_wp2_with fail
    refine (ds_at false Y.out.has HG.out HD.out).mono ?_
    rintro e w7 ⟨rfl, b7⟩
    replace Y := hid (Y.out.below b7)
    clear b7 x0 x1 x2 a0 a1 b0 b1
    go_wp2_with fail
    refine (live_any _).mono ?_
    rintro e w8 ⟨rfl, b8⟩
    replace Y := hid (Y.out.below b8)
    clear b8
    go_wp2_with fail
    go_ret
    exact ⟨rfl, Y.out.lw⟩
  | true =>
    cases hb : whB g b with
    | false =>
      have HD : Hid (dsG g a b = false) := ds_whF (.inr hb)
      clear ha hb
      obtain ⟨x0, x1, x2⟩ := Y.out.gb.inW.inG
      obtain ⟨a0, a1⟩ := (Bp.atP Y.out.ka)
      obtain ⟨b0, b1⟩ := (Bp.atP Y.out.kb)
      go_wp2_with fail
      refine (ds_at false Y.out.has HG.out HD.out).mono ?_
      rintro e w7 ⟨rfl, b7⟩
      replace Y := hid (Y.out.below b7)
      clear b7 x0 x1 x2 a0 a1 b0 b1
      go_wp2_with fail
      refine (live_any _).mono ?_
      rintro e w8 ⟨rfl, b8⟩
      replace Y := hid (Y.out.below b8)
      clear b8
      go_wp2_with fail
      go_ret
      exact ⟨rfl, Y.out.lw⟩
    | true =>
      obtain ⟨d, hd⟩ : ∃ d, dsG g a b = d := ⟨_, rfl⟩
      have HS : Hid (Stg g a b d) := ⟨HG.out, by rw [← whB_has HG.out]; exact ha, by rw [← whB_has HG.out]; exact hb, hd⟩
      clear ha hb hd HG HA HK
      have hdd : (d != d) = false := by simp
      obtain ⟨x0, x1, x2⟩ := Y.out.gb.inW.inG
      obtain ⟨a0, a1⟩ := (Bp.atP Y.out.ka)
      obtain ⟨b0, b1⟩ := (Bp.atP Y.out.kb)
      go_wp2_with fail
      refine (ds_at d Y.out.has HS.out.ok HS.out.ds).mono ?_
      rintro e w7 ⟨rfl, b7⟩
      replace Y := hid (Y.out.below b7)
      clear b7 x0 x1 x2 a0 a1 b0 b1
      go_wp2_with fail
      go_loopw [16] (fun s16 wr => ∃ (q : Nat) (x : Gv) (g : Gt) (a b : P), q ≤ m ∧ s16 = .int .i64 q ∧ Hid (Sy w wr p1 x g a b) ∧ Hid (Stg g a b d)) (fun i _ => m - (intOf i).toNat)
      case atStart => exact ⟨0, x, g, a, b, Nat.zero_le _, rfl, Y, HS⟩
      case round =>
        clear Y HS
        obtain ⟨q, x, g, a, b, hq, rfl, Y, HS⟩ := hrel
        by_cases hlt : q < m
        · have i1 : (0 : Int) ≤ (q : Int) := by omega
          have i2 : (q : Int) < (m : Int) := by omega
          obtain ⟨ad, rfl, ca⟩ := (HH.out.below Y.out.lw).at q hlt
          obtain ⟨z, hz⟩ : ∃ z, r.getD q z0B = z := ⟨_, rfl⟩
          rw [hz] at ca
          have CA : Hid (∀ W, Below w.heap.size w W → AtZ W (ad.add (q * 5)) z) := fun W hW => by
            obtain ⟨a', e, h⟩ := (HH.out.below hW).at q hlt
            cases e
            rw [hz] at h
            exact h
          clear hz
          have hS := sa_of Y.out.gb.inW ca
          have HNe : Hid (wr.heap.size ≠ p1 ∧ wr.heap.size ≠ (ad.add (q * 5)).block) := ⟨by have := Y.out.gb.lt; omega, by have := ca.lt; omega⟩
          have HSm : Hid (x.k.n ≤ 5000 ∧ x.i.n ≤ 5000 ∧ x.f.n ≤ 5000) := by have := Y.out.has.small HS.out.ok; unfold Hid; omega
          clear ca
          go_upto_region 12 with fail
          go_cut [17, 18] from 70 to 78 (fun s17 s18 wx => ∃ (p : Nat) (x1 : Gv), s17 = .pointer (some ⟨p, 0, none⟩) ∧ s18 = .int .i64 (adE g z) ∧ Hid (Gb wx p x1) ∧ Hid (NewG wr.heap.size wx x1 (adA g z)) ∧ Hid (wr.heap.size ≤ p) ∧ Hid (Below wr.heap.size wr wx))
          case first =>
            go_region_held3 (SA p1 x (ad.add (q * 5)) z) (first | with_reducible assumption | with_reducible exact sa_drew hS | with_reducible exact sa_alloc hS _ | with_reducible exact sa_drew (sa_alloc hS _) | with_reducible exact HS1.out | with_reducible exact sa_drew HS1.out | with_reducible exact sa_alloc HS1.out _ | with_reducible exact sa_drew (sa_alloc HS1.out _) | with_reducible exact sa_three HS1.out HNe.out.1 HNe.out.2 _ _ _ | with_reducible exact sa_drew (sa_three HS1.out HNe.out.1 HNe.out.2 _ _ _) | fail)
              (first
                | (go_at_call 11; refine (padd_new x g z _ HSm.out.1 HSm.out.2.1 HSm.out.2.2 (by first | exact Y.out.has | exact Y.out.has.below (Below.refl _ wr).drew | exact Y.out.has.below (alloc_below wr _) | exact Y.out.has.below (alloc_below wr _).drew)).mono ?_; rintro e w1 ⟨x1, rfl, h1, b1⟩; have B1 : Hid (Below wr.heap.size wr w1) := (by first | exact b1 | exact q_trans (Below.refl _ wr).drew b1 | exact q_trans (alloc_below wr _) b1 | exact q_trans (alloc_below wr _).drew b1); have HS1 : Hid (SA p1 x (ad.add (q * 5)) z w1) := sa_keep hS B1.out; have H1 : Hid (NewG wr.heap.size w1 x1 (adA g z)) := h1.mono (by first | exact Nat.le_refl _ | exact (alloc_below wr _).size); (try (have HZ : Hid (Gb w1 wr.heap.size nilG) := (by first | exact (gb_new wr nilG).below b1 | exact (gb_new wr.drew nilG).below b1); obtain ⟨y0, y1, y2, y3, y4, y5⟩ := HZ.out.inW; have hlz := HZ.out.lt)); clear b1 h1)
                | fail)
            all_goals (try go_wp2_with fail)
            all_goals go_meet
            all_goals first
              | exact ⟨w1.heap.size, x1, rfl, rfl, gb_new w1 x1, H1.out.below (alloc_below _ _), B1.out.size, q_alloc B1.out _⟩
              | exact ⟨wr.heap.size, x1, rfl, rfl, HZ.out.put x1, ⟨H1.out.has.put HZ.out, H1.out.ok, H1.out.oi, H1.out.of⟩, Nat.le_refl _, put3_low B1.out (Nat.le_refl _)⟩
          case rest =>
            obtain ⟨p, x1, rfl, rfl, HG1, HN1, HP, HBc⟩ := hcut
            have HF := hid (Y.out.next HBc.out HN1.out)
            have HGo := hid (Y.out.gb.below HBc.out)
            have HPn : Hid (p ≠ p1) := by have := Y.out.gb.lt; have := HP.out; unfold Hid; omega
            clear hS HNe Y HBc HP HN1
            obtain ⟨y0, y1, y2, y3, y4, y5⟩ := HG1.out.inW
            obtain ⟨v0, v1, v2, v3, v4, v5⟩ := HGo.out.inW
            have hlp := HGo.out.lt
            obtain ⟨v, hv⟩ : ∃ v, adE g z = v := ⟨_, rfl⟩
            rw [hv]
            go_wp2_with fail
            refine (gnum_low v _).mono ?_
            rintro e w3 ⟨rfl, b3⟩
            have Y := hid (HF.out.1.below b3)
            have N := hid (HF.out.2.below b3)
            clear b3 y0 y1 y2 y3 y4 y5 v0 v1 v2 v3 v4 v5 hlp HF HGo HPn HG1
            by_cases hv0 : v = 0
            · have HE : Hid (adE g z = 0) := hv.trans hv0
              subst hv0
              clear hv
              have hvt : ((0 : Int) != 0) = false := by decide
              have HOk : Hid (Ok (adA g z)) := ad_ok HS.out.ok z
              by_cases k4 : z.kind = 4
              · have HKd := hid k4
                by_cases ka : z.key = a
                · have HD : Hid (dsG (adA g z) a b = false) := stay_die HE.out k4 (.inl ka)
                  have ee := eqk_yes ka
                  clear k4 ka
                  obtain ⟨f0, f1, f2, f3, f4⟩ := (CA.out _ Y.out.lw).always
                  obtain ⟨a0, a1⟩ := (Bp.atP Y.out.ka).always
                  obtain ⟨b0, b1⟩ := (Bp.atP Y.out.kb).always
                  rw [HKd.out] at f0
                  have hne : Nonempty (Later w3) := ⟨⟨_, Below.refl _ _⟩⟩

                  go_upto_region 15 with fail
                  refine wp_region_later (by kernel_rfl) (by kernel_rfl) ?_
                  repeat (go_big_quiet_step (fail))
                  refine wpQuiet_nil ?_
                  rintro w9 ⟨⟨_, b9⟩, rfl⟩
                  replace Y := hid (Y.out.below b9)
                  replace N := hid (N.out.below b9)
                  clear b9 f0 f1 f2 f3 f4 a0 a1 b0 b1 hne

                  obtain ⟨x0, x1', x2⟩ := Y.out.gb.inW.inG
                  obtain ⟨a0, a1⟩ := (Bp.atP Y.out.ka)
                  obtain ⟨b0, b1⟩ := (Bp.atP Y.out.kb)
                  go_wp2_with fail
                  refine (ds_at false Y.out.has HOk.out HD.out).mono ?_
                  rintro e w7 ⟨rfl, b7⟩
                  replace Y := hid (Y.out.below b7)
                  clear b7 x0 x1' x2 a0 a1 b0 b1
                  go_wp2_with fail
                  refine (live_any _).mono ?_
                  rintro e w8 ⟨rfl, b8⟩
                  replace Y := hid (Y.out.below b8)
                  clear b8
                  go_wp2_with fail
                  go_ret
                  exact ⟨rfl, Y.out.lw⟩
                · by_cases kb : z.key = b
                  · have HD : Hid (dsG (adA g z) a b = false) := stay_die HE.out k4 (.inr kb)
                    have ee := eqk_no ka
                    have ef := eqk_yes kb
                    clear k4 ka kb
                    obtain ⟨f0, f1, f2, f3, f4⟩ := (CA.out _ Y.out.lw).always
                    obtain ⟨a0, a1⟩ := (Bp.atP Y.out.ka).always
                    obtain ⟨b0, b1⟩ := (Bp.atP Y.out.kb).always
                    rw [HKd.out] at f0
                    have hne : Nonempty (Later w3) := ⟨⟨_, Below.refl _ _⟩⟩

                    go_upto_region 15 with fail
                    refine wp_region_later (by kernel_rfl) (by kernel_rfl) ?_
                    repeat (go_big_quiet_step (fail))
                    refine wpQuiet_nil ?_
                    rintro w9 ⟨⟨_, b9⟩, rfl⟩
                    replace Y := hid (Y.out.below b9)
                    replace N := hid (N.out.below b9)
                    clear b9 f0 f1 f2 f3 f4 a0 a1 b0 b1 hne

                    obtain ⟨x0, x1', x2⟩ := Y.out.gb.inW.inG
                    obtain ⟨a0, a1⟩ := (Bp.atP Y.out.ka)
                    obtain ⟨b0, b1⟩ := (Bp.atP Y.out.kb)
                    go_wp2_with fail
                    refine (ds_at false Y.out.has HOk.out HD.out).mono ?_
                    rintro e w7 ⟨rfl, b7⟩
                    replace Y := hid (Y.out.below b7)
                    clear b7 x0 x1' x2 a0 a1 b0 b1
                    go_wp2_with fail
                    refine (live_any _).mono ?_
                    rintro e w8 ⟨rfl, b8⟩
                    replace Y := hid (Y.out.below b8)
                    clear b8
                    go_wp2_with fail
                    go_ret
                    exact ⟨rfl, Y.out.lw⟩
                  · have HT : Hid (Stg (adA g z) a b d) := stg_yes HS.out HE.out (fun h => h.2.elim ka kb) (na_no (by rw [k4]; decide)) (na_no (by rw [k4]; decide))
                    have ee := eqk_no ka
                    have ef := eqk_no kb
                    clear k4 ka kb
                    obtain ⟨f0, f1, f2, f3, f4⟩ := (CA.out _ Y.out.lw).always
                    obtain ⟨a0, a1⟩ := (Bp.atP Y.out.ka).always
                    obtain ⟨b0, b1⟩ := (Bp.atP Y.out.kb).always
                    rw [HKd.out] at f0
                    have hne : Nonempty (Later w3) := ⟨⟨_, Below.refl _ _⟩⟩

                    go_upto_region 15 with fail
                    refine wp_region_later (by kernel_rfl) (by kernel_rfl) ?_
                    repeat (go_big_quiet_step (fail))
                    refine wpQuiet_nil ?_
                    rintro w9 ⟨⟨_, b9⟩, rfl⟩
                    replace Y := hid (Y.out.below b9)
                    replace N := hid (N.out.below b9)
                    clear b9 f0 f1 f2 f3 f4 a0 a1 b0 b1 hne

                    have c0 := (CA.out _ Y.out.lw).c0
                    rw [HKd.out] at c0
                    go_upto_region 25 with fail
                    clear c0 ee ef

                    obtain ⟨x0, x1', x2⟩ := Y.out.gb.inW.inG
                    obtain ⟨a0, a1⟩ := (Bp.atP Y.out.ka)
                    obtain ⟨b0, b1⟩ := (Bp.atP Y.out.kb)
                    go_wp2_with fail
                    refine (ds_at d Y.out.has HT.out.ok HT.out.ds).mono ?_
                    rintro e w8 ⟨rfl, b8⟩
                    replace Y := hid (Y.out.below b8)
                    clear b8 x0 x1' x2 a0 a1 b0 b1
                    go_wp2_with fail
                    go_roundw
                    case rel => exact ⟨q + 1, x1, adA g z, _, _, by omega, by go_num, Y, HT⟩
                    case measure => simp [intOf]; omega
              · have e4 : (z.kind == 4) = false := by simp [k4]
                by_cases k3 : z.kind = 3
                · have HKd := hid k3
                  rw [k3] at e4
                  obtain ⟨f0, f1, f2, f3, f4⟩ := (CA.out _ Y.out.lw).always
                  obtain ⟨a0, a1⟩ := (Bp.atP Y.out.ka).always
                  obtain ⟨b0, b1⟩ := (Bp.atP Y.out.kb).always
                  rw [HKd.out] at f0
                  have hne : Nonempty (Later w3) := ⟨⟨_, Below.refl _ _⟩⟩

                  go_upto_region 15 with fail
                  refine wp_region_later (by kernel_rfl) (by kernel_rfl) ?_
                  repeat (go_big_quiet_step (fail))
                  refine wpQuiet_nil ?_
                  rintro w9 ⟨⟨_, b9⟩, rfl⟩
                  replace Y := hid (Y.out.below b9)
                  replace N := hid (N.out.below b9)
                  clear b9 f0 f1 f2 f3 f4 a0 a1 b0 b1 hne
                  have hn4 : Hid (¬ (z.kind = 4 ∧ (z.key = a ∨ z.key = b))) := fun h => k4 h.1
                  clear e4
                  by_cases kab : a = b
                  · subst kab
                    have ee := eqk_yes (rfl : a = a)
                    by_cases kf : z.fm = a
                    · have HT : Hid (Stg (adA g z) z.key z.key d) := stg_yes HS.out HE.out hn4.out (na_yes k3 kf) (na_yes k3 kf)
                      have ef := eqk_yes kf
                      clear k3 k4 kf
                      have c0 := (CA.out _ Y.out.lw).c0
                      rw [HKd.out] at c0
                      obtain ⟨a0, a1⟩ := (Bp.atP Y.out.ka)
                      obtain ⟨b0, b1⟩ := (Bp.atP Y.out.kb)
                      go_upto_region 19 with fail
                      clear c0 a0 a1 b0 b1

                      obtain ⟨f0, f1, f2, f3, f4⟩ := (CA.out _ Y.out.lw).always
                      obtain ⟨a0, a1⟩ := (Bp.atP Y.out.ka).always
                      obtain ⟨b0, b1⟩ := (Bp.atP Y.out.kb).always
                      have hne : Nonempty (Later w9) := ⟨⟨_, Below.refl _ _⟩⟩
                      refine wp_region_later (by kernel_rfl) (by kernel_rfl) ?_
                      repeat (go_big_quiet_step (fail))
                      refine wpQuiet_nil ?_
                      rintro w10 ⟨⟨_, b9⟩, rfl⟩
                      replace Y := hid (Y.out.below b9)
                      replace N := hid (N.out.below b9)
                      clear b9 f0 f1 f2 f3 f4 a0 a1 b0 b1 hne

                      obtain ⟨c0, c1, c2, c3, c4⟩ := CA.out _ Y.out.lw
                      obtain ⟨a0, a1, a2, a3⟩ := Y.out.ka
                      have hla := Y.out.ka.lt
                      have YN := hid (Y.out.putA N.out z.key)
                      go_upto_region 21 with fail
                      clear c0 c1 c2 c3 c4 a0 a1 a2 a3 hla Y N
                      generalize (w10.setCell ⟨w.heap.size, 0, none⟩ (.int .i64 z.key.1)).setCell ⟨w.heap.size, 1, none⟩ (.int .i64 z.key.2) = V2 at YN ⊢
                      have Y := hid YN.out.1
                      have N := hid YN.out.2
                      clear YN

                      obtain ⟨a0, a1⟩ := (Bp.atP Y.out.ka)

                      obtain ⟨b0, b1, b2, b3⟩ := Y.out.kb
                      have hlb := Y.out.kb.lt
                      have YN := hid (Y.out.putB N.out z.key)
                      go_upto_region 25 with fail
                      clear a0 a1 b0 b1 b2 b3 hlb Y N
                      generalize (V2.setCell ⟨w.heap.size + 1, 0, none⟩ (.int .i64 z.key.1)).setCell ⟨w.heap.size + 1, 1, none⟩ (.int .i64 z.key.2) = V3 at YN ⊢
                      have Y := hid YN.out.1
                      have N := hid YN.out.2
                      clear YN

                      obtain ⟨x0, x1', x2⟩ := Y.out.gb.inW.inG
                      obtain ⟨a0, a1⟩ := (Bp.atP Y.out.ka)
                      obtain ⟨b0, b1⟩ := (Bp.atP Y.out.kb)
                      go_wp2_with fail
                      refine (ds_at d Y.out.has HT.out.ok HT.out.ds).mono ?_
                      rintro e w8 ⟨rfl, b8⟩
                      replace Y := hid (Y.out.below b8)
                      clear b8 x0 x1' x2 a0 a1 b0 b1
                      go_wp2_with fail
                      go_roundw
                      case rel => exact ⟨q + 1, x1, adA g z, _, _, by omega, by go_num, Y, HT⟩
                      case measure => simp [intOf]; omega
                    · have HT : Hid (Stg (adA g z) a a d) := stg_yes HS.out HE.out hn4.out (na_other kf) (na_other kf)
                      have ef := eqk_no kf
                      clear k3 k4 kf
                      have c0 := (CA.out _ Y.out.lw).c0
                      rw [HKd.out] at c0
                      obtain ⟨a0, a1⟩ := (Bp.atP Y.out.ka)
                      obtain ⟨b0, b1⟩ := (Bp.atP Y.out.kb)
                      go_upto_region 19 with fail
                      clear c0 a0 a1 b0 b1

                      obtain ⟨f0, f1, f2, f3, f4⟩ := (CA.out _ Y.out.lw).always
                      obtain ⟨a0, a1⟩ := (Bp.atP Y.out.ka).always
                      obtain ⟨b0, b1⟩ := (Bp.atP Y.out.kb).always
                      have hne : Nonempty (Later w9) := ⟨⟨_, Below.refl _ _⟩⟩
                      refine wp_region_later (by kernel_rfl) (by kernel_rfl) ?_
                      repeat (go_big_quiet_step (fail))
                      refine wpQuiet_nil ?_
                      rintro w10 ⟨⟨_, b9⟩, rfl⟩
                      replace Y := hid (Y.out.below b9)
                      replace N := hid (N.out.below b9)
                      clear b9 f0 f1 f2 f3 f4 a0 a1 b0 b1 hne

                      obtain ⟨a0, a1⟩ := (Bp.atP Y.out.ka)

                      obtain ⟨b0, b1, b2, b3⟩ := Y.out.kb
                      have hlb := Y.out.kb.lt
                      have YN := hid (Y.out.putB N.out a)
                      go_upto_region 25 with fail
                      clear a0 a1 b0 b1 b2 b3 hlb Y N
                      generalize (w10.setCell ⟨w.heap.size + 1, 0, none⟩ (.int .i64 a.1)).setCell ⟨w.heap.size + 1, 1, none⟩ (.int .i64 a.2) = V3 at YN ⊢
                      have Y := hid YN.out.1
                      have N := hid YN.out.2
                      clear YN

                      obtain ⟨x0, x1', x2⟩ := Y.out.gb.inW.inG
                      obtain ⟨a0, a1⟩ := (Bp.atP Y.out.ka)
                      obtain ⟨b0, b1⟩ := (Bp.atP Y.out.kb)
                      go_wp2_with fail
                      refine (ds_at d Y.out.has HT.out.ok HT.out.ds).mono ?_
                      rintro e w8 ⟨rfl, b8⟩
                      replace Y := hid (Y.out.below b8)
                      clear b8 x0 x1' x2 a0 a1 b0 b1
                      go_wp2_with fail
                      go_roundw
                      case rel => exact ⟨q + 1, x1, adA g z, _, _, by omega, by go_num, Y, HT⟩
                      case measure => simp [intOf]; omega
                  · have ee := eqk_no kab
                    by_cases kf : z.fm = a
                    · have kfb : ¬ z.fm = b := fun h => kab (kf.symm.trans h)
                      have HT : Hid (Stg (adA g z) z.key b d) := stg_yes HS.out HE.out hn4.out (na_yes k3 kf) (na_other kfb)
                      have ef := eqk_yes kf
                      have eg := eqk_no kfb
                      clear k3 k4 kf kfb kab
                      have c0 := (CA.out _ Y.out.lw).c0
                      rw [HKd.out] at c0
                      obtain ⟨a0, a1⟩ := (Bp.atP Y.out.ka)
                      obtain ⟨b0, b1⟩ := (Bp.atP Y.out.kb)
                      go_upto_region 19 with fail
                      clear c0 a0 a1 b0 b1

                      obtain ⟨f0, f1, f2, f3, f4⟩ := (CA.out _ Y.out.lw).always
                      obtain ⟨a0, a1⟩ := (Bp.atP Y.out.ka).always
                      obtain ⟨b0, b1⟩ := (Bp.atP Y.out.kb).always
                      have hne : Nonempty (Later w9) := ⟨⟨_, Below.refl _ _⟩⟩
                      refine wp_region_later (by kernel_rfl) (by kernel_rfl) ?_
                      repeat (go_big_quiet_step (fail))
                      refine wpQuiet_nil ?_
                      rintro w10 ⟨⟨_, b9⟩, rfl⟩
                      replace Y := hid (Y.out.below b9)
                      replace N := hid (N.out.below b9)
                      clear b9 f0 f1 f2 f3 f4 a0 a1 b0 b1 hne

                      obtain ⟨c0, c1, c2, c3, c4⟩ := CA.out _ Y.out.lw
                      obtain ⟨a0, a1, a2, a3⟩ := Y.out.ka
                      have hla := Y.out.ka.lt
                      have YN := hid (Y.out.putA N.out z.key)
                      go_upto_region 21 with fail
                      clear c0 c1 c2 c3 c4 a0 a1 a2 a3 hla Y N
                      generalize (w10.setCell ⟨w.heap.size, 0, none⟩ (.int .i64 z.key.1)).setCell ⟨w.heap.size, 1, none⟩ (.int .i64 z.key.2) = V2 at YN ⊢
                      have Y := hid YN.out.1
                      have N := hid YN.out.2
                      clear YN
                      go_upto_region 23 with fail

                      obtain ⟨f0, f1, f2, f3, f4⟩ := (CA.out _ Y.out.lw).always
                      obtain ⟨a0, a1⟩ := (Bp.atP Y.out.ka).always
                      obtain ⟨b0, b1⟩ := (Bp.atP Y.out.kb).always
                      have hne : Nonempty (Later V2) := ⟨⟨_, Below.refl _ _⟩⟩
                      refine wp_region_later (by kernel_rfl) (by kernel_rfl) ?_
                      repeat (go_big_quiet_step (fail))
                      refine wpQuiet_nil ?_
                      rintro w11 ⟨⟨_, b9⟩, rfl⟩
                      replace Y := hid (Y.out.below b9)
                      replace N := hid (N.out.below b9)
                      clear b9 f0 f1 f2 f3 f4 a0 a1 b0 b1 hne

                      obtain ⟨x0, x1', x2⟩ := Y.out.gb.inW.inG
                      obtain ⟨a0, a1⟩ := (Bp.atP Y.out.ka)
                      obtain ⟨b0, b1⟩ := (Bp.atP Y.out.kb)
                      go_wp2_with fail
                      refine (ds_at d Y.out.has HT.out.ok HT.out.ds).mono ?_
                      rintro e w8 ⟨rfl, b8⟩
                      replace Y := hid (Y.out.below b8)
                      clear b8 x0 x1' x2 a0 a1 b0 b1
                      go_wp2_with fail
                      go_roundw
                      case rel => exact ⟨q + 1, x1, adA g z, _, _, by omega, by go_num, Y, HT⟩
                      case measure => simp [intOf]; omega
                    · by_cases kfb : z.fm = b
                      · have HT : Hid (Stg (adA g z) a z.key d) := stg_yes HS.out HE.out hn4.out (na_other kf) (na_yes k3 kfb)
                        have ef := eqk_no kf
                        have eg := eqk_yes kfb
                        clear k3 k4 kf kfb kab
                        have c0 := (CA.out _ Y.out.lw).c0
                        rw [HKd.out] at c0
                        obtain ⟨a0, a1⟩ := (Bp.atP Y.out.ka)
                        obtain ⟨b0, b1⟩ := (Bp.atP Y.out.kb)
                        go_upto_region 19 with fail
                        clear c0 a0 a1 b0 b1

                        obtain ⟨f0, f1, f2, f3, f4⟩ := (CA.out _ Y.out.lw).always
                        obtain ⟨a0, a1⟩ := (Bp.atP Y.out.ka).always
                        obtain ⟨b0, b1⟩ := (Bp.atP Y.out.kb).always
                        have hne : Nonempty (Later w9) := ⟨⟨_, Below.refl _ _⟩⟩
                        refine wp_region_later (by kernel_rfl) (by kernel_rfl) ?_
                        repeat (go_big_quiet_step (fail))
                        refine wpQuiet_nil ?_
                        rintro w10 ⟨⟨_, b9⟩, rfl⟩
                        replace Y := hid (Y.out.below b9)
                        replace N := hid (N.out.below b9)
                        clear b9 f0 f1 f2 f3 f4 a0 a1 b0 b1 hne
                        go_upto_region 23 with fail

                        obtain ⟨f0, f1, f2, f3, f4⟩ := (CA.out _ Y.out.lw).always
                        obtain ⟨a0, a1⟩ := (Bp.atP Y.out.ka).always
                        obtain ⟨b0, b1⟩ := (Bp.atP Y.out.kb).always
                        have hne : Nonempty (Later w10) := ⟨⟨_, Below.refl _ _⟩⟩
                        refine wp_region_later (by kernel_rfl) (by kernel_rfl) ?_
                        repeat (go_big_quiet_step (fail))
                        refine wpQuiet_nil ?_
                        rintro w11 ⟨⟨_, b9⟩, rfl⟩
                        replace Y := hid (Y.out.below b9)
                        replace N := hid (N.out.below b9)
                        clear b9 f0 f1 f2 f3 f4 a0 a1 b0 b1 hne

                        obtain ⟨a0, a1, c2, c3, c4⟩ := CA.out _ Y.out.lw

                        obtain ⟨b0, b1, b2, b3⟩ := Y.out.kb
                        have hlb := Y.out.kb.lt
                        have YN := hid (Y.out.putB N.out z.key)
                        go_upto_region 25 with fail
                        clear a0 a1 c2 c3 c4 b0 b1 b2 b3 hlb Y N
                        generalize (w11.setCell ⟨w.heap.size + 1, 0, none⟩ (.int .i64 z.key.1)).setCell ⟨w.heap.size + 1, 1, none⟩ (.int .i64 z.key.2) = V3 at YN ⊢
                        have Y := hid YN.out.1
                        have N := hid YN.out.2
                        clear YN

                        obtain ⟨x0, x1', x2⟩ := Y.out.gb.inW.inG
                        obtain ⟨a0, a1⟩ := (Bp.atP Y.out.ka)
                        obtain ⟨b0, b1⟩ := (Bp.atP Y.out.kb)
                        go_wp2_with fail
                        refine (ds_at d Y.out.has HT.out.ok HT.out.ds).mono ?_
                        rintro e w8 ⟨rfl, b8⟩
                        replace Y := hid (Y.out.below b8)
                        clear b8 x0 x1' x2 a0 a1 b0 b1
                        go_wp2_with fail
                        go_roundw
                        case rel => exact ⟨q + 1, x1, adA g z, _, _, by omega, by go_num, Y, HT⟩
                        case measure => simp [intOf]; omega
                      · have HT : Hid (Stg (adA g z) a b d) := stg_yes HS.out HE.out hn4.out (na_other kf) (na_other kfb)
                        have ef := eqk_no kf
                        have eg := eqk_no kfb
                        clear k3 k4 kf kfb kab
                        have c0 := (CA.out _ Y.out.lw).c0
                        rw [HKd.out] at c0
                        obtain ⟨a0, a1⟩ := (Bp.atP Y.out.ka)
                        obtain ⟨b0, b1⟩ := (Bp.atP Y.out.kb)
                        go_upto_region 19 with fail
                        clear c0 a0 a1 b0 b1

                        obtain ⟨f0, f1, f2, f3, f4⟩ := (CA.out _ Y.out.lw).always
                        obtain ⟨a0, a1⟩ := (Bp.atP Y.out.ka).always
                        obtain ⟨b0, b1⟩ := (Bp.atP Y.out.kb).always
                        have hne : Nonempty (Later w9) := ⟨⟨_, Below.refl _ _⟩⟩
                        refine wp_region_later (by kernel_rfl) (by kernel_rfl) ?_
                        repeat (go_big_quiet_step (fail))
                        refine wpQuiet_nil ?_
                        rintro w10 ⟨⟨_, b9⟩, rfl⟩
                        replace Y := hid (Y.out.below b9)
                        replace N := hid (N.out.below b9)
                        clear b9 f0 f1 f2 f3 f4 a0 a1 b0 b1 hne
                        go_upto_region 23 with fail

                        obtain ⟨f0, f1, f2, f3, f4⟩ := (CA.out _ Y.out.lw).always
                        obtain ⟨a0, a1⟩ := (Bp.atP Y.out.ka).always
                        obtain ⟨b0, b1⟩ := (Bp.atP Y.out.kb).always
                        have hne : Nonempty (Later w10) := ⟨⟨_, Below.refl _ _⟩⟩
                        refine wp_region_later (by kernel_rfl) (by kernel_rfl) ?_
                        repeat (go_big_quiet_step (fail))
                        refine wpQuiet_nil ?_
                        rintro w11 ⟨⟨_, b9⟩, rfl⟩
                        replace Y := hid (Y.out.below b9)
                        replace N := hid (N.out.below b9)
                        clear b9 f0 f1 f2 f3 f4 a0 a1 b0 b1 hne

                        obtain ⟨x0, x1', x2⟩ := Y.out.gb.inW.inG
                        obtain ⟨a0, a1⟩ := (Bp.atP Y.out.ka)
                        obtain ⟨b0, b1⟩ := (Bp.atP Y.out.kb)
                        go_wp2_with fail
                        refine (ds_at d Y.out.has HT.out.ok HT.out.ds).mono ?_
                        rintro e w8 ⟨rfl, b8⟩
                        replace Y := hid (Y.out.below b8)
                        clear b8 x0 x1' x2 a0 a1 b0 b1
                        go_wp2_with fail
                        go_roundw
                        case rel => exact ⟨q + 1, x1, adA g z, _, _, by omega, by go_num, Y, HT⟩
                        case measure => simp [intOf]; omega
                · have HT : Hid (Stg (adA g z) a b d) := stg_yes HS.out HE.out (fun h => k4 h.1) (na_no k3) (na_no k3)
                  obtain ⟨kd, hkd⟩ : ∃ kd, z.kind = kd := ⟨_, rfl⟩
                  have HKd := hid hkd
                  have e3 : (kd == 3) = false := by rw [← hkd]; simp [k3]
                  rw [hkd] at e4
                  clear k3 k4 hkd
                  obtain ⟨f0, f1, f2, f3, f4⟩ := (CA.out _ Y.out.lw).always
                  obtain ⟨a0, a1⟩ := (Bp.atP Y.out.ka).always
                  obtain ⟨b0, b1⟩ := (Bp.atP Y.out.kb).always
                  rw [HKd.out] at f0
                  have hne : Nonempty (Later w3) := ⟨⟨_, Below.refl _ _⟩⟩

                  go_upto_region 15 with fail
                  refine wp_region_later (by kernel_rfl) (by kernel_rfl) ?_
                  repeat (go_big_quiet_step (fail))
                  refine wpQuiet_nil ?_
                  rintro w9 ⟨⟨_, b9⟩, rfl⟩
                  replace Y := hid (Y.out.below b9)
                  replace N := hid (N.out.below b9)
                  clear b9 f0 f1 f2 f3 f4 a0 a1 b0 b1 hne

                  have c0 := (CA.out _ Y.out.lw).c0
                  rw [HKd.out] at c0
                  go_upto_region 25 with fail
                  clear c0

                  obtain ⟨x0, x1', x2⟩ := Y.out.gb.inW.inG
                  obtain ⟨a0, a1⟩ := (Bp.atP Y.out.ka)
                  obtain ⟨b0, b1⟩ := (Bp.atP Y.out.kb)
                  go_wp2_with fail
                  refine (ds_at d Y.out.has HT.out.ok HT.out.ds).mono ?_
                  rintro e w8 ⟨rfl, b8⟩
                  replace Y := hid (Y.out.below b8)
                  clear b8 x0 x1' x2 a0 a1 b0 b1
                  go_wp2_with fail
                  go_roundw
                  case rel => exact ⟨q + 1, x1, adA g z, _, _, by omega, by go_num, Y, HT⟩
                  case measure => simp [intOf]; omega
            · have HT : Hid (Stg (adA g z) a b d) := stg_no HS.out (by rw [hv]; exact hv0)
              have hvt : (v != 0) = true := by simp [hv0]
              clear hv hv0
              go_wp2_with fail
              go_roundw
              case rel => exact ⟨q + 1, x1, adA g z, a, b, by omega, by go_num, Y, HT⟩
              case measure => simp [intOf]; omega
        · obtain rfl : q = m := by omega
          have i2 : ¬ (q : Int) < (q : Int) := by omega
          go_wp2_with fail
          refine (live_any _).mono ?_
          rintro e w8 ⟨rfl, b8⟩
          replace Y := hid (Y.out.below b8)
          clear b8
          go_wp2_with fail
          go_ret
          exact ⟨rfl, Y.out.lw⟩
/-- GHOSTSTAYS. -/
theorem stays_any (ao : Option Addr) (n cap : Nat) (l : List Bi) (a b : P) (mo : Option Addr) (m mc : Nat) (r : List Bi) (w : World) (HL : Hid (HasZ w ao n cap l)) (HH : Hid (HasZ w mo m mc r)) :
    Calls Try.prog 7 #[.slice ao n cap, (.agg #[.int .i64 a.1, .int .i64 a.2]), (.agg #[.int .i64 b.1, .int .i64 b.2]), .slice mo m mc] w fun e w' => e = .returned (.bool true) ∧ Below w.heap.size w w' := by
  by_cases h : n ≤ 80
  · by_cases h2 : m ≤ 80
    · exact stays_in ao n cap l a b mo m mc r w h h2 HL HH
    · exact stays_long2 ao n cap a b mo m mc w h (by omega)
  · exact stays_long1 ao n cap a b mo m mc w (by omega)
end Go.Proofs.Ytcldnacpddebcaa.Gh
