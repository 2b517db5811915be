/- What the program's Same, Who, Above, Descends (of ghosts) do. -/
import Derived.Test.YtcldnacpddebcaaGhW1
import Derived.Test.YtcldnacpddebcaaGhRSame
import Derived.Test.YtcldnacpddebcaaGhRAbv
namespace Go.Proofs.Ytcldnacpddebcaa.Gh
open Go.RowKit
open Go.Proofs.Ytcldnacpddebcaa.Tr

set_option maxRecDepth 100000 in
set_option maxHeartbeats 1000000 in
/-- Same: WHETHER TWO GHOSTS ARE THE SAME. -/
theorem pgsame_any (y z : Gv) (g h : Gt) (w : World) (h1 : y.k.n ≤ 9223372036854775806) (h2 : y.i.n ≤ 9223372036854775806) (h3 : y.f.n ≤ 9223372036854775806) (HY : Hid (HasG w y g)) (HZ : Hid (HasG w z h)) :
    Calls Try.prog 17 #[(.agg #[.slice y.k.o y.k.n y.k.c, .slice y.i.o y.i.n y.i.c, .slice y.f.o y.f.n y.f.c]), (.agg #[.slice z.k.o z.k.n z.k.c, .slice z.i.o z.i.n z.i.c, .slice z.f.o z.f.n z.f.c])] w fun e w' => e = .returned (.bool (sgB g h)) ∧ Below w.heap.size w w' := by
  have H1 := hid h1
  have H2 := hid h2
  have H3 := hid h3
  clear h1 h2 h3
  go_enter Try.func17, Try.ntmps17
  go_wp2_with fail
  obtain ⟨g1, g2, g3⟩ := gg_new w y z 25 25
  have HA := hid g1
  have HC := hid g2
  have HB := hid g3
  clear g1 g2 g3
  generalize (w.alloc (.cells #[.slice y.k.o y.k.n y.k.c, .slice y.i.o y.i.n y.i.c, .slice y.f.o y.f.n y.f.c] 25)).alloc (.cells #[.slice z.k.o z.k.n z.k.c, .slice z.i.o z.i.n z.i.c, .slice z.f.o z.f.n z.f.c] 25) = W at HA HC HB ⊢
  refine (equalK_any y.k.o z.k.o y.k.n z.k.n y.k.c z.k.c g.ks h.ks W H1.out (HY.out.ks.below HB.out) (HZ.out.ks.below HB.out)).mono ?_
  rintro e w1 ⟨rfl, b1⟩
  replace HB := hid (q_trans HB.out b1)
  replace HA := hid (HA.out.below b1)
  replace HC := hid (HC.out.below b1)
  clear b1
  obtain ⟨c0, c1, c2⟩ := HA.out
  obtain ⟨d0, d1, d2⟩ := HC.out
  by_cases p1 : g.ks = h.ks
  · rw [decide_eq_true p1]
    have P1 := hid p1
    clear p1
    go_wp2_with fail
    refine (equalI_any y.i.o z.i.o y.i.n z.i.n y.i.c z.i.c g.is h.is _ H2.out (HY.out.is.below HB.out) (HZ.out.is.below HB.out)).mono ?_
    rintro e w2 ⟨rfl, b2⟩
    replace HB := hid (q_trans HB.out b2)
    replace HA := hid (HA.out.below b2)
    replace HC := hid (HC.out.below b2)
    clear b2 c0 c1 c2 d0 d1 d2
    obtain ⟨c0, c1, c2⟩ := HA.out
    obtain ⟨d0, d1, d2⟩ := HC.out
    by_cases p2 : g.is = h.is
    · rw [decide_eq_true p2]
      have P2 := hid p2
      clear p2
      go_wp2_with fail
      refine (equalI_any y.f.o z.f.o y.f.n z.f.n y.f.c z.f.c g.fr h.fr _ H3.out (HY.out.fr.below HB.out) (HZ.out.fr.below HB.out)).mono ?_
      rintro e w3 ⟨rfl, b3⟩
      replace HB := hid (q_trans HB.out b3)
      clear b3 c0 c1 c2 d0 d1 d2
      go_wp2_with fail
      go_ret
      exact ⟨ret_bool (by simp [sgB, P1.out, P2.out]), HB.out⟩
    · rw [decide_eq_false p2]
      have P2 := hid p2
      clear p2
      go_wp2_with fail
      go_ret
      exact ⟨ret_bool (by simp [sgB, P2.out]), HB.out⟩
  · rw [decide_eq_false p1]
    have P1 := hid p1
    clear p1
    go_wp2_with fail
    go_ret
    exact ⟨ret_bool (by simp [sgB, P1.out]), HB.out⟩
set_option maxRecDepth 100000 in
set_option maxHeartbeats 1000000 in
/-- Who: WHO IS IN A SLOT. -/
theorem pwho_any (y : Gv) (g : Gt) (k : P) (w : World) (hs : y.k.n ≤ 9223372036854775806) (HH : Hid (HasG w y g)) :
    Calls Try.prog 18 #[(.agg #[.slice y.k.o y.k.n y.k.c, .slice y.i.o y.i.n y.i.c, .slice y.f.o y.f.n y.f.c]), (.agg #[.int .i64 k.1, .int .i64 k.2])] w fun e w' => e = .returned (.tuple #[.int .i64 (whI g k), .bool (whB g k)]) ∧ Below w.heap.size w w' := by
  have HI := hid HH.out.is.len
  go_enter Try.func18, Try.ntmps18
  go_wp2_with fail
  obtain ⟨g1, g2, g3⟩ := gk_new w y k 25 27
  have HG := hid g1
  have HB := hid g3
  clear g2
  refine (indexK_any y.k.o y.k.n y.k.c g.ks k _ hs (HH.out.ks.below g3)).mono ?_
  clear g1 g3
  rintro e w1 ⟨rfl, b1⟩
  replace HB := hid (q_trans HB.out b1)
  replace HG := hid (HG.out.below b1)
  clear b1
  obtain ⟨c0, c1, c2⟩ := HG.out
  cases hk : fk k g.ks with
  | none =>
    rw [fkI_none hk]
    have HE : Hid (who g k = none) := who_no hk
    clear hk
    go_wp2_with fail
    go_ret2
    exact ⟨by simp [whI, whB, HE.out], HB.out⟩
  | some i =>
    rw [fkI_some hk]
    have i0 : ¬ (i : Int) < 0 := by omega
    by_cases hi : i < y.i.n
    · have HE : Hid (who g k = some (g.is.getD i 0)) := by
        have h : i < g.is.length := by have := HI.out; omega
        show (fk k g.ks).bind _ = _
        rw [hk]
        simp [List.getD, h]
      clear hk
      obtain ⟨a, ea, ca⟩ := (HH.out.is.below HB.out).cell i hi
      rw [ea] at c1
      obtain ⟨x, hx⟩ : ∃ x, g.is.getD i 0 = x := ⟨_, rfl⟩
      rw [hx] at ca
      have HX := hid hx
      clear hx ea
      have i1 : ¬ (i : Int) ≥ (y.i.n : Int) := by omega
      have i2 : (0 : Int) ≤ (i : Int) := by omega
      have i3 : (i : Int) < (y.i.n : Int) := by omega
      go_wp2_with fail
      go_ret2
      exact ⟨by rw [← HX.out]; simp [whI, whB, HE.out], HB.out⟩
    · have HE : Hid (who g k = none) := by
        have h : g.is.length ≤ i := by have := HI.out; omega
        show (fk k g.ks).bind _ = _
        rw [hk]
        simp [h]
      clear hk
      have i1 : (i : Int) ≥ (y.i.n : Int) := by omega
      go_wp2_with fail
      go_ret2
      exact ⟨by simp [whI, whB, HE.out], HB.out⟩
set_option maxRecDepth 100000 in
set_option maxHeartbeats 2000000 in
/-- Above: WHO IS ABOVE. -/
theorem pabv_any (y : Gv) (fr : List Int) (id : Int) (w : World) (hs : y.f.n ≤ 5000) (HH : Hid (Has w y.f.o y.f.n y.f.c fr)) :
    Calls Try.prog 21 #[(.agg #[.slice y.k.o y.k.n y.k.c, .slice y.i.o y.i.n y.i.c, .slice y.f.o y.f.n y.f.c]), .int .i64 id] w fun e w' => ∃ xo xn xc, e = .returned (.slice xo xn xc) ∧ Has w' xo xn xc (abv fr id) ∧ Below w.heap.size w w' := by
  have HN := hid HH.out.len
  go_enter Try.func21, Try.ntmps21
  go_wp2_with fail
  have HG0 := hid (inG_new w y 25)
  have HB0 := hid (alloc_below w (.cells #[.slice y.k.o y.k.n y.k.c, .slice y.i.o y.i.n y.i.c, .slice y.f.o y.f.n y.f.c] 25))
  generalize w.alloc (.cells #[.slice y.k.o y.k.n y.k.c, .slice y.i.o y.i.n y.i.c, .slice y.f.o y.f.n y.f.c] 25) = W0 at HG0 HB0 ⊢
  go_loopw [1, 5] (fun i v wr => ∃ (x : Int) (m : Nat) (lo : Option Addr) (lc : Nat) (l : List Int), (m = 0 ∨ m + x.toNat < y.f.n) ∧ i = .int .i64 x ∧ v = .slice lo m lc ∧ Hid (abv fr id = l ++ abv fr x) ∧ Hid (MineI wr W0.heap.size lo m lc l) ∧ Hid (Below W0.heap.size W0 wr)) (fun i _ _ => (intOf i).toNat)
  case atStart => exact ⟨id, 0, none, 0, [], Or.inl rfl, rfl, rfl, rfl, mineI_nil _ _, Below.refl _ _⟩
  case round =>
    obtain ⟨x, m, lo, lc, l, hm, rfl, rfl, HE, HM, HC⟩ := hrel
    obtain ⟨c0, c1, c2⟩ := HG0.out.below HC.out
    have HB := hid (q_trans HB0.out HC.out)
    by_cases hx : 0 ≤ x ∧ x < y.f.n
    · obtain ⟨q, rfl⟩ : ∃ q : Nat, x = q := ⟨x.toNat, by omega⟩
      have i0 : (q : Int) ≥ 0 := by omega
      have i1 : (0 : Int) ≤ (q : Int) := by omega
      have i2 : (q : Int) < (y.f.n : Int) := by omega
      have hq : q < y.f.n := by omega
      have HQ : Hid (q < fr.length) := by have := HN.out; unfold Hid; omega
      obtain ⟨a, ea, ca⟩ := (HH.out.below HB.out).cell q hq
      rw [ea] at c2
      obtain ⟨u, hu⟩ : ∃ u, fr.getD q 0 = u := ⟨_, rfl⟩
      rw [hu] at ca
      have HU := hid hu
      clear hu ea hx
      by_cases d1 : u < 0
      · have HA : Hid (abv fr q = []) := abv_end HQ.out (Or.inl (by show fr.getD q 0 < 0; rw [HU.out]; exact d1))
        go_wp2_with fail
        go_ret
        exact ⟨lo, m, lc, rfl, by rw [HE.out, HA.out, List.append_nil]; exact HM.out.has, HB.out⟩
      · by_cases d2 : (q : Int) ≤ u
        · have HA : Hid (abv fr q = []) := abv_end HQ.out (Or.inr (by show (q : Int) ≤ fr.getD q 0; rw [HU.out]; exact d2))
          have d3 : u ≥ (q : Int) := d2
          go_wp2_with fail
          go_ret
          exact ⟨lo, m, lc, rfl, by rw [HE.out, HA.out, List.append_nil]; exact HM.out.has, HB.out⟩
        · have d3 : ¬ u ≥ (q : Int) := d2
          obtain ⟨p, rfl⟩ : ∃ p : Nat, u = p := ⟨u.toNat, by omega⟩
          have hp : p < q := by omega
          have HA : Hid (abv fr q = (p : Int) :: abv fr p) := abv_step HQ.out HU.out hp
          have HO := hid (HM.out.2.alloc (.cells #[.int .i64 (p : Int)] 3))
          have HRw := hid (one_int wr (p : Int) 3)
          have HZ := hid (q_alloc HC.out (.cells #[.int .i64 (p : Int)] 3)).size
          go_wp2_with (at_builtin; go_loud (refine wpList_append_row _ rfl (.tmp 28) (.tmp 30) 23 3 _ 1 8 rfl Try.underlying23 infoN rfl (by decide) (by decide) W0.heap.size _ m (vals l) rfl HO.out _ 1 1 (vals [(p : Int)]) rfl rfl (fun h => by cases h) HRw.out (vals_one _) (by omega) HZ.out ?_; intro ao3 cap3 w3 own3 grow3; apply Hid.out))
          have HMB : Hid (MineI w3 W0.heap.size ao3 (m + 1) cap3 (l ++ [(p : Int)]) ∧ Below W0.heap.size W0 w3) := by
            have h1 := MineI.append (HM.out.below (alloc_below _ _)) HZ.out (k := [(p : Int)]) rfl own3 grow3
            exact ⟨h1.1, (q_alloc HC.out _).trans h1.2⟩
          clear own3 grow3 HO HRw HZ c0 c1 c2 ca
          unfold Hid
          go_wp2_with fail
          go_roundw
          case rel => exact ⟨p, m + 1, ao3, cap3, l ++ [(p : Int)], Or.inr (by omega), rfl, rfl, by rw [HE.out, HA.out]; simp [Hid], HMB.out.1, HMB.out.2⟩
          case measure => simp [intOf]; omega
    · have HA : Hid (abv fr x = []) := abv_out (by have := HN.out; omega)
      by_cases e0 : 0 ≤ x
      · have i0 : x ≥ 0 := e0
        have i1 : ¬ x < (y.f.n : Int) := by omega
        go_wp2_with fail
        go_ret
        exact ⟨lo, m, lc, rfl, by rw [HE.out, HA.out, List.append_nil]; exact HM.out.has, HB.out⟩
      · have i0 : ¬ x ≥ 0 := e0
        go_wp2_with fail
        go_ret
        exact ⟨lo, m, lc, rfl, by rw [HE.out, HA.out, List.append_nil]; exact HM.out.has, HB.out⟩
set_option maxRecDepth 100000 in
set_option maxHeartbeats 2000000 in
/-- Descends: WHETHER ONE COMES OF ANOTHER. -/
theorem pdsg_any (y : Gv) (g : Gt) (a b : P) (w : World) (hs : y.k.n ≤ 5000) (hf : y.f.n ≤ 5000) (HH : Hid (HasG w y g)) :
    Calls Try.prog 23 #[(.agg #[.slice y.k.o y.k.n y.k.c, .slice y.i.o y.i.n y.i.c, .slice y.f.o y.f.n y.f.c]), (.agg #[.int .i64 a.1, .int .i64 a.2]), (.agg #[.int .i64 b.1, .int .i64 b.2])] w fun e w' => e = .returned (.bool (dsG g a b)) ∧ Below w.heap.size w w' := by
  have HN := hid HH.out.fr.len
  go_enter Try.func23, Try.ntmps23
  go_wp2_with fail
  obtain ⟨g1, g2, g3, g4⟩ := gkk_new w y a b 25 27 27
  have HG := hid g1
  have HK := hid g3
  have HB := hid g4
  clear g1 g2 g3 g4
  generalize ((w.alloc (.cells #[.slice y.k.o y.k.n y.k.c, .slice y.i.o y.i.n y.i.c, .slice y.f.o y.f.n y.f.c] 25)).alloc (.cells #[.int .i64 a.1, .int .i64 a.2] 27)).alloc (.cells #[.int .i64 b.1, .int .i64 b.2] 27) = W at HG HK HB ⊢
  refine (pwho_any y g a W (by omega) (HH.out.below HB.out)).mono ?_
  rintro e w1 ⟨rfl, b1⟩
  replace HB := hid (q_trans HB.out b1)
  replace HG := hid (HG.out.below b1)
  replace HK := hid (HK.out.below b1)
  clear b1
  obtain ⟨c0, c1, c2⟩ := HG.out
  obtain ⟨k0, k1⟩ := HK.out
  go_wp2_with fail
  refine (pwho_any y g b w1 (by omega) (HH.out.below HB.out)).mono ?_
  rintro e w2 ⟨rfl, b2⟩
  replace HB := hid (q_trans HB.out b2)
  replace HG := hid (HG.out.below b2)
  clear b2 c0 c1 c2 k0 k1 HK
  obtain ⟨c0, c1, c2⟩ := HG.out
  have HD := hid (ds_wh g a b)
  cases p1 : whB g a with
  | false =>
    rw [p1] at HD
    go_wp2_with fail
    go_ret
    exact ⟨ret_bool (by rw [HD.out]; rfl), HB.out⟩
  | true =>
    rw [p1] at HD
    cases p2 : whB g b with
    | false =>
      rw [p2] at HD
      go_wp2_with fail
      go_ret
      exact ⟨ret_bool (by rw [HD.out]; rfl), HB.out⟩
    | true =>
      rw [p2] at HD
      replace HD : Hid (dsG g a b = decide (whI g b ∈ abv g.fr (whI g a))) := HD.out
      clear p1 p2
      go_wp2_with fail
      refine (pabv_any y g.fr (whI g a) w2 hf (HH.out.fr.below HB.out)).mono ?_
      rintro e w3 ⟨xo, xn, xc, rfl, h3, b3⟩
      replace HB := hid (q_trans HB.out b3)
      have HX := hid h3
      have hxn : xn ≤ 5000 := by have h1 := h3.len; have h2 := abv_len g.fr (whI g a); have := HN.out; omega
      clear b3 c0 c1 c2 HG h3
      go_wp2_with fail
      refine (contains_any xo xn xc _ (whI g b) w3 (by omega) HX).mono ?_
      rintro e w4 ⟨rfl, b4⟩
      replace HB := hid (q_trans HB.out b4)
      clear b4
      go_wp2_with fail
      go_ret
      exact ⟨ret_bool HD.out.symm, HB.out⟩
end Go.Proofs.Ytcldnacpddebcaa.Gh
