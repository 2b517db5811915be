/- GhostTells: every ghost: who is in a slot, who is above, who descends from whom. -/
import Derived.Test.YtcldnacpddebcaaGhSmall
import Derived.Test.YtcldnacpddebcaaGhLive
namespace Go.Proofs.Ytcldnacpddebcaa.Gh
open Go.RowKit
open Go.Proofs.Ytcldnacpddebcaa.Tr

/-- A ghost's box and two keys'. -/
abbrev ST (c : Nat) (y : Gv) (d : Nat) (k : P) (e : Nat) (l : P) (w : World) : Prop := w.cell? ⟨c, 0, none⟩ = some (.slice y.k.o y.k.n y.k.c) ∧ w.cell? ⟨c, 1, none⟩ = some (.slice y.i.o y.i.n y.i.c) ∧ w.cell? ⟨c, 2, none⟩ = some (.slice y.f.o y.f.n y.f.c) ∧ w.cell? ⟨d, 0, none⟩ = some (.int .i64 k.1) ∧ w.cell? ⟨d, 1, none⟩ = some (.int .i64 k.2) ∧ w.cell? ⟨e, 0, none⟩ = some (.int .i64 l.1) ∧ w.cell? ⟨e, 1, none⟩ = some (.int .i64 l.2)
theorem st_of {w : World} {c d e : Nat} {y : Gv} {k l : P} (h : InG w c y) (h1 : AtP w ⟨d, 0, none⟩ k) (h2 : AtP w ⟨e, 0, none⟩ l) : ST c y d k e l w := ⟨h.c0, h.c1, h.c2, h1.c0, h1.c1, h2.c0, h2.c1⟩
theorem st_keep {c d e : Nat} {y : Gv} {k l : P} {w w' : World} (h : ST c y d k e l w) (q : Below w.heap.size w w') : ST c y d k e l w' := by
  obtain ⟨a0, a1, a2, a3, a4, a5, a6⟩ := h
  exact ⟨(q.cell (World.block_lt_of_cell? w _ a0)).trans a0, (q.cell (World.block_lt_of_cell? w _ a1)).trans a1, (q.cell (World.block_lt_of_cell? w _ a2)).trans a2, (q.cell (World.block_lt_of_cell? w _ a3)).trans a3, (q.cell (World.block_lt_of_cell? w _ a4)).trans a4, (q.cell (World.block_lt_of_cell? w _ a5)).trans a5, (q.cell (World.block_lt_of_cell? w _ a6)).trans a6⟩
theorem st_drew {c d e : Nat} {y : Gv} {k l : P} {w : World} (h : ST c y d k e l w) : ST c y d k e l w.drew := h
theorem abv_n {w : World} {xo : Option Addr} {xn xc : Nat} {fr : List Int} {id : Int} (h : Has w xo xn xc (abv fr id)) (hf : fr.length ≤ 5000) : xn ≤ 5000 := by
  have h1 := h.len
  have h2 := abv_len fr id
  omega
set_option maxRecDepth 100000 in
set_option maxHeartbeats 8000000 in
/-- GHOSTTELLS. -/
theorem tells_any (y : Gv) (g : Gt) (a c : P) (id : Int) (w : World) (HY : Hid (HasG w y g)) :
    Calls Try.prog 4 #[(.agg #[.slice y.k.o y.k.n y.k.c, .slice y.i.o y.i.n y.i.c, .slice y.f.o y.f.n y.f.c]), (.agg #[.int .i64 a.1, .int .i64 a.2]), (.agg #[.int .i64 c.1, .int .i64 c.2]), .int .i64 id] w fun e w' => e = .returned (.bool true) ∧ Below w.heap.size w w' := by
  have HF := hid HY.out.fr.len
  go_enter Try.func4, Try.ntmps4
  go_wp2_with fail
  obtain ⟨g1, g2, g3, g4⟩ := gkk_new w y a c 25 27 27
  have G1 := hid g1
  have K1 := hid g2
  have K2 := hid g3
  have B := hid g4
  clear g1 g2 g3 g4
  generalize ((w.alloc (.cells #[.slice y.k.o y.k.n y.k.c, .slice y.i.o y.i.n y.i.c, .slice y.f.o y.f.n y.f.c] 25)).alloc (.cells #[.int .i64 a.1, .int .i64 a.2] 27)).alloc (.cells #[.int .i64 c.1, .int .i64 c.2] 27) = W0 at G1 K1 K2 B ⊢
  refine (small_any y _).mono ?_
  rintro e w1 ⟨rfl, b1⟩
  replace G1 := hid (G1.out.below b1)
  replace K1 := hid (K1.out.below b1)
  replace K2 := hid (K2.out.below b1)
  replace B := hid (q_trans B.out b1)
  clear b1
  cases s1 : smB y with
  | false =>
    clear s1
    go_wp2_with fail
    refine (live_any _).mono ?_
    rintro e w2 ⟨rfl, b2⟩
    replace B := hid (q_trans B.out b2)
    clear b2
    go_wp2_with fail
    go_ret
    exact ⟨rfl, B.out⟩
  | true =>
    have hs := sm_len s1
    clear s1
    obtain ⟨c0, c1, c2⟩ := G1.out
    obtain ⟨k0, k1⟩ := K1.out
    go_wp2_with fail
    refine (pwho_any y g a w1 (by omega) (HY.out.below B.out)).mono ?_
    rintro e w2 ⟨rfl, b2⟩
    replace G1 := hid (G1.out.below b2)
    replace K1 := hid (K1.out.below b2)
    replace K2 := hid (K2.out.below b2)
    replace B := hid (q_trans B.out b2)
    clear b2 c0 c1 c2 k0 k1
    obtain ⟨c0, c1, c2⟩ := G1.out
    obtain ⟨k0, k1⟩ := K1.out
    go_wp2_with fail
    refine (rwho_any y g a w2 (by omega) (HY.out.below B.out)).mono ?_
    rintro e W ⟨rfl, b3⟩
    replace G1 := hid (G1.out.below b3)
    replace K1 := hid (K1.out.below b3)
    replace K2 := hid (K2.out.below b3)
    replace B := hid (q_trans B.out b3)
    clear b3 c0 c1 c2 k0 k1
    have HW := hid (HY.out.below B.out)
    have hS : ST w.heap.size y (w.heap.size + 1) a (w.heap.size + 2) c W := st_of G1.out K1.out K2.out
    have HS : Hid (ST w.heap.size y (w.heap.size + 1) a (w.heap.size + 2) c W) := hS
    have V : Hid (Below W.heap.size W W) := Below.refl _ _
    obtain ⟨v, hv⟩ : ∃ v, whI g a = v := ⟨_, rfl⟩
    obtain ⟨u, hu⟩ : ∃ u, whB g a = u := ⟨_, rfl⟩
    rw [hv, hu]
    clear hv hu
    have hvv : (v == v) = true := by simp
    have huu : (u == u) = true := by simp
    obtain ⟨d, hd⟩ : ∃ d, dsG g a c = d := ⟨_, rfl⟩
    have hdd : (d == d) = true := by simp
    go_upto_region 5 with fail
    go_region_held3 (ST w.heap.size y (w.heap.size + 1) a (w.heap.size + 2) c) (first | with_reducible assumption | with_reducible exact st_drew hS | with_reducible exact HS.out | with_reducible exact st_drew HS.out | fail)
        (first
          | (go_at_call 10; refine (live_any _).mono ?_; rintro e wk ⟨rfl, b⟩; replace V : Hid (Below W.heap.size W wk) := (by first | exact q_trans V.out b | exact q_trans V.out.drew b); replace HS : Hid (ST w.heap.size y (w.heap.size + 1) a (w.heap.size + 2) c wk) := st_keep hS V.out; clear b)
          | (go_at_call 24; refine (rdsg_any y g a c _ (by omega) (by omega) (by first | exact HW.out.below V.out | exact HW.out.below V.out.drew)).mono ?_; rintro e wk ⟨rfl, b⟩; replace V : Hid (Below W.heap.size W wk) := (by first | exact q_trans V.out b | exact q_trans V.out.drew b); replace HS : Hid (ST w.heap.size y (w.heap.size + 1) a (w.heap.size + 2) c wk) := st_keep hS V.out; clear b)
          | (go_at_call 23; refine (pdsg_any y g a c _ (by omega) (by omega) (by first | exact HW.out.below V.out | exact HW.out.below V.out.drew)).mono ?_; rintro e wk ⟨rfl, b⟩; replace V : Hid (Below W.heap.size W wk) := (by first | exact q_trans V.out b | exact q_trans V.out.drew b); replace HS : Hid (ST w.heap.size y (w.heap.size + 1) a (w.heap.size + 2) c wk) := st_keep hS V.out; clear b)
          | (go_at_call 20; refine (ints_any xo ro xn rn xc rc (abv g.fr id) (abv g.fr id) _ (by omega) (by first | exact HX.out | exact HX.out.below (Below.refl _ _).drew) (by first | exact HR.out | exact HR.out.below (Below.refl _ _).drew)).mono ?_; rintro e wk ⟨rfl, b⟩; replace V : Hid (Below W.heap.size W wk) := (by first | exact q_trans V.out b | exact q_trans V.out.drew b); replace HS : Hid (ST w.heap.size y (w.heap.size + 1) a (w.heap.size + 2) c wk) := st_keep hS V.out; clear b)
          | (go_at_call 22; refine (rabv_any y g.fr id _ (by omega) (by first | exact (HW.out.below V.out).fr | exact (HW.out.below V.out.drew).fr)).mono ?_; rintro e wR ⟨ro, rn, rc, rfl, hr, b⟩; have HR := hid hr; clear hr; replace HX : Hid (Has wR xo xn xc (abv g.fr id)) := (by first | exact HX.out.below b | exact HX.out.below (q_trans (Below.refl _ _).drew b)); replace V : Hid (Below W.heap.size W wR) := (by first | exact q_trans V.out b | exact q_trans V.out.drew b); replace HS : Hid (ST w.heap.size y (w.heap.size + 1) a (w.heap.size + 2) c wR) := st_keep hS V.out; clear b)
          | (go_at_call 21; refine (pabv_any y g.fr id _ (by omega) (by first | exact (HW.out.below V.out).fr | exact (HW.out.below V.out.drew).fr)).mono ?_; rintro e wX ⟨xo, xn, xc, rfl, hx, b⟩; have HX := hid hx; have hxn : xn ≤ 5000 := (abv_n hx (by have := HF.out; omega)); clear hx; replace V : Hid (Below W.heap.size W wX) := (by first | exact q_trans V.out b | exact q_trans V.out.drew b); replace HS : Hid (ST w.heap.size y (w.heap.size + 1) a (w.heap.size + 2) c wX) := st_keep hS V.out; clear b)
          | fail)
    all_goals go_wp2_with fail
    all_goals go_ret
    all_goals exact ⟨rfl, q_trans B.out V.out⟩
end Go.Proofs.Ytcldnacpddebcaa.Gh
