/- What with does. -/
import Derived.Test.YtpcdjpcdmnjdfabPoW4
namespace Go.Proofs.Ytpcdjpcdmnjdfab.Po
open Go.RowKit

/-- The boxes of with: the port's, the waiter's, the answer's. -/
structure Bw (w wr : World) (p q : Pt) (y z : Hd) (x : Wt) : Prop where
  a : Pb wr w.heap.size p y
  b : Wb wr (w.heap.size + 1) x
  r : Pb wr (w.heap.size + 2) q z
  low : Below w.heap.size w wr
theorem Bw.below {w wr w' : World} {p q : Pt} {y z : Hd} {x : Wt} (h : Bw w wr p q y z x) (b : Below wr.heap.size wr w') : Bw w w' p q y z x := ⟨h.a.below b, h.b.below b, h.r.below b, q_trans h.low b⟩
theorem bw_new (w : World) (p q : Pt) (y z : Hd) (x : Wt) : Bw w (((w.alloc (.cells #[.int .i64 p.k, .int .i64 p.w, .slice y.o y.n y.c] 25)).alloc (.cells #[.int .i64 x.c, .int .i64 x.v, .int .i64 x.b, .bool x.h, .int .i64 x.o, .int .i64 x.s, .int .i64 x.g, .bool x.t] 30)).alloc (.cells #[.int .i64 q.k, .int .i64 q.w, .slice z.o z.n z.c] 25)) p q y z x := by
  have s1 : (w.alloc (.cells #[.int .i64 p.k, .int .i64 p.w, .slice y.o y.n y.c] 25)).heap.size = w.heap.size + 1 := by simp
  have s2 : ((w.alloc (.cells #[.int .i64 p.k, .int .i64 p.w, .slice y.o y.n y.c] 25)).alloc (.cells #[.int .i64 x.c, .int .i64 x.v, .int .i64 x.b, .bool x.h, .int .i64 x.o, .int .i64 x.s, .int .i64 x.g, .bool x.t] 30)).heap.size = w.heap.size + 2 := by simp
  refine ⟨((pb_new w p y).below (alloc_below _ _)).below (alloc_below _ _), ?_, ?_, q_alloc (q_alloc (alloc_below _ _) _) _⟩
  · have h := (wb_new (w.alloc (.cells #[.int .i64 p.k, .int .i64 p.w, .slice y.o y.n y.c] 25)) x).below (alloc_below _ (.cells #[.int .i64 q.k, .int .i64 q.w, .slice z.o z.n z.c] 25))
    rwa [s1] at h
  · have h := pb_new ((w.alloc (.cells #[.int .i64 p.k, .int .i64 p.w, .slice y.o y.n y.c] 25)).alloc (.cells #[.int .i64 x.c, .int .i64 x.v, .int .i64 x.b, .bool x.h, .int .i64 x.o, .int .i64 x.s, .int .i64 x.g, .bool x.t] 30)) q z
    rwa [s2] at h
theorem Bw.lt {w wr : World} {p q : Pt} {y z : Hd} {x : Wt} (h : Bw w wr p q y z x) : w.heap.size + 2 < wr.heap.size := h.r.lt
theorem Bw.setKQ {w wx : World} {p q : Pt} {y z : Hd} {x : Wt} (h : Bw w wx p q y z x) (k : Int) (l : List Wt) (v : Hd) : Bw w ((wx.setCell ⟨w.heap.size, 0, none⟩ (.int .i64 k)).setCell ⟨w.heap.size, 2, none⟩ (.slice v.o v.n v.c)) ⟨k, p.w, l⟩ q v z x :=
  have kp : Kept (fun i => i = w.heap.size) wx ((wx.setCell ⟨w.heap.size, 0, none⟩ (.int .i64 k)).setCell ⟨w.heap.size, 2, none⟩ (.slice v.o v.n v.c)) := (kept_set (fun i => i = w.heap.size) wx ⟨w.heap.size, 0, none⟩ _ rfl).setCell ⟨w.heap.size, 2, none⟩ _ (fun _ => rfl)
  ⟨(h.a.setK k).setQ l v, h.b.kept kp (by omega), h.r.kept kp (by omega), q_set (q_set h.low (Nat.le_refl _) _) (Nat.le_refl _) _⟩
/-- Two worlds that differ in the order of their blocks: the waiter's slice ahead of the copy, or behind it. -/
theorem mine_late {w w1 : World} {B : Nat} {y : Hd} {l : List Wt} (h : MineQ w B y l) (b : Below w.heap.size w w1) : MineQ w1 B y l := h.below b
set_option maxRecDepth 100000 in
set_option maxHeartbeats 4000000 in
/-- with: ONE MORE, BEHIND ALL. -/
theorem with_any (p : Pt) (y : Hd) (k : Int) (x : Wt) (w : World) (hs : y.n ≤ 4999) (HH : Hid (HasQ w y p.l)) :
    Calls Try.prog 19 #[(.agg #[.int .i64 p.k, .int .i64 p.w, .slice y.o y.n y.c]), .int .i64 k, (.agg #[.int .i64 x.c, .int .i64 x.v, .int .i64 x.b, .bool x.h, .int .i64 x.o, .int .i64 x.s, .int .i64 x.g, .bool x.t])] w fun e w' => ∃ z : Hd, e = .returned (.agg #[.int .i64 (wiP p k x).k, .int .i64 (wiP p k x).w, .slice z.o z.n z.c]) ∧ Ans w w' z (wiP p k x).l := by
  have HN := hid HH.out.len
  obtain ⟨m, hm⟩ : ∃ m : Nat, y.n + 1 = m := ⟨_, rfl⟩
  have HM0 := hid hm
  have hm4 : m ≤ 5000 := by omega
  clear hm
  go_enter Try.func19, Try.ntmps19
  go_upto_region 1 with fail
  have HT : Hid (Bw w (((w.alloc (.cells #[.int .i64 p.k, .int .i64 p.w, .slice y.o y.n y.c] 25)).alloc (.cells #[.int .i64 x.c, .int .i64 x.v, .int .i64 x.b, .bool x.h, .int .i64 x.o, .int .i64 x.s, .int .i64 x.g, .bool x.t] 30)).alloc (.cells #[.int .i64 0, .int .i64 0, .slice none 0 0] 25)) p p0 y nilH x) := bw_new w p p0 y nilH x
  generalize ((w.alloc (.cells #[.int .i64 p.k, .int .i64 p.w, .slice y.o y.n y.c] 25)).alloc (.cells #[.int .i64 x.c, .int .i64 x.v, .int .i64 x.b, .bool x.h, .int .i64 x.o, .int .i64 x.s, .int .i64 x.g, .bool x.t] 30)).alloc (.cells #[.int .i64 0, .int .i64 0, .slice none 0 0] 25) = W at HT ⊢
  have hW := hid HT.out.lt
  have c2 := HT.out.a.c2
  obtain ⟨x0, x1, x2, x3, x4, x5, x6, x7⟩ := HT.out.b.at
  have HQ : Hid (∀ W', Below W.heap.size W W' → (W'.cell? ⟨w.heap.size, 0, none⟩ = some (.int .i64 p.k) ∧ W'.cell? ⟨w.heap.size, 2, none⟩ = some (.slice y.o y.n y.c)) ∧ W'.frozen? ⟨w.heap.size, 0, none⟩ = false ∧ W'.frozen? ⟨w.heap.size, 2, none⟩ = false ∧ AtW W' ⟨w.heap.size + 1, 0, none⟩ x) := fun W' b => ⟨⟨(HT.out.a.below b).c0, (HT.out.a.below b).c2⟩, (HT.out.a.below b).fz 0, (HT.out.a.below b).fz 2, (HT.out.b.below b).at⟩
  have hlg : w.heap.size < W.heap.size := HT.out.a.lt
  have HCC : Hid (∀ X : World, Below W.heap.size W X → Calls Try.prog 23 #[.slice y.o y.n y.c] X fun e w' => ∃ ao cap, e = .returned (.slice ao y.n cap) ∧ MineQ w' X.heap.size ⟨ao, y.n, cap⟩ p.l ∧ Below X.heap.size X w') := fun X q => clone_any y p.l X (by omega) (HH.out.below (q_trans HT.out.low q))
  go_cut [13] from 7 to 15 (fun s13 wx => ∃ (ao : Option Addr) (cap : Nat), s13 = .slice ao m cap ∧ Hid (Bw w wx ⟨k, p.w, p.l ++ [x]⟩ p0 ⟨ao, m, cap⟩ nilH x) ∧ Hid (HasQ wx ⟨ao, m, cap⟩ (p.l ++ [x])) ∧ Hid (Off (fun i => i < w.heap.size + 3) ao (wts (p.l ++ [x]))))
  case first =>
    go_region_law
      (first
        | (refine step_ws _ (by rfl) (.tmp 10) (.tmp 12) (by rfl) W.heap.size _ y.n p.l (by rfl) HM.out.2 _ 1 1 [x] (by rfl) rfl (fun h => by cases h) HX.out m HM0.out (p.l ++ [x]) rfl (by omega) HB1.out.size ?_; intro ao5 cap5 w5 own5 grow5; have HB5 : Hid (Below W.heap.size W w5) := HB1.out.grown grow5 HB1.out.size (fun k e => (World.ownsRow.lt HM.out.2 k e).1); have q0 := (HQ.out _ HB5.out).1.1; have q1 := (HQ.out _ HB5.out).1.2; have q2 := (HQ.out _ HB5.out).2.1; have q3 := (HQ.out _ HB5.out).2.2.1)
        | (refine step_ws _ (by rfl) (.tmp 10) (.tmp 12) (by rfl) W.heap.size _ y.n p.l (by rfl) (HM.out.below (alloc_below w1 _)).2 _ 1 1 [x] (by rfl) rfl (fun h => by cases h) (one_wt w1 x 30) m HM0.out (p.l ++ [x]) rfl (by omega) (q_alloc HB1.out _).size ?_; intro ao5 cap5 w5 own5 grow5; have HB5 : Hid (Below W.heap.size W w5) := (q_alloc HB1.out _).grown grow5 (q_alloc HB1.out _).size (fun k e => (World.ownsRow.lt HM.out.2 k e).1); have q0 := (HQ.out _ HB5.out).1.1; have q1 := (HQ.out _ HB5.out).1.2; have q2 := (HQ.out _ HB5.out).2.1; have q3 := (HQ.out _ HB5.out).2.2.1)
        | (go_simp; go_at_call 23; refine (HCC.out _ (by first | exact (Below.refl _ W).drew | exact (alloc_below W _).drew)).mono ?_; rintro e w1 ⟨ao, cap, rfl, hm1, b1⟩; have HB1 : Hid (Below W.heap.size W w1) := (by first | exact q_trans (Below.refl _ W).drew b1 | exact q_trans (alloc_below W _).drew b1); have HM : Hid (MineQ w1 W.heap.size ⟨ao, y.n, cap⟩ p.l) := (by first | exact hm1 | exact hm1.base (alloc_below W _).size); (try (have HX : Hid (Row w1 (some ⟨W.heap.size, 0, none⟩) (wts [x])) := (by first | exact ((one_wt W x 30).below (Below.refl _ _).drew).below b1 | exact (one_wt W.drew x 30).below b1))); obtain ⟨u0, u1, u2, u3, u4, u5, u6, u7⟩ := (HQ.out _ HB1.out).2.2.2; clear hm1 b1)
        | fail)
    all_goals (try go_wp2_with fail)
    all_goals go_meet
    all_goals
      have hM5 : MineQ w5 W.heap.size ⟨ao5, m, cap5⟩ (p.l ++ [x]) := ⟨by have := HM0.out; have := HN.out; simp; omega, own5⟩
      have hn := hM5.new
      exact ⟨ao5, cap5, rfl, (HT.out.below HB5.out).setKQ k (p.l ++ [x]) ⟨ao5, m, cap5⟩, (hM5.has.set hn (p := ⟨w.heap.size, 0, none⟩) hlg _).set hn (p := ⟨w.heap.size, 2, none⟩) hlg _, off_less hn hW.out⟩
  case rest =>
    obtain ⟨ao, cap, rfl, HB, HA, HO⟩ := hcut
    clear HT HQ HCC c2 hlg hW x0 x1 x2 x3 x4 x5 x6 x7
    have c0 : wc.cell? ⟨w.heap.size, 0, none⟩ = some (.int .i64 k) := HB.out.a.c0
    have c1 : wc.cell? ⟨w.heap.size, 1, none⟩ = some (.int .i64 p.w) := HB.out.a.c1
    have c2 : wc.cell? ⟨w.heap.size, 2, none⟩ = some (.slice ao m cap) := HB.out.a.c2
    have r0 : wc.cell? ⟨w.heap.size + 2, 0, none⟩ = some (.int .i64 0) := HB.out.r.c0
    have r1 : wc.cell? ⟨w.heap.size + 2, 1, none⟩ = some (.int .i64 0) := HB.out.r.c1
    have r2 : wc.cell? ⟨w.heap.size + 2, 2, none⟩ = some (.slice none 0 0) := HB.out.r.c2
    have g0 := HB.out.r.fz 0
    have g1 := HB.out.r.fz 1
    have g2 := HB.out.r.fz 2
    have hl2 : w.heap.size + 2 < wc.heap.size := HB.out.lt
    go_wp2_with fail
    refine bodyPost_ret (v := .agg #[.int .i64 k, .int .i64 p.w, .slice ao m cap]) (by simp [results, Try.results19, go_sem, *]) rfl ⟨⟨ao, m, cap⟩, rfl, ?_⟩
    exact ⟨HA.out.set3 HO.out (by omega) ⟨k, p.w, []⟩ ⟨ao, m, cap⟩, off_less HO.out (by omega), put3_low (p := ⟨k, p.w, []⟩) (y := ⟨ao, m, cap⟩) HB.out.low (Nat.le_add_right _ 2)⟩
end Go.Proofs.Ytpcdjpcdmnjdfab.Po
