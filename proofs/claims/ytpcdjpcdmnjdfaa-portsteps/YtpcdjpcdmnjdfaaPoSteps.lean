/- PortSteps: every port there may be, also wrong ones: whether it may be, whoever comes. -/
import Derived.Test.YtpcdjpcdmnjdfaaPoLv
namespace Go.Proofs.Ytpcdjpcdmnjdfaa.Po
open Go.RowKit

/-- The boxes of PortSteps: the two ports', the act's, the copy's. -/
structure St (w wr : World) (p q : Pt) (y z g : Hd) (a : Ac) : Prop where
  sp : Pb wr w.heap.size p y
  sq : Pb wr (w.heap.size + 1) q z
  sa : AtZ wr ⟨w.heap.size + 2, 0, none⟩ a
  sg : Hp wr (w.heap.size + 3) p g
  low : Below w.heap.size w wr
theorem St.below {w wr w' : World} {p q : Pt} {y z g : Hd} {a : Ac} (h : St w wr p q y z g a) (b : Below wr.heap.size wr w') : St w w' p q y z g a := ⟨h.sp.below b, h.sq.below b, h.sa.below b, h.sg.below b, q_trans h.low b⟩
theorem st_new (w : World) (p q : Pt) (y z : Hd) (a : Ac) (hy : HasQ w y p.l) : St w ((((w.alloc (.cells #[.int .i64 p.k, .int .i64 p.w, .slice y.o y.n y.c] 24)).alloc (.cells #[.int .i64 q.k, .int .i64 q.w, .slice z.o z.n z.c] 24)).alloc (.cells #[.int .i64 a.kind, .int .i64 a.x.c, .int .i64 a.x.v, .int .i64 a.x.b, .bool a.x.h, .int .i64 a.x.o, .int .i64 a.x.s, .int .i64 a.x.g, .bool a.x.t, .int .i64 a.n] 30)).alloc (.cells #[.int .i64 p.k, .int .i64 p.w, .slice y.o y.n y.c] 24)) p q y z y a := by
  have s1 : (w.alloc (.cells #[.int .i64 p.k, .int .i64 p.w, .slice y.o y.n y.c] 24)).heap.size = w.heap.size + 1 := by simp
  have s2 : ((w.alloc (.cells #[.int .i64 p.k, .int .i64 p.w, .slice y.o y.n y.c] 24)).alloc (.cells #[.int .i64 q.k, .int .i64 q.w, .slice z.o z.n z.c] 24)).heap.size = w.heap.size + 2 := by simp
  have s3 : (((w.alloc (.cells #[.int .i64 p.k, .int .i64 p.w, .slice y.o y.n y.c] 24)).alloc (.cells #[.int .i64 q.k, .int .i64 q.w, .slice z.o z.n z.c] 24)).alloc (.cells #[.int .i64 a.kind, .int .i64 a.x.c, .int .i64 a.x.v, .int .i64 a.x.b, .bool a.x.h, .int .i64 a.x.o, .int .i64 a.x.s, .int .i64 a.x.g, .bool a.x.t, .int .i64 a.n] 30)).heap.size = w.heap.size + 3 := by simp
  have b4 := q_alloc (q_alloc (q_alloc (alloc_below w (.cells #[.int .i64 p.k, .int .i64 p.w, .slice y.o y.n y.c] 24)) (.cells #[.int .i64 q.k, .int .i64 q.w, .slice z.o z.n z.c] 24)) (.cells #[.int .i64 a.kind, .int .i64 a.x.c, .int .i64 a.x.v, .int .i64 a.x.b, .bool a.x.h, .int .i64 a.x.o, .int .i64 a.x.s, .int .i64 a.x.g, .bool a.x.t, .int .i64 a.n] 30)) (.cells #[.int .i64 p.k, .int .i64 p.w, .slice y.o y.n y.c] 24)
  refine ⟨(((pb_new w p y).below (alloc_below _ _)).below (alloc_below _ _)).below (alloc_below _ _), ?_, ?_, ⟨?_, hy.below b4⟩, b4⟩
  · have h := ((pb_new (w.alloc (.cells #[.int .i64 p.k, .int .i64 p.w, .slice y.o y.n y.c] 24)) q z).below (alloc_below _ (.cells #[.int .i64 a.kind, .int .i64 a.x.c, .int .i64 a.x.v, .int .i64 a.x.b, .bool a.x.h, .int .i64 a.x.o, .int .i64 a.x.s, .int .i64 a.x.g, .bool a.x.t, .int .i64 a.n] 30))).below (alloc_below _ (.cells #[.int .i64 p.k, .int .i64 p.w, .slice y.o y.n y.c] 24))
    rwa [s1] at h
  · have h := (atZ_new ((w.alloc (.cells #[.int .i64 p.k, .int .i64 p.w, .slice y.o y.n y.c] 24)).alloc (.cells #[.int .i64 q.k, .int .i64 q.w, .slice z.o z.n z.c] 24)) a 30).below (alloc_below _ (.cells #[.int .i64 p.k, .int .i64 p.w, .slice y.o y.n y.c] 24))
    rwa [s2] at h
  · have h := pb_new (((w.alloc (.cells #[.int .i64 p.k, .int .i64 p.w, .slice y.o y.n y.c] 24)).alloc (.cells #[.int .i64 q.k, .int .i64 q.w, .slice z.o z.n z.c] 24)).alloc (.cells #[.int .i64 a.kind, .int .i64 a.x.c, .int .i64 a.x.v, .int .i64 a.x.b, .bool a.x.h, .int .i64 a.x.o, .int .i64 a.x.s, .int .i64 a.x.g, .bool a.x.t, .int .i64 a.n] 30)) p y
    rwa [s3] at h
/-- The copy's list is stored. -/
theorem St.setQ {w wr w1 : World} {p q : Pt} {y z g : Hd} {a : Ac} {v : Hd} (h : St w wr p q y z g a) (b : Below wr.heap.size wr w1) (hv : HasQ w1 v p.l) : St w (w1.setCell ⟨w.heap.size + 3, 2, none⟩ (.slice v.o v.n v.c)) p q y z v a := by
  have h1 := h.below b
  have k := kept_set (fun i => i = w.heap.size + 3) w1 ⟨w.heap.size + 3, 2, none⟩ (.slice v.o v.n v.c) rfl
  exact ⟨h1.sp.kept k (by omega), h1.sq.kept k (by omega), h1.sa.kept k (by show ¬ w.heap.size + 2 = w.heap.size + 3; omega), ⟨h1.sg.pb.setQ p.l v, hv.kept k (h1.sg.pb.off hv.row)⟩, q_set h1.low (Nat.le_add_right _ 3) _⟩
set_option maxRecDepth 100000 in
set_option maxHeartbeats 1000000 in
theorem steps_long (K : LiveC) (p q : Pt) (y z : Hd) (a : Ac) (w : World) (h : 100 < y.n ∨ 100 < z.n) :
    Calls Try.prog 3 #[(.agg #[.int .i64 p.k, .int .i64 p.w, .slice y.o y.n y.c]), (.agg #[.int .i64 q.k, .int .i64 q.w, .slice z.o z.n z.c]), (.agg #[.int .i64 a.kind, .int .i64 a.x.c, .int .i64 a.x.v, .int .i64 a.x.b, .bool a.x.h, .int .i64 a.x.o, .int .i64 a.x.s, .int .i64 a.x.g, .bool a.x.t, .int .i64 a.n])] w fun e w' => e = .returned (.bool true) ∧ Below w.heap.size w w' := by
  have HB := hid (q_alloc (q_alloc (alloc_below w (.cells #[.int .i64 p.k, .int .i64 p.w, .slice y.o y.n y.c] 24)) (.cells #[.int .i64 q.k, .int .i64 q.w, .slice z.o z.n z.c] 24)) (.cells #[.int .i64 a.kind, .int .i64 a.x.c, .int .i64 a.x.v, .int .i64 a.x.b, .bool a.x.h, .int .i64 a.x.o, .int .i64 a.x.s, .int .i64 a.x.g, .bool a.x.t, .int .i64 a.n] 30))
  by_cases h1 : 100 < y.n
  · have i1 : (y.n : Int) > 100 := by omega
    clear h h1
    go_enter Try.func3, Try.ntmps3
    go_wp2_with fail
    refine (K _).mono ?_
    rintro e w2 ⟨rfl, b⟩
    replace HB := hid (q_trans HB.out b)
    clear b
    go_wp2_with fail
    go_ret
    exact ⟨rfl, HB.out⟩
  · have i1 : ¬ (y.n : Int) > 100 := by omega
    have i2 : (z.n : Int) > 100 := by omega
    clear h h1
    go_enter Try.func3, Try.ntmps3
    go_wp2_with fail
    refine (K _).mono ?_
    rintro e w2 ⟨rfl, b⟩
    replace HB := hid (q_trans HB.out b)
    clear b
    go_wp2_with fail
    go_ret
    exact ⟨rfl, HB.out⟩
set_option maxRecDepth 100000 in
set_option maxHeartbeats 4000000 in
theorem steps_in (K : LiveC) (p q : Pt) (y z : Hd) (a : Ac) (w : World) (h1 : y.n ≤ 100) (h2 : z.n ≤ 100) (HY : Hid (HasQ w y p.l)) (HZ : Hid (HasQ w z q.l)) :
    Calls Try.prog 3 #[(.agg #[.int .i64 p.k, .int .i64 p.w, .slice y.o y.n y.c]), (.agg #[.int .i64 q.k, .int .i64 q.w, .slice z.o z.n z.c]), (.agg #[.int .i64 a.kind, .int .i64 a.x.c, .int .i64 a.x.v, .int .i64 a.x.b, .bool a.x.h, .int .i64 a.x.o, .int .i64 a.x.s, .int .i64 a.x.g, .bool a.x.t, .int .i64 a.n])] w fun e w' => e = .returned (.bool true) ∧ Below w.heap.size w w' := by
  have HN := hid HY.out.len
  have i1 : ¬ (y.n : Int) > 100 := by omega
  have i2 : ¬ (z.n : Int) > 100 := by omega
  have L0 : Hid ((wts p.l).length = y.n * 8) := by unfold Hid; rw [len_wts, HN.out]
  go_enter Try.func3, Try.ntmps3
  go_upto_region 4 with fail
  have HS := hid (st_new w p q y z a HY.out)
  generalize (((w.alloc (.cells #[.int .i64 p.k, .int .i64 p.w, .slice y.o y.n y.c] 24)).alloc (.cells #[.int .i64 q.k, .int .i64 q.w, .slice z.o z.n z.c] 24)).alloc (.cells #[.int .i64 a.kind, .int .i64 a.x.c, .int .i64 a.x.v, .int .i64 a.x.b, .bool a.x.h, .int .i64 a.x.o, .int .i64 a.x.s, .int .i64 a.x.g, .bool a.x.t, .int .i64 a.n] 30)).alloc (.cells #[.int .i64 p.k, .int .i64 p.w, .slice y.o y.n y.c] 24) = W at HS ⊢
  have c2 := HS.out.sp.c2
  have hlg : w.heap.size < W.heap.size := HS.out.sp.lt
  have HY2 := hid (HY.out.below HS.out.low)
  go_wp2_with (at_builtin; go_loud (refine wpList_append_row _ rfl (.tmp 30) (.tmp 32) 22 28 _ 8 64 rfl Try.underlying22 infoW rfl (by decide) (by decide) W.heap.size _ 0 [] rfl (own0 W 28 8) y.o y.n y.c (wts p.l) rfl L0.out HY2.out.nil (HY2.out.below (alloc_below W _)).row (wts_one _) (by omega) (alloc_below W _).size ?_; intro ao5 cap5 w5 own5 grow5; rw [Nat.zero_add, List.nil_append] at own5; simp only [Nat.zero_add]; apply Hid.out))
  have b5 := hid (app_below grow5)
  have HM5 : Hid (MineQ w5 W.heap.size ⟨ao5, y.n, cap5⟩ p.l) := ⟨HN.out, own5⟩
  clear own5 grow5 c2 hlg
  have r2 := (HS.out.sg.pb.below b5.out).c2
  have f2 := (HS.out.sg.pb.below b5.out).fz 2
  have hl5 : w.heap.size + 3 < w5.heap.size := (HS.out.sg.pb.below b5.out).lt
  unfold Hid
  go_upto_region 5 with fail
  replace HS := hid (HS.out.setQ (v := ⟨ao5, y.n, cap5⟩) b5.out HM5.out.has)
  clear HM5 b5 HY2 r2 f2 hl5
  generalize w5.setCell ⟨w.heap.size + 3, 2, none⟩ (.slice ao5 y.n cap5) = W2 at HS ⊢
  have c0 := HS.out.sg.pb.c0
  have c1 := HS.out.sg.pb.c1
  have c2 : W2.cell? ⟨w.heap.size + 3, 2, none⟩ = some (.slice ao5 y.n cap5) := HS.out.sg.pb.c2
  obtain ⟨x8, x0, x1, x2, x3, x4, x5, x6, x7, x9⟩ := HS.out.sa
  have HD := hid (does_any p ⟨ao5, y.n, cap5⟩ a W2 (by show y.n ≤ 4999; omega) HS.out.sg.has)
  have HMo : Hid (∀ X, Below w.heap.size w X → Calls Try.prog 11 #[(.agg #[.int .i64 p.k, .int .i64 p.w, .slice y.o y.n y.c]), (.agg #[.int .i64 a.kind, .int .i64 a.x.c, .int .i64 a.x.v, .int .i64 a.x.b, .bool a.x.h, .int .i64 a.x.o, .int .i64 a.x.s, .int .i64 a.x.g, .bool a.x.t, .int .i64 a.n])] X fun e w' => ∃ z : Hd, e = .returned (.tuple #[(.agg #[.int .i64 (doP p a).k, .int .i64 (doP p a).w, .slice z.o z.n z.c]), (.agg #[.int .i64 (doX p a).c, .int .i64 (doX p a).v, .int .i64 (doX p a).b, .bool (doX p a).h, .int .i64 (doX p a).o, .int .i64 (doX p a).s, .int .i64 (doX p a).g, .bool (doX p a).t]), .bool (doB p a), .int .i64 (doN p a), .int .i64 (doE p a)]) ∧ AnsR X w' y p.l z (doP p a).l) := fun X b => model_any p y a X (by omega) (HY.out.below b)
  have HLd := hid (do_len p a)
  generalize doP p a = d at HD HMo HLd
  generalize doX p a = v at HD HMo
  generalize doB p a = ok at HD HMo
  generalize doN p a = n at HD HMo
  generalize doE p a = er at HD HMo
  go_wp2_with fail
  refine HD.out.mono ?_
  rintro e w1 ⟨u, rfl, hu⟩
  have b1 := q_trans hu.low (q_alloc (alloc_below w1 (.cells #[.int .i64 d.k, .int .i64 d.w, .slice u.o u.n u.c] 24)) (.cells #[.int .i64 v.c, .int .i64 v.v, .int .i64 v.b, .bool v.h, .int .i64 v.o, .int .i64 v.s, .int .i64 v.g, .bool v.t] 28))
  have X1 := hid (two_pw w1 d u v)
  have U1 := hid ((hu.has.below (alloc_below w1 (.cells #[.int .i64 d.k, .int .i64 d.w, .slice u.o u.n u.c] 24))).below (alloc_below _ (.cells #[.int .i64 v.c, .int .i64 v.v, .int .i64 v.b, .bool v.h, .int .i64 v.o, .int .i64 v.s, .int .i64 v.g, .bool v.t] 28)))
  replace HS := hid (HS.out.below b1)
  clear hu b1 HD c0 c1 c2 x0 x1 x2 x3 x4 x5 x6 x7 x8 x9
  go_upto_region 6 with fail
  generalize w1.heap.size = b1 at X1 ⊢
  generalize (w1.alloc (.cells #[.int .i64 d.k, .int .i64 d.w, .slice u.o u.n u.c] 24)).alloc (.cells #[.int .i64 v.c, .int .i64 v.v, .int .i64 v.b, .bool v.h, .int .i64 v.o, .int .i64 v.s, .int .i64 v.g, .bool v.t] 28) = W3 at X1 U1 HS ⊢
  have c0 := HS.out.sp.c0
  have c1 := HS.out.sp.c1
  have c2 := HS.out.sp.c2
  obtain ⟨x8, x0, x1, x2, x3, x4, x5, x6, x7, x9⟩ := HS.out.sa
  go_wp2_with fail
  refine (HMo.out _ HS.out.low).mono ?_
  rintro e w1 ⟨u2, rfl, hu⟩
  have b2 := q_trans hu.low (q_alloc (alloc_below w1 (.cells #[.int .i64 d.k, .int .i64 d.w, .slice u2.o u2.n u2.c] 24)) (.cells #[.int .i64 v.c, .int .i64 v.v, .int .i64 v.b, .bool v.h, .int .i64 v.o, .int .i64 v.s, .int .i64 v.g, .bool v.t] 28))
  have X2 := hid (two_pw w1 d u2 v)
  have U2 := hid ((hu.has.below (alloc_below w1 (.cells #[.int .i64 d.k, .int .i64 d.w, .slice u2.o u2.n u2.c] 24))).below (alloc_below _ (.cells #[.int .i64 v.c, .int .i64 v.v, .int .i64 v.b, .bool v.h, .int .i64 v.o, .int .i64 v.s, .int .i64 v.g, .bool v.t] 28)))
  replace X1 := hid (And.intro (X1.out.1.below b2) (X1.out.2.below b2))
  replace U1 := hid (U1.out.below b2)
  replace HS := hid (HS.out.below b2)
  clear hu b2 HMo c0 c1 c2 x0 x1 x2 x3 x4 x5 x6 x7 x8 x9
  go_upto_region 7 with fail
  generalize w1.heap.size = b2 at X2 ⊢
  generalize (w1.alloc (.cells #[.int .i64 d.k, .int .i64 d.w, .slice u2.o u2.n u2.c] 24)).alloc (.cells #[.int .i64 v.c, .int .i64 v.v, .int .i64 v.b, .bool v.h, .int .i64 v.o, .int .i64 v.s, .int .i64 v.g, .bool v.t] 28) = V at X1 X2 U1 U2 HS ⊢
  have C1 : Hid (∀ X, Below V.heap.size V X → Calls Try.prog 12 #[(.agg #[.int .i64 d.k, .int .i64 d.w, .slice u.o u.n u.c]), (.agg #[.int .i64 d.k, .int .i64 d.w, .slice u2.o u2.n u2.c])] X fun e w' => e = .returned (.bool true) ∧ Below X.heap.size X w') := fun X b => by
    have h := rsame_any d d u u2 X (by have h1 := U1.out.len; have h2 := HLd.out; have h3 := HN.out; omega) (U1.out.below b) (U2.out.below b)
    rwa [eqP_refl] at h
  have C2 : Hid (∀ X, Below V.heap.size V X → Calls Try.prog 14 #[(.agg #[.int .i64 p.k, .int .i64 p.w, .slice y.o y.n y.c])] X fun e w' => e = .returned (.int .i64 (ckE p)) ∧ Below X.heap.size X w') := fun X b => pcheck_any p y X (by omega) (HY.out.below (q_trans HS.out.low b))
  have C3 : Hid (∀ X, Below V.heap.size V X → Calls Try.prog 15 #[(.agg #[.int .i64 p.k, .int .i64 p.w, .slice y.o y.n y.c])] X fun e w' => e = .returned (.bool (okP p)) ∧ Below X.heap.size X w') := fun X b => ris_any p y X (HY.out.below (q_trans HS.out.low b))
  have C4 : Hid (∀ X, Below V.heap.size V X → Calls Try.prog 16 #[(.agg #[.int .i64 p.k, .int .i64 p.w, .slice y.o y.n y.c]), (.agg #[.int .i64 q.k, .int .i64 q.w, .slice z.o z.n z.c])] X fun e w' => e = .returned (.bool (eqP p q)) ∧ Below X.heap.size X w') := fun X b => psame_any p q y z X (by omega) (HY.out.below (q_trans HS.out.low b)) (HZ.out.below (q_trans HS.out.low b))
  have C5 : Hid (∀ X, Below V.heap.size V X → Calls Try.prog 12 #[(.agg #[.int .i64 p.k, .int .i64 p.w, .slice y.o y.n y.c]), (.agg #[.int .i64 q.k, .int .i64 q.w, .slice z.o z.n z.c])] X fun e w' => e = .returned (.bool (eqP p q)) ∧ Below X.heap.size X w') := fun X b => rsame_any p q y z X (by omega) (HY.out.below (q_trans HS.out.low b)) (HZ.out.below (q_trans HS.out.low b))
  have C6 : Hid (∀ X, Below V.heap.size V X → Calls Try.prog 12 #[.agg #[.int .i64 p.k, .int .i64 p.w, .slice ao5 y.n cap5], (.agg #[.int .i64 p.k, .int .i64 p.w, .slice y.o y.n y.c])] X fun e w' => e = .returned (.bool true) ∧ Below X.heap.size X w') := fun X b => by
    have h := rsame_any p p ⟨ao5, y.n, cap5⟩ y X (by show y.n ≤ 5000; omega) (HS.out.sg.has.below b) (HY.out.below (q_trans HS.out.low b))
    rwa [eqP_refl] at h
  have hvv := eqw_yes (rfl : v = v)
  have hok : (ok == ok) = true := by simp
  have hnn : (n == n) = true := by simp
  have hee : (er == er) = true := by simp
  obtain ⟨p0, p1, p2⟩ := HS.out.sp.always
  obtain ⟨q0, q1, q2⟩ := HS.out.sq.always
  obtain ⟨d0, d1, d2⟩ := X1.out.1.always
  obtain ⟨t0, t1, t2⟩ := X2.out.1.always
  obtain ⟨v0, v1, v2, v3, v4, v5, v6, v7⟩ := X1.out.2.at.always
  obtain ⟨y0, y1, y2, y3, y4, y5, y6, y7⟩ := X2.out.2.at.always
  obtain ⟨g0, g1, g2⟩ := HS.out.sg.pb.always
  have g2' : ∀ g : Later V, g.now.cell? ⟨w.heap.size + 3, 2, none⟩ = some (.slice ao5 y.n cap5) := g2
  clear g2
  have hne : Nonempty (Later V) := ⟨⟨_, Below.refl _ _⟩⟩
  have HK : Hid (∀ X : World, Calls Try.prog 9 #[] X fun e w' => e = .returned (.bool true) ∧ Below X.heap.size X w') := K
  cases ho : okP p with
  | true =>
    rw [ho] at C3
    rw [ck_yes ho] at C2
    cases hs : eqP p q with
    | true =>
      rw [hs] at C4 C5
      clear ho hs
      refine wp_region_later (by kernel_rfl) (by kernel_rfl) ?_
      repeat (go_big_quiet_step (first | (go_at_call 13; with_reducible exact later_call (num_low _ _)) | (go_at_call 9; with_reducible exact later_call (HK.out _)) | (go_at_call 14; with_reducible exact later_call (C2.out _ (Later.low _))) | (go_at_call 15; with_reducible exact later_call (C3.out _ (Later.low _))) | (go_at_call 16; with_reducible exact later_call (C4.out _ (Later.low _))) | (go_at_call 12; with_reducible exact later_call (C1.out _ (Later.low _))) | (go_at_call 12; with_reducible exact later_call (C5.out _ (Later.low _))) | (go_at_call 12; with_reducible exact later_call (C6.out _ (Later.low _)))))
      refine wpQuiet_nil ?_
      rintro w9 ⟨⟨_, b9⟩, rfl⟩
      replace HS := hid (HS.out.below b9)
      clear b9
      go_wp2_with fail
      go_ret
      exact ⟨rfl, HS.out.low⟩
    | false =>
      rw [hs] at C4 C5
      clear ho hs
      refine wp_region_later (by kernel_rfl) (by kernel_rfl) ?_
      repeat (go_big_quiet_step (first | (go_at_call 13; with_reducible exact later_call (num_low _ _)) | (go_at_call 9; with_reducible exact later_call (HK.out _)) | (go_at_call 14; with_reducible exact later_call (C2.out _ (Later.low _))) | (go_at_call 15; with_reducible exact later_call (C3.out _ (Later.low _))) | (go_at_call 16; with_reducible exact later_call (C4.out _ (Later.low _))) | (go_at_call 12; with_reducible exact later_call (C1.out _ (Later.low _))) | (go_at_call 12; with_reducible exact later_call (C5.out _ (Later.low _))) | (go_at_call 12; with_reducible exact later_call (C6.out _ (Later.low _)))))
      refine wpQuiet_nil ?_
      rintro w9 ⟨⟨_, b9⟩, rfl⟩
      replace HS := hid (HS.out.below b9)
      clear b9
      go_wp2_with fail
      go_ret
      exact ⟨rfl, HS.out.low⟩
  | false =>
    rw [ho] at C3
    rw [ck_no ho] at C2
    cases hs : eqP p q with
    | true =>
      rw [hs] at C4 C5
      clear ho hs
      refine wp_region_later (by kernel_rfl) (by kernel_rfl) ?_
      repeat (go_big_quiet_step (first | (go_at_call 13; with_reducible exact later_call (num_low _ _)) | (go_at_call 9; with_reducible exact later_call (HK.out _)) | (go_at_call 14; with_reducible exact later_call (C2.out _ (Later.low _))) | (go_at_call 15; with_reducible exact later_call (C3.out _ (Later.low _))) | (go_at_call 16; with_reducible exact later_call (C4.out _ (Later.low _))) | (go_at_call 12; with_reducible exact later_call (C1.out _ (Later.low _))) | (go_at_call 12; with_reducible exact later_call (C5.out _ (Later.low _))) | (go_at_call 12; with_reducible exact later_call (C6.out _ (Later.low _)))))
      refine wpQuiet_nil ?_
      rintro w9 ⟨⟨_, b9⟩, rfl⟩
      replace HS := hid (HS.out.below b9)
      clear b9
      go_wp2_with fail
      go_ret
      exact ⟨rfl, HS.out.low⟩
    | false =>
      rw [hs] at C4 C5
      clear ho hs
      refine wp_region_later (by kernel_rfl) (by kernel_rfl) ?_
      repeat (go_big_quiet_step (first | (go_at_call 13; with_reducible exact later_call (num_low _ _)) | (go_at_call 9; with_reducible exact later_call (HK.out _)) | (go_at_call 14; with_reducible exact later_call (C2.out _ (Later.low _))) | (go_at_call 15; with_reducible exact later_call (C3.out _ (Later.low _))) | (go_at_call 16; with_reducible exact later_call (C4.out _ (Later.low _))) | (go_at_call 12; with_reducible exact later_call (C1.out _ (Later.low _))) | (go_at_call 12; with_reducible exact later_call (C5.out _ (Later.low _))) | (go_at_call 12; with_reducible exact later_call (C6.out _ (Later.low _)))))
      refine wpQuiet_nil ?_
      rintro w9 ⟨⟨_, b9⟩, rfl⟩
      replace HS := hid (HS.out.below b9)
      clear b9
      go_wp2_with fail
      go_ret
      exact ⟨rfl, HS.out.low⟩
theorem steps_row (K : LiveC) (p : Pt) (y : Hd) (q : Pt) (z : Hd) (a : Ac) (w : World) (HY : HasQ w y p.l) (HZ : HasQ w z q.l) :
    Calls Try.prog 3 #[(.agg #[.int .i64 p.k, .int .i64 p.w, .slice y.o y.n y.c]), (.agg #[.int .i64 q.k, .int .i64 q.w, .slice z.o z.n z.c]), (.agg #[.int .i64 a.kind, .int .i64 a.x.c, .int .i64 a.x.v, .int .i64 a.x.b, .bool a.x.h, .int .i64 a.x.o, .int .i64 a.x.s, .int .i64 a.x.g, .bool a.x.t, .int .i64 a.n])] w fun e w' => e = .returned (.bool true) ∧ Below w.heap.size w w' := by
  by_cases h : 100 < y.n ∨ 100 < z.n
  · exact steps_long K p q y z a w h
  · exact steps_in K p q y z a w (by omega) (by omega) HY HZ
end Go.Proofs.Ytpcdjpcdmnjdfaa.Po
