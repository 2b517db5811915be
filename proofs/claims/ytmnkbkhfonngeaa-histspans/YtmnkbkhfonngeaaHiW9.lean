/- What Answer does. -/
import Derived.Test.YtmnkbkhfonngeaaHiW8
namespace Go.Proofs.Ytmnkbkhfonngeaa.Hi
open Go.RowKit

theorem ans_180 {h : Hs} {c now : Int} (e : okH h = false) : ansE h c now = 180 := by simp [ansE, e]
theorem ans_7 {h : Hs} {c now : Int} (e : okH h = true) (k : pnO h.s c = none) : ansE h c now = 7 := by rw [ansE, if_neg (by rw [e]; decide), k]
theorem ans_s {h : Hs} {c now : Int} {i : Nat} (e : okH h = true) (k : pnO h.s c = some i) : ansE h c now = if now < (S h.s i).st then 2 else 0 := by rw [ansE, if_neg (by rw [e]; decide), k]
abbrev SC (ob : Nat) (y : Hd) (mb : Nat) (r : Rp) (w : World) : Prop := w.cell? ⟨ob, 0, none⟩ = some (.slice y.o y.n y.c) ∧ w.cell? ⟨mb, 0, none⟩ = some (.int .i64 r.e) ∧ w.cell? ⟨mb, 1, none⟩ = some (.int .i64 r.v) ∧ w.cell? ⟨mb, 2, none⟩ = some (.int .i64 r.b) ∧ w.cell? ⟨mb, 3, none⟩ = some (.bool r.t)
theorem sc_drew {ob mb : Nat} {y : Hd} {r : Rp} {w : World} (h : SC ob y mb r w) : SC ob y mb r w.drew := h
theorem sc_set {ob mb g j : Nat} {y : Hd} {r : Rp} {w : World} (h : SC ob y mb r w) (h1 : g ≠ ob) (h2 : g ≠ mb) (v : Value) : SC ob y mb r (w.setCell ⟨g, j, none⟩ v) := by
  refine ⟨?_, ?_, ?_, ?_, ?_⟩
  · rw [World.cell?_setCell_other _ _ _ _ (fun e => h1 (by injection e))]; exact h.1
  · rw [World.cell?_setCell_other _ _ _ _ (fun e => h2 (by injection e))]; exact h.2.1
  · rw [World.cell?_setCell_other _ _ _ _ (fun e => h2 (by injection e))]; exact h.2.2.1
  · rw [World.cell?_setCell_other _ _ _ _ (fun e => h2 (by injection e))]; exact h.2.2.2.1
  · rw [World.cell?_setCell_other _ _ _ _ (fun e => h2 (by injection e))]; exact h.2.2.2.2
theorem getD_set {l : List Sp} {i : Nat} {a z : Sp} (h : i < l.length) : (l.set i a).getD i z = a := by simp [List.getD, h]
/-- An answer is written into a span. -/
theorem cl_row (l : List Sp) (i : Nat) (now : Int) (r : Rp) (hi : i < l.length) : (((((l.flatMap spC).set (i * 15 + 10) (.int .i64 now)).set (i * 15 + 11) (.int .i64 r.e)).set (i * 15 + 12) (.int .i64 r.v)).set (i * 15 + 13) (.int .i64 r.b)).set (i * 15 + 14) (.bool r.t) = (l.set i (clS (S l i) now r)).flatMap spC := by
  obtain ⟨s, hs⟩ : ∃ s, l.getD i s0 = s := ⟨_, rfl⟩
  show _ = (l.set i (clS (l.getD i s0) now r)).flatMap spC
  rw [fm_set1 spC 15 spC_len l s0 ⟨s.co, s.c, s.st, now, s.r⟩ i 10 _ hi (by decide) (by rw [hs]; rfl)]
  rw [fm_set1 spC 15 spC_len (l.set i _) s0 ⟨s.co, s.c, s.st, now, ⟨r.e, s.r.v, s.r.b, s.r.t⟩⟩ i 11 _ (by simpa using hi) (by decide) (by rw [getD_set hi]; rfl), List.set_set]
  rw [fm_set1 spC 15 spC_len (l.set i _) s0 ⟨s.co, s.c, s.st, now, ⟨r.e, r.v, s.r.b, s.r.t⟩⟩ i 12 _ (by simpa using hi) (by decide) (by rw [getD_set hi]; rfl), List.set_set]
  rw [fm_set1 spC 15 spC_len (l.set i _) s0 ⟨s.co, s.c, s.st, now, ⟨r.e, r.v, r.b, s.r.t⟩⟩ i 13 _ (by simpa using hi) (by decide) (by rw [getD_set hi]; rfl), List.set_set]
  rw [fm_set1 spC 15 spC_len (l.set i _) s0 ⟨s.co, s.c, s.st, now, r⟩ i 14 _ (by simpa using hi) (by decide) (by rw [getD_set hi]; rfl), List.set_set]
  rw [hs]
  rfl
abbrev put5 (w : World) (g k : Nat) (now : Int) (r : Rp) : World := ((((w.setCell ⟨g, k + 10, none⟩ (.int .i64 now)).setCell ⟨g, k + 11, none⟩ (.int .i64 r.e)).setCell ⟨g, k + 11 + 1, none⟩ (.int .i64 r.v)).setCell ⟨g, k + 11 + 2, none⟩ (.int .i64 r.b)).setCell ⟨g, k + 11 + 3, none⟩ (.bool r.t)
theorem kept_put5 (w : World) (g k : Nat) (now : Int) (r : Rp) : Kept (fun i => i = g) w (put5 w g k now r) :=
  ((((kept_set (fun i => i = g) w ⟨g, k + 10, none⟩ _ rfl).setCell ⟨g, k + 11, none⟩ _ (fun _ => rfl)).setCell ⟨g, k + 11 + 1, none⟩ _ (fun _ => rfl)).setCell ⟨g, k + 11 + 2, none⟩ _ (fun _ => rfl)).setCell ⟨g, k + 11 + 3, none⟩ _ (fun _ => rfl)
/-- .. of a history of a call's own. -/
theorem OwnH.close {w : World} {B B1 B2 g i : Nat} {z : Hh} {h : Hs} {xs : List (Ev × Hd)} (q : OwnH w B B1 B2 z h xs) (ho : z.s.o = some ⟨g, 0, none⟩) (hi : i < h.s.length) (now : Int) (r : Rp) : OwnH (put5 w g (i * 15) now r) B B1 B2 z ⟨h.s.set i (clS (S h.s i) now r), h.e⟩ xs := by
  have hk := kept_put5 w g (i * 15) now r
  have hb := q.s.blk ho
  have hl := q.sl _ ho
  have hb : B ≤ g := hb.1
  have hl : g < B1 := hl
  refine ⟨q.m, q.b, q.b2, Nat.le_trans q.b3 hk.size, ⟨by show z.s.n = (h.s.set i _).length; rw [List.length_set]; exact q.s.1, ?_⟩, q.sl, q.x.kept hk (by omega), q.xl, fun y hy => ⟨(q.d y hy).1.kept hk ?_, (q.d y hy).2⟩⟩
  · have h2 := q.s.2
    rw [ho] at h2 ⊢
    show World.ownsRow _ B _ 15 _ _ ((h.s.set i (clS (S h.s i) now r)).flatMap spC)
    rw [← cl_row h.s i now r hi]
    exact own_setS _ (own_setS _ (own_setS _ (own_setS _ (own_setS _ h2))))
  · intro h0 a e s
    have s : a.block = g := s
    exact (q.d y hy).2 h0 a e ⟨by omega, by have := q.b2; omega⟩
theorem Bo.close {w W : World} {x : Hh} {mid : Obj} {ob g i : Nat} {z : Hh} {h : Hs} {B B1 B2 : Nat} {xs : List (Ev × Hd)} (q : Bo w W x mid ob z h B B1 B2 xs) (ho : z.s.o = some ⟨g, 0, none⟩) (hi : i < h.s.length) (now : Int) (r : Rp) : HasH (put5 W g (i * 15) now r) z ⟨h.s.set i (clS (S h.s i) now r), h.e⟩ ∧ Hb (put5 W g (i * 15) now r) ob z ∧ Hb (put5 W g (i * 15) now r) (w.heap.size + 2) nilX ∧ Below w.heap.size w (put5 W g (i * 15) now r) := by
  have hk := kept_put5 W g (i * 15) now r
  have hb : B ≤ g := (q.own.s.blk ho).1
  have h2 := q.own.s.2
  rw [ho] at h2
  have n1 := own_ty h2 q.o.h (by decide) g rfl
  have h9 := q.hB
  refine ⟨(q.own.close ho hi now r).has, q.o.kept hk (fun e => n1 e.symm), q.bw.r.kept hk (by omega), ?_⟩
  exact q_set (q_set (q_set (q_set (q_set q.bw.low (by show w.heap.size ≤ g; omega) _) (by show w.heap.size ≤ g; omega) _) (by show w.heap.size ≤ g; omega) _) (by show w.heap.size ≤ g; omega) _) (by show w.heap.size ≤ g; omega) _
set_option maxRecDepth 100000 in
set_option maxHeartbeats 2000000 in
/-- Answer: AN ANSWER IS RECORDED. -/
theorem answer_any (x : Hh) (h : Hs) (c : Int) (r : Rp) (now : Int) (w : World) (hs : x.s.n ≤ 5000) (he : x.e.n ≤ 5000) (hd : ShortE h.e) (HH : Hid (HasH w x h)) :
    Calls Try.prog 21 #[(.agg #[.slice x.s.o x.s.n x.s.c, .slice x.e.o x.e.n x.e.c]), .int .i64 c, (.agg #[.int .i64 r.e, .int .i64 r.v, .int .i64 r.b, .bool r.t]), .int .i64 now] w fun e w' => ∃ z : Hh, e = .returned (.tuple #[(.agg #[.slice z.s.o z.s.n z.s.c, .slice z.e.o z.e.n z.e.c]), .int .i64 (ansE h c now)]) ∧ HasH w' z (ansH h c r now) ∧ Below w.heap.size w w' := by
  have HD := hid hd
  clear hd
  obtain ⟨⟨so, sn, sc⟩, ye⟩ := x
  replace hs : sn ≤ 5000 := hs
  replace he : ye.n ≤ 5000 := he
  go_enter Try.func21, Try.ntmps21
  go_upto_region 1 with fail
  have HT : Hid (Bw w (((w.alloc (.cells #[.slice so sn sc, .slice ye.o ye.n ye.c] 25)).alloc (.cells #[.int .i64 r.e, .int .i64 r.v, .int .i64 r.b, .bool r.t] 31)).alloc (.cells #[.slice none 0 0, .slice none 0 0] 25)) ⟨⟨so, sn, sc⟩, ye⟩ (.cells #[.int .i64 r.e, .int .i64 r.v, .int .i64 r.b, .bool r.t] 31)) := bw_new w ⟨⟨so, sn, sc⟩, ye⟩ (.cells #[.int .i64 r.e, .int .i64 r.v, .int .i64 r.b, .bool r.t] 31)
  generalize ((w.alloc (.cells #[.slice so sn sc, .slice ye.o ye.n ye.c] 25)).alloc (.cells #[.int .i64 r.e, .int .i64 r.v, .int .i64 r.b, .bool r.t] 31)).alloc (.cells #[.slice none 0 0, .slice none 0 0] 25) = W at HT ⊢
  have c0 : W.cell? ⟨w.heap.size, 0, none⟩ = some (.slice so sn sc) := HT.out.a.c0
  have c1 : W.cell? ⟨w.heap.size, 1, none⟩ = some (.slice ye.o ye.n ye.c) := HT.out.a.c1
  have HA : Hid (Calls Try.prog 36 #[.agg #[.slice so sn sc, .slice ye.o ye.n ye.c]] W fun e w' => ∃ (z : Hh) (B B1 B2 : Nat) (ys : List (Ev × Hd)), e = .returned (.agg #[.slice z.s.o z.s.n z.s.c, .slice z.e.o z.e.n z.e.c]) ∧ OwnH w' B B1 B2 z h ys ∧ W.heap.size ≤ B ∧ Below W.heap.size W w') := apart_any ⟨⟨so, sn, sc⟩, ye⟩ h W hs he HD.out (HH.out.below HT.out.low)
  go_upto_region 2 with (go_at_call 36; refine HA.out.mono ?_; rintro e w1 ⟨⟨⟨zo, zn, zc⟩, ⟨eo, en, ec⟩⟩, B, B1, B2, xs, rfl, o1, hb1, b1⟩)
  have HO : Hid (Bo w (w1.alloc (.cells #[.slice zo zn zc, .slice eo en ec] 25)) ⟨⟨so, sn, sc⟩, ye⟩ (.cells #[.int .i64 r.e, .int .i64 r.v, .int .i64 r.b, .bool r.t] 31) w1.heap.size ⟨⟨zo, zn, zc⟩, ⟨eo, en, ec⟩⟩ h B B1 B2 xs) := bo_new HT.out o1 hb1 b1
  generalize hV : w1.alloc (.cells #[.slice zo zn zc, .slice eo en ec] 25) = V at HO ⊢
  generalize w1.heap.size = ob at HO ⊢
  clear hV HA c0 c1 HT o1 b1 hb1
  have c0 : V.cell? ⟨w.heap.size, 0, none⟩ = some (.slice so sn sc) := HO.out.bw.a.c0
  have c1 : V.cell? ⟨w.heap.size, 1, none⟩ = some (.slice ye.o ye.n ye.c) := HO.out.bw.a.c1
  have HK : Hid (Calls Try.prog 16 #[.agg #[.slice so sn sc, .slice ye.o ye.n ye.c]] V fun e w' => e = .returned (.int .i64 (ckE h)) ∧ Below V.heap.size V w') := check_any ⟨⟨so, sn, sc⟩, ye⟩ h V hs he (HH.out.below HO.out.bw.low)
  cases hk : okH h with
  | false =>
    rw [ck_180 hk] at HK
    have HE := hid (ans_180 (c := c) (now := now) hk)
    have HN : Hid (ansH h c r now = h) := ansH_no (by rw [HE.out]; decide)
    clear hk
    go_upto_region 3 with (go_at_call 16; refine HK.out.mono ?_; rintro e w2 ⟨rfl, b2⟩)
    replace HO := hid (HO.out.below b2)
    clear b2 c0 c1 HK
    have c0 : w2.cell? ⟨ob, 0, none⟩ = some (.slice zo zn zc) := HO.out.o.c0
    have c1 : w2.cell? ⟨ob, 1, none⟩ = some (.slice eo en ec) := HO.out.o.c1
    have r0 : w2.cell? ⟨w.heap.size + 2, 0, none⟩ = some (.slice none 0 0) := HO.out.bw.r.c0
    have r1 : w2.cell? ⟨w.heap.size + 2, 1, none⟩ = some (.slice none 0 0) := HO.out.bw.r.c1
    have f0 := HO.out.bw.r.fz 0
    have f1 := HO.out.bw.r.fz 1
    go_wp2_with fail
    refine bodyPost_ret (v := .tuple #[.agg #[.slice zo zn zc, .slice eo en ec], .int .i64 180]) (by simp [results, Try.results21, go_sem, *]) rfl ⟨⟨⟨zo, zn, zc⟩, ⟨eo, en, ec⟩⟩, ret_2 (z := ⟨⟨zo, zn, zc⟩, ⟨eo, en, ec⟩⟩) HE.out.symm, ?_, HO.out.fin.2⟩
    rw [HN.out]
    exact HO.out.fin.1
  | true =>
    rw [ck_0 hk] at HK
    have HOK := hid hk
    clear hk
    go_upto_region 4 with (go_at_call 16; refine HK.out.mono ?_; rintro e w2 ⟨rfl, b2⟩)
    replace HO := hid (HO.out.below b2)
    clear b2 c0 c1 HK
    have c0 : w2.cell? ⟨w.heap.size, 0, none⟩ = some (.slice so sn sc) := HO.out.bw.a.c0
    have c1 : w2.cell? ⟨w.heap.size, 1, none⟩ = some (.slice ye.o ye.n ye.c) := HO.out.bw.a.c1
    have HP : Hid (Calls Try.prog 12 #[.agg #[.slice so sn sc, .slice ye.o ye.n ye.c], .int .i64 c] w2 fun e w' => e = .returned (.tuple #[.int .i64 (pnI h.s c), .bool (pnB h.s c)]) ∧ Below w2.heap.size w2 w') := pending_any ⟨⟨so, sn, sc⟩, ye⟩ h c w2 hs (HH.out.below HO.out.bw.low).s
    cases hp : pnO h.s c with
    | none =>
      have HE := hid (ans_7 (now := now) HOK.out hp)
      have HN : Hid (ansH h c r now = h) := ansH_no (by rw [HE.out]; decide)
      rw [show pnI h.s c = 0 by simp [pnI, hp], show pnB h.s c = false by simp [pnB, hp]] at HP
      clear hp
      go_upto_region 6 with (go_at_call 12; refine HP.out.mono ?_; rintro e w3 ⟨rfl, b3⟩)
      replace HO := hid (HO.out.below b3)
      clear b3 c0 c1 HP
      have c0 : w3.cell? ⟨ob, 0, none⟩ = some (.slice zo zn zc) := HO.out.o.c0
      have c1 : w3.cell? ⟨ob, 1, none⟩ = some (.slice eo en ec) := HO.out.o.c1
      have r0 : w3.cell? ⟨w.heap.size + 2, 0, none⟩ = some (.slice none 0 0) := HO.out.bw.r.c0
      have r1 : w3.cell? ⟨w.heap.size + 2, 1, none⟩ = some (.slice none 0 0) := HO.out.bw.r.c1
      have f0 := HO.out.bw.r.fz 0
      have f1 := HO.out.bw.r.fz 1
      go_wp2_with fail
      refine bodyPost_ret (v := .tuple #[.agg #[.slice zo zn zc, .slice eo en ec], .int .i64 7]) (by simp [results, Try.results21, go_sem, *]) rfl ⟨⟨⟨zo, zn, zc⟩, ⟨eo, en, ec⟩⟩, ret_2 (z := ⟨⟨zo, zn, zc⟩, ⟨eo, en, ec⟩⟩) HE.out.symm, ?_, HO.out.fin.2⟩
      rw [HN.out]
      exact HO.out.fin.1
    | some i =>
      obtain ⟨_, hi, _, _⟩ := pn_some hp
      have HI := hid hi
      have HPO := hid hp
      have HE := hid (ans_s (now := now) HOK.out hp)
      rw [pnI_of hp, show pnB h.s c = true by simp [pnB, hp]] at HP
      clear hp
      go_upto_region 7 with (go_at_call 12; refine HP.out.mono ?_; rintro e w3 ⟨rfl, b3⟩)
      replace HO := hid (HO.out.below b3)
      clear b3 c0 c1 HP
      have i1 : (0 : Int) ≤ (i : Int) := by omega
      have i2 : (i : Int) < (sn : Int) := by have := HH.out.s.len; have h9 : sn = h.s.length := this; omega
      obtain ⟨a, ea, ca⟩ := atS_of (HH.out.below HO.out.bw.low).s.row i hi
      obtain rfl : so = some a := ea
      have d9 := ca.c9
      obtain ⟨s, hs9⟩ : ∃ s, h.s.getD i s0 = s := ⟨_, rfl⟩
      rw [hs9] at d9
      replace HE : Hid (ansE h c now = if now < (h.s.getD i s0).st then 2 else 0) := HE
      rw [hs9] at HE
      clear ca hs9
      have c0 : w3.cell? ⟨w.heap.size, 0, none⟩ = some (.slice (some a) sn sc) := HO.out.bw.a.c0
      by_cases hn : now < s.st
      · rw [if_pos hn] at HE
        have HN : Hid (ansH h c r now = h) := ansH_no (by rw [HE.out]; decide)
        go_upto_region 8 with fail
        clear c0 d9
        have c0 : w3.cell? ⟨ob, 0, none⟩ = some (.slice zo zn zc) := HO.out.o.c0
        have c1 : w3.cell? ⟨ob, 1, none⟩ = some (.slice eo en ec) := HO.out.o.c1
        have r0 : w3.cell? ⟨w.heap.size + 2, 0, none⟩ = some (.slice none 0 0) := HO.out.bw.r.c0
        have r1 : w3.cell? ⟨w.heap.size + 2, 1, none⟩ = some (.slice none 0 0) := HO.out.bw.r.c1
        have f0 := HO.out.bw.r.fz 0
        have f1 := HO.out.bw.r.fz 1
        go_wp2_with fail
        refine bodyPost_ret (v := .tuple #[.agg #[.slice zo zn zc, .slice eo en ec], .int .i64 2]) (by simp [results, Try.results21, go_sem, *]) rfl ⟨⟨⟨zo, zn, zc⟩, ⟨eo, en, ec⟩⟩, ret_2 (z := ⟨⟨zo, zn, zc⟩, ⟨eo, en, ec⟩⟩) HE.out.symm, ?_, HO.out.fin.2⟩
        rw [HN.out]
        exact HO.out.fin.1
      · rw [if_neg hn] at HE
        go_upto_region 9 with fail
        clear c0 d9
        have HZ : Hid (zn = h.s.length) := HO.out.own.s.1
        have i3 : (i : Int) < (zn : Int) := by have := HZ.out; omega
        obtain ⟨g, hg, _⟩ := own_head HO.out.own.s.2 (by show 0 < zn; have := HZ.out; omega)
        obtain rfl : zo = some ⟨g, 0, none⟩ := hg
        have HC := hid (HO.out.close rfl HI.out now r)
        have hAd := add_head g (i * 15)
        have hgl : g < w3.heap.size := (HO.out.own.s.blk rfl).2
        have n1 : g ≠ ob := fun e => own_ty HO.out.own.s.2 HO.out.o.h (by decide) g rfl e
        have n2 : g ≠ w.heap.size + 1 := by have h8 : B ≤ g := (HO.out.own.s.blk rfl).1; have := HO.out.hB; omega
        obtain ⟨a2, ea2, ca2⟩ := atS_of HO.out.own.s.has.row i HI.out
        cases ea2
        rw [hAd] at ca2
        obtain ⟨_, _, _, _, _, _, _, _, _, _, p10, p11, p12, p13, p14⟩ := ca2
        dsimp only at p10 p11 p12 p13 p14
        have q10 := own_frozen (j := i * 15 + 10) HO.out.own.s.2
        have q11 := own_frozen (j := i * 15 + 11) HO.out.own.s.2
        have q12 := own_frozen (j := i * 15 + 12) HO.out.own.s.2
        have q13 := own_frozen (j := i * 15 + 13) HO.out.own.s.2
        have q14 := own_frozen (j := i * 15 + 14) HO.out.own.s.2
        have HM : Hid (Rb w3 (w.heap.size + 1) r) := ⟨HO.out.bw.m⟩
        obtain ⟨m0, m1, m2, m3⟩ := HM.out.at
        have hS : SC ob ⟨some ⟨g, 0, none⟩, zn, zc⟩ (w.heap.size + 1) r w3 := ⟨HO.out.o.c0, m0, m1, m2, m3⟩
        go_region_held3 (SC ob ⟨some ⟨g, 0, none⟩, zn, zc⟩ (w.heap.size + 1) r) (repeat' (first | with_reducible exact hS | with_reducible refine sc_drew ?_ | with_reducible refine sc_set ?_ n1 n2 _)) (fail)
        all_goals
          clear p10 p11 p12 p13 p14 q10 q11 q12 q13 q14 m0 m1 m2 m3 hS
          replace HC : Hid (HasH (((((w3.setCell ⟨g, i * 15 + 10, none⟩ (.int .i64 now)).setCell ⟨g, i * 15 + 11, none⟩ (.int .i64 r.e)).setCell ⟨g, i * 15 + 11 + 1, none⟩ (.int .i64 r.v)).setCell ⟨g, i * 15 + 11 + 2, none⟩ (.int .i64 r.b)).setCell ⟨g, i * 15 + 11 + 3, none⟩ (.bool r.t)) ⟨⟨some ⟨g, 0, none⟩, zn, zc⟩, ⟨eo, en, ec⟩⟩ ⟨h.s.set i (clS (S h.s i) now r), h.e⟩ ∧ Hb (((((w3.setCell ⟨g, i * 15 + 10, none⟩ (.int .i64 now)).setCell ⟨g, i * 15 + 11, none⟩ (.int .i64 r.e)).setCell ⟨g, i * 15 + 11 + 1, none⟩ (.int .i64 r.v)).setCell ⟨g, i * 15 + 11 + 2, none⟩ (.int .i64 r.b)).setCell ⟨g, i * 15 + 11 + 3, none⟩ (.bool r.t)) ob ⟨⟨some ⟨g, 0, none⟩, zn, zc⟩, ⟨eo, en, ec⟩⟩ ∧ Hb (((((w3.setCell ⟨g, i * 15 + 10, none⟩ (.int .i64 now)).setCell ⟨g, i * 15 + 11, none⟩ (.int .i64 r.e)).setCell ⟨g, i * 15 + 11 + 1, none⟩ (.int .i64 r.v)).setCell ⟨g, i * 15 + 11 + 2, none⟩ (.int .i64 r.b)).setCell ⟨g, i * 15 + 11 + 3, none⟩ (.bool r.t)) (w.heap.size + 2) nilX ∧ Below w.heap.size w (((((w3.setCell ⟨g, i * 15 + 10, none⟩ (.int .i64 now)).setCell ⟨g, i * 15 + 11, none⟩ (.int .i64 r.e)).setCell ⟨g, i * 15 + 11 + 1, none⟩ (.int .i64 r.v)).setCell ⟨g, i * 15 + 11 + 2, none⟩ (.int .i64 r.b)).setCell ⟨g, i * 15 + 11 + 3, none⟩ (.bool r.t))) := HC
          generalize hX : ((((w3.setCell ⟨g, i * 15 + 10, none⟩ (.int .i64 now)).setCell ⟨g, i * 15 + 11, none⟩ (.int .i64 r.e)).setCell ⟨g, i * 15 + 11 + 1, none⟩ (.int .i64 r.v)).setCell ⟨g, i * 15 + 11 + 2, none⟩ (.int .i64 r.b)).setCell ⟨g, i * 15 + 11 + 3, none⟩ (.bool r.t) = X at HC ⊢
          have c0 : X.cell? ⟨ob, 0, none⟩ = some (.slice (some ⟨g, 0, none⟩) zn zc) := HC.out.2.1.c0
          have c1 : X.cell? ⟨ob, 1, none⟩ = some (.slice eo en ec) := HC.out.2.1.c1
          have r0 : X.cell? ⟨w.heap.size + 2, 0, none⟩ = some (.slice none 0 0) := HC.out.2.2.1.c0
          have r1 : X.cell? ⟨w.heap.size + 2, 1, none⟩ = some (.slice none 0 0) := HC.out.2.2.1.c1
          have f0 := HC.out.2.2.1.fz 0
          have f1 := HC.out.2.2.1.fz 1
          clear hX
          go_wp2_with fail
          refine bodyPost_ret (v := .tuple #[.agg #[.slice (some ⟨g, 0, none⟩) zn zc, .slice eo en ec], .int .i64 0]) (by simp [results, Try.results21, go_sem, *]) rfl ⟨⟨⟨some ⟨g, 0, none⟩, zn, zc⟩, ⟨eo, en, ec⟩⟩, ret_2 (z := ⟨⟨some ⟨g, 0, none⟩, zn, zc⟩, ⟨eo, en, ec⟩⟩) HE.out.symm, ?_, ?_⟩
          · rw [ansH_of HE.out HPO.out]
            first
              | exact HC.out.1.put (x' := ⟨⟨some ⟨g, 0, none⟩, zn, zc⟩, ⟨eo, en, ec⟩⟩) HC.out.2.2.1
              | exact (HC.out.1.below (Below.refl _ _).drew).put (x' := ⟨⟨some ⟨g, 0, none⟩, zn, zc⟩, ⟨eo, en, ec⟩⟩) (HC.out.2.2.1.below (Below.refl _ _).drew)
          · first
              | exact put2_low (b := w.heap.size + 2) (x := ⟨⟨some ⟨g, 0, none⟩, zn, zc⟩, ⟨eo, en, ec⟩⟩) HC.out.2.2.2 (Nat.le_add_right _ 2)
              | exact put2_low (b := w.heap.size + 2) (x := ⟨⟨some ⟨g, 0, none⟩, zn, zc⟩, ⟨eo, en, ec⟩⟩) HC.out.2.2.2.drew (Nat.le_add_right _ 2)
end Go.Proofs.Ytmnkbkhfonngeaa.Hi
