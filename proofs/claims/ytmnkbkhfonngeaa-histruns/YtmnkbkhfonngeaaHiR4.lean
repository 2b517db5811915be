/- What the document's Answer does. -/
import Derived.Test.YtmnkbkhfonngeaaHiR3
import Derived.Test.YtmnkbkhfonngeaaHiW9
namespace Go.Proofs.Ytmnkbkhfonngeaa.Hi
open Go.RowKit

/-- A copy of the spans, in a row of the call's own, is written. -/
theorem md_close {w W w5 : World} {x : Hh} {h : Hs} {mid : Obj} {g i n c : Nat} (q : Bw w W x mid) (b : Below W.heap.size W w5) (hm : MineS w5 W.heap.size ⟨some ⟨g, 0, none⟩, n, c⟩ h.s) (hi : i < h.s.length) (now : Int) (r : Rp) :
    Bw w (put5 w5 g (i * 15) now r) x mid ∧ MineS (put5 w5 g (i * 15) now r) W.heap.size ⟨some ⟨g, 0, none⟩, n, c⟩ (h.s.set i (clS (S h.s i) now r)) := by
  have hk := kept_put5 w5 g (i * 15) now r
  have hb : W.heap.size ≤ g := (hm.blk rfl).1
  have q5 := q.below b
  have h9 := q.r.lt
  refine ⟨⟨q5.a.kept hk (by omega), (hk.block _ (by have := q5.r.lt; omega) (by omega)).trans q5.m, q5.r.kept hk (by omega), ?_⟩, ?_, ?_⟩
  · exact q_set (q_set (q_set (q_set (q_set q5.low (by show w.heap.size ≤ g; omega) _) (by show w.heap.size ≤ g; omega) _) (by show w.heap.size ≤ g; omega) _) (by show w.heap.size ≤ g; omega) _) (by show w.heap.size ≤ g; omega) _
  · show n = (h.s.set i _).length
    rw [List.length_set]
    exact hm.1
  · show World.ownsRow _ _ _ 15 _ _ ((h.s.set i (clS (S h.s i) now r)).flatMap spC)
    rw [← cl_row h.s i now r hi]
    exact own_setS _ (own_setS _ (own_setS _ (own_setS _ (own_setS _ hm.2))))
set_option maxRecDepth 100000 in
set_option maxHeartbeats 2000000 in
/-- Answer, the document's. -/
theorem ranswer_any (x : Hh) (h : Hs) (c : Int) (r : Rp) (now : Int) (w : World) (hs : x.s.n ≤ 5000) (he : x.e.n ≤ 5000) (HH : Hid (HasH w x h)) :
    Calls Try.prog 24 #[(.agg #[.slice x.s.o x.s.n x.s.c, .slice x.e.o x.e.n x.e.c]), .int .i64 c, (.agg #[.int .i64 r.e, .int .i64 r.v, .int .i64 r.b, .bool r.t]), .int .i64 now] w fun e w' => ∃ z : Hh, e = .returned (.tuple #[(.agg #[.slice z.s.o z.s.n z.s.c, .slice z.e.o z.e.n z.e.c]), .int .i64 (ansE h c now)]) ∧ HasH w' z (ansH h c r now) ∧ Below w.heap.size w w' := by
  obtain ⟨⟨so, sn, sc⟩, ⟨eo, en, ec⟩⟩ := x
  replace hs : sn ≤ 5000 := hs
  replace he : en ≤ 5000 := he
  have HN1 : Hid (sn = h.s.length) := HH.out.s.len
  go_enter Try.func24, Try.ntmps24
  go_upto_region 1 with fail
  have HT : Hid (Bw w (((w.alloc (.cells #[.slice so sn sc, .slice eo en ec] 25)).alloc (.cells #[.int .i64 r.e, .int .i64 r.v, .int .i64 r.b, .bool r.t] 31)).alloc (.cells #[.slice none 0 0, .slice none 0 0] 25)) ⟨⟨so, sn, sc⟩, ⟨eo, en, ec⟩⟩ (.cells #[.int .i64 r.e, .int .i64 r.v, .int .i64 r.b, .bool r.t] 31)) := bw_new w ⟨⟨so, sn, sc⟩, ⟨eo, en, ec⟩⟩ (.cells #[.int .i64 r.e, .int .i64 r.v, .int .i64 r.b, .bool r.t] 31)
  generalize ((w.alloc (.cells #[.slice so sn sc, .slice eo en ec] 25)).alloc (.cells #[.int .i64 r.e, .int .i64 r.v, .int .i64 r.b, .bool r.t] 31)).alloc (.cells #[.slice none 0 0, .slice none 0 0] 25) = W at HT ⊢
  have c0 : W.cell? ⟨w.heap.size, 0, none⟩ = some (.slice so sn sc) := HT.out.a.c0
  have c1 : W.cell? ⟨w.heap.size, 1, none⟩ = some (.slice eo en ec) := HT.out.a.c1
  have HI : Hid (Calls Try.prog 17 #[.agg #[.slice so sn sc, .slice eo en ec]] W fun e w' => e = .returned (.bool (okH h)) ∧ Below W.heap.size W w') := ris_any ⟨⟨so, sn, sc⟩, ⟨eo, en, ec⟩⟩ h W hs he (HH.out.below HT.out.low)
  cases hk : okH h with
  | false =>
    rw [hk] at HI
    have HE := hid (ans_180 (c := c) (now := now) hk)
    have HNo : Hid (ansH h c r now = h) := ansH_no (by rw [HE.out]; decide)
    clear hk
    go_upto_region 2 with (go_at_call 17; refine HI.out.mono ?_; rintro e w2 ⟨rfl, b2⟩)
    have HZ := hid ((HT.out.below b2).rz HH.out)
    clear b2 c0 c1
    have c0 : w2.cell? ⟨w.heap.size, 0, none⟩ = some (.slice so sn sc) := HZ.out.a.c0
    have c1 : w2.cell? ⟨w.heap.size, 1, none⟩ = some (.slice eo en ec) := HZ.out.a.c1
    have r0 : w2.cell? ⟨w.heap.size + 2, 0, none⟩ = some (.slice none 0 0) := HZ.out.r.c0
    have r1 : w2.cell? ⟨w.heap.size + 2, 1, none⟩ = some (.slice none 0 0) := HZ.out.r.c1
    have f0 := HZ.out.r.fz 0
    have f1 := HZ.out.r.fz 1
    go_wp2_with fail
    refine bodyPost_ret (v := .tuple #[.agg #[.slice so sn sc, .slice eo en ec], .int .i64 180]) (by simp [results, Try.results24, go_sem, *]) rfl ⟨⟨⟨so, sn, sc⟩, ⟨eo, en, ec⟩⟩, ret_2 (z := ⟨⟨so, sn, sc⟩, ⟨eo, en, ec⟩⟩) HE.out.symm, ?_, HZ.out.fin.2⟩
    rw [HNo.out]
    exact HZ.out.fin.1
  | true =>
    rw [hk] at HI
    have HO := hid hk
    clear hk
    go_upto_region 3 with (go_at_call 17; refine HI.out.mono ?_; rintro e w2 ⟨rfl, b2⟩)
    replace HT := hid (HT.out.below b2)
    clear b2 HI c0 c1
    have c0 : w2.cell? ⟨w.heap.size, 0, none⟩ = some (.slice so sn sc) := HT.out.a.c0
    have c1 : w2.cell? ⟨w.heap.size, 1, none⟩ = some (.slice eo en ec) := HT.out.a.c1
    have HP : Hid (Calls Try.prog 13 #[.agg #[.slice so sn sc, .slice eo en ec], .int .i64 c] w2 fun e w' => e = .returned (.tuple #[.int .i64 (pnI h.s c), .bool (pnB h.s c)]) ∧ Below w2.heap.size w2 w') := rpending_any ⟨⟨so, sn, sc⟩, ⟨eo, en, ec⟩⟩ h c w2 hs (HH.out.below HT.out.low).s
    cases hp : pnO h.s c with
    | none =>
      have HE := hid (ans_7 (now := now) HO.out hp)
      have HNo : Hid (ansH h c r now = h) := ansH_no (by rw [HE.out]; decide)
      rw [show pnI h.s c = 0 by simp [pnI, hp], show pnB h.s c = false by simp [pnB, hp]] at HP
      clear hp
      go_upto_region 5 with (go_at_call 13; refine HP.out.mono ?_; rintro e w3 ⟨rfl, b3⟩)
      have HZ := hid ((HT.out.below b3).rz HH.out)
      clear b3 c0 c1 HP
      have c0 : w3.cell? ⟨w.heap.size, 0, none⟩ = some (.slice so sn sc) := HZ.out.a.c0
      have c1 : w3.cell? ⟨w.heap.size, 1, none⟩ = some (.slice eo en ec) := HZ.out.a.c1
      have r0 : w3.cell? ⟨w.heap.size + 2, 0, none⟩ = some (.slice none 0 0) := HZ.out.r.c0
      have r1 : w3.cell? ⟨w.heap.size + 2, 1, none⟩ = some (.slice none 0 0) := HZ.out.r.c1
      have f0 := HZ.out.r.fz 0
      have f1 := HZ.out.r.fz 1
      go_wp2_with fail
      refine bodyPost_ret (v := .tuple #[.agg #[.slice so sn sc, .slice eo en ec], .int .i64 7]) (by simp [results, Try.results24, go_sem, *]) rfl ⟨⟨⟨so, sn, sc⟩, ⟨eo, en, ec⟩⟩, ret_2 (z := ⟨⟨so, sn, sc⟩, ⟨eo, en, ec⟩⟩) HE.out.symm, ?_, HZ.out.fin.2⟩
      rw [HNo.out]
      exact HZ.out.fin.1
    | some i =>
      obtain ⟨_, hi, _, _⟩ := pn_some hp
      have HIl := hid hi
      have HPO := hid hp
      have HE := hid (ans_s (now := now) HO.out hp)
      rw [pnI_of hp, show pnB h.s c = true by simp [pnB, hp]] at HP
      clear hp
      go_upto_region 6 with (go_at_call 13; refine HP.out.mono ?_; rintro e w3 ⟨rfl, b3⟩)
      replace HT := hid (HT.out.below b3)
      clear b3 c0 c1 HP
      have i1 : (0 : Int) ≤ (i : Int) := by omega
      have i2 : (i : Int) < (sn : Int) := by have := HN1.out; omega
      obtain ⟨a, ea, ca⟩ := atS_of (HH.out.below HT.out.low).s.row i hi
      obtain rfl : so = some a := ea
      have d9 := ca.c9
      obtain ⟨s, hs9⟩ : ∃ s, h.s.getD i s0 = s := ⟨_, rfl⟩
      rw [hs9] at d9
      replace HE : Hid (ansE h c now = if now < (h.s.getD i s0).st then 2 else 0) := HE
      rw [hs9] at HE
      clear ca hs9
      have c0 : w3.cell? ⟨w.heap.size, 0, none⟩ = some (.slice (some a) sn sc) := HT.out.a.c0
      by_cases hn : now < s.st
      · rw [if_pos hn] at HE
        have HNo : Hid (ansH h c r now = h) := ansH_no (by rw [HE.out]; decide)
        go_upto_region 7 with fail
        have HZ := hid (HT.out.rz HH.out)
        clear c0 d9
        have c0 : w3.cell? ⟨w.heap.size, 0, none⟩ = some (.slice (some a) sn sc) := HZ.out.a.c0
        have c1 : w3.cell? ⟨w.heap.size, 1, none⟩ = some (.slice eo en ec) := HZ.out.a.c1
        have r0 : w3.cell? ⟨w.heap.size + 2, 0, none⟩ = some (.slice none 0 0) := HZ.out.r.c0
        have r1 : w3.cell? ⟨w.heap.size + 2, 1, none⟩ = some (.slice none 0 0) := HZ.out.r.c1
        have f0 := HZ.out.r.fz 0
        have f1 := HZ.out.r.fz 1
        go_wp2_with fail
        refine bodyPost_ret (v := .tuple #[.agg #[.slice (some a) sn sc, .slice eo en ec], .int .i64 2]) (by simp [results, Try.results24, go_sem, *]) rfl ⟨⟨⟨some a, sn, sc⟩, ⟨eo, en, ec⟩⟩, ret_2 (z := ⟨⟨some a, sn, sc⟩, ⟨eo, en, ec⟩⟩) HE.out.symm, ?_, HZ.out.fin.2⟩
        rw [HNo.out]
        exact HZ.out.fin.1
      · rw [if_neg hn] at HE
        go_upto_region 8 with fail
        clear d9
        have HRw := hid ((HH.out.below HT.out.low).s.row)
        have HLn : Hid ((h.s.flatMap spC).length = sn * 15) := by unfold Hid; rw [fm_len spC 15 spC_len, HN1.out]
        have hlg0 : w.heap.size < w3.heap.size := HT.out.a.lt
        go_wp2_with (at_builtin; go_loud (refine wpList_append_row _ rfl (.tmp 35) (.tmp 37) 22 50 _ 15 120 rfl Try.underlying22 infoS rfl (by decide) (by decide) w3.heap.size _ 0 [] rfl (own0 w3 50 15) (some a) sn sc (h.s.flatMap spC) rfl HLn.out (fun h => by cases h) (HRw.out.below (alloc_below w3 _)) (spC_one _) (by omega) (alloc_below w3 _).size ?_; intro ao5 cap5 w5 own5 grow5; rw [Nat.zero_add, List.nil_append] at own5; simp only [Nat.zero_add]; apply Hid.out))
        have B5 := hid (app_below grow5)
        have HM5 : Hid (MineS w5 w3.heap.size ⟨ao5, sn, cap5⟩ h.s) := ⟨HN1.out, own5⟩
        clear own5 grow5 c0 HRw
        unfold Hid
        have i3 : (i : Int) < (sn : Int) := i2
        obtain ⟨g, hg, hg9⟩ := own_head HM5.out.2 (by show 0 < sn; omega)
        obtain rfl : ao5 = some ⟨g, 0, none⟩ := hg
        have HC := hid (md_close HT.out B5.out HM5.out HIl.out now r)
        have hAd := add_head g (i * 15)
        have hgl : g < w5.heap.size := (HM5.out.blk rfl).2
        have n2 : g ≠ w.heap.size + 1 := by have := HT.out.r.lt; omega
        have n0 : w.heap.size + 1 < g := by have := HT.out.r.lt; omega
        obtain ⟨a2, ea2, ca2⟩ := atS_of HM5.out.has.row i HIl.out
        cases ea2
        rw [hAd] at ca2
        obtain ⟨_, _, _, _, _, _, _, _, _, _, p10, p11, p12, p13, p14⟩ := ca2
        dsimp only at p10 p11 p12 p13 p14
        have q10 := own_frozen (j := i * 15 + 10) HM5.out.2
        have q11 := own_frozen (j := i * 15 + 11) HM5.out.2
        have q12 := own_frozen (j := i * 15 + 12) HM5.out.2
        have q13 := own_frozen (j := i * 15 + 13) HM5.out.2
        have q14 := own_frozen (j := i * 15 + 14) HM5.out.2
        have HMr : Hid (Rb w5 (w.heap.size + 1) r) := ⟨(HT.out.below B5.out).m⟩
        obtain ⟨m0, m1, m2, m3⟩ := HMr.out.at
        go_upto_region 11 with fail
        clear p10 p11 p12 p13 p14 q10 q11 q12 q13 q14 m0 m1 m2 m3
        replace HC : Hid (Bw w (((((w5.setCell ⟨g, i * 15 + 10, none⟩ (.int .i64 now)).setCell ⟨g, i * 15 + 11, none⟩ (.int .i64 r.e)).setCell ⟨g, i * 15 + 11 + 1, none⟩ (.int .i64 r.v)).setCell ⟨g, i * 15 + 11 + 2, none⟩ (.int .i64 r.b)).setCell ⟨g, i * 15 + 11 + 3, none⟩ (.bool r.t)) ⟨⟨some a, sn, sc⟩, ⟨eo, en, ec⟩⟩ (.cells #[.int .i64 r.e, .int .i64 r.v, .int .i64 r.b, .bool r.t] 31) ∧ MineS (((((w5.setCell ⟨g, i * 15 + 10, none⟩ (.int .i64 now)).setCell ⟨g, i * 15 + 11, none⟩ (.int .i64 r.e)).setCell ⟨g, i * 15 + 11 + 1, none⟩ (.int .i64 r.v)).setCell ⟨g, i * 15 + 11 + 2, none⟩ (.int .i64 r.b)).setCell ⟨g, i * 15 + 11 + 3, none⟩ (.bool r.t)) w3.heap.size ⟨some ⟨g, 0, none⟩, sn, cap5⟩ (h.s.set i (clS (S h.s i) now r))) := HC
        generalize hX : ((((w5.setCell ⟨g, i * 15 + 10, none⟩ (.int .i64 now)).setCell ⟨g, i * 15 + 11, none⟩ (.int .i64 r.e)).setCell ⟨g, i * 15 + 11 + 1, none⟩ (.int .i64 r.v)).setCell ⟨g, i * 15 + 11 + 2, none⟩ (.int .i64 r.b)).setCell ⟨g, i * 15 + 11 + 3, none⟩ (.bool r.t) = X at HC ⊢
        clear hX
        have c0 : X.cell? ⟨w.heap.size, 0, none⟩ = some (.slice (some a) sn sc) := HC.out.1.a.c0
        have f0 := HC.out.1.a.fz 0
        have hw3 : w.heap.size < w3.heap.size := HT.out.a.lt
        have HZ := hid (md_S HC.out.1 HH.out (Below.refl _ X) hw3 HC.out.2.2 HC.out.2.1)
        go_upto_region 12 with fail
        clear c0 f0 HC
        generalize X.setCell ⟨w.heap.size, 0, none⟩ (.slice (some ⟨g, 0, none⟩) sn cap5) = Y at HZ ⊢
        have c0 : Y.cell? ⟨w.heap.size, 0, none⟩ = some (.slice (some ⟨g, 0, none⟩) sn cap5) := HZ.out.a.c0
        have c1 : Y.cell? ⟨w.heap.size, 1, none⟩ = some (.slice eo en ec) := HZ.out.a.c1
        have r0 : Y.cell? ⟨w.heap.size + 2, 0, none⟩ = some (.slice none 0 0) := HZ.out.r.c0
        have r1 : Y.cell? ⟨w.heap.size + 2, 1, none⟩ = some (.slice none 0 0) := HZ.out.r.c1
        have f0 := HZ.out.r.fz 0
        have f1 := HZ.out.r.fz 1
        go_wp2_with fail
        refine bodyPost_ret (v := .tuple #[.agg #[.slice (some ⟨g, 0, none⟩) sn cap5, .slice eo en ec], .int .i64 0]) (by simp [results, Try.results24, go_sem, *]) rfl ⟨⟨⟨some ⟨g, 0, none⟩, sn, cap5⟩, ⟨eo, en, ec⟩⟩, ret_2 (z := ⟨⟨some ⟨g, 0, none⟩, sn, cap5⟩, ⟨eo, en, ec⟩⟩) HE.out.symm, ?_, HZ.out.fin.2⟩
        rw [ansH_of HE.out HPO.out]
        exact HZ.out.fin.1
end Go.Proofs.Ytmnkbkhfonngeaa.Hi
