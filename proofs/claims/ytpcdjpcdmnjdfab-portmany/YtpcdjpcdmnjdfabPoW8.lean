/- What Wait, Drop do. -/
import Derived.Test.YtpcdjpcdmnjdfabPoW6
namespace Go.Proofs.Ytpcdjpcdmnjdfab.Po
open Go.RowKit

theorem HasQ.setIn' {w : World} {b j : Nat} {p : Pt} {y z : Hd} {l : List Wt} (g : Pb w b p y) (h : HasQ w z l) (u : Value) : HasQ (w.setCell ⟨b, j, none⟩ u) z l :=
  h.kept (kept_set (fun i => i = b) w ⟨b, j, none⟩ u rfl) (g.off h.row)
theorem B2.setO {w wr : World} {p q : Pt} {y z : Hd} {b j : Nat} (h : B2 w wr p q y z) (hb : w.heap.size + 1 < b) (u : Value) : B2 w (wr.setCell ⟨b, j, none⟩ u) p q y z :=
  have kp : Kept (fun i => i = b) wr (wr.setCell ⟨b, j, none⟩ u) := kept_set (fun i => i = b) wr ⟨b, j, none⟩ u rfl
  ⟨h.a.kept kp (by omega), h.r.kept kp (by omega), q_set h.low (by show w.heap.size ≤ b; omega) u⟩
theorem ans2 {w w1 : World} {p : Pt} {y : Hd} {q : Pt} {z : Hd} {l : List Wt} (h : B2 w w1 p p0 y nilH) (hq : HasQ w1 z l) (hn : Off (fun i => i < w.heap.size + 2) z.o (wts l)) : Ans w (put3 w1 (w.heap.size + 1) q z) z l :=
  ⟨hq.set3 hn (by omega) q z, off_less hn (by omega), put3_low h.low (Nat.le_add_right _ 1)⟩
theorem retW {q q' : Pt} {z : Hd} {b b' : Int} {e e' : Int} (h1 : q' = q) (h3 : b' = b) (h4 : e' = e) : Ending.returned (.tuple #[(.agg #[.int .i64 q.k, .int .i64 q.w, .slice z.o z.n z.c]), .int .i64 b, .int .i64 e]) = .returned (.tuple #[(.agg #[.int .i64 q'.k, .int .i64 q'.w, .slice z.o z.n z.c]), .int .i64 b', .int .i64 e']) := by
  subst h1 h3 h4
  rfl
theorem retD {q q' : Pt} {z : Hd} {b b' : Bool} (h1 : q' = q) (h3 : b' = b) : Ending.returned (.tuple #[(.agg #[.int .i64 q.k, .int .i64 q.w, .slice z.o z.n z.c]), .bool b]) = .returned (.tuple #[(.agg #[.int .i64 q'.k, .int .i64 q'.w, .slice z.o z.n z.c]), .bool b']) := by
  subst h1 h3
  rfl
theorem wa_no {p : Pt} {c : Int} (h : rfE p c ≠ 0) : waP p c = p ∧ waN p c = 0 := ⟨by simp only [waP, if_neg h], by simp only [waN, if_neg h]⟩
theorem wa_word {p : Pt} {c : Int} (h : rfE p c = 0) (hw : ¬ p.w = 0) : waP p c = ⟨p.k, 0, p.l⟩ ∧ waN p c = p.w := ⟨by simp only [waP, if_pos h, if_neg hw], by simp only [waN, if_pos h]⟩
theorem wa_wait {p : Pt} {c : Int} (h : rfE p c = 0) (hw : p.w = 0) : waP p c = wiP p 2 (coW c) ∧ waN p c = 0 := ⟨by simp only [waP, if_pos h, if_pos hw], by simp only [waN, if_pos h, hw]⟩
theorem dr_no {p : Pt} {c : Int} (h : fd c p.l = none) : drP p c = p ∧ drB p c = false := by simp [drP, drB, h]
theorem dr_yes {p : Pt} {c : Int} {i : Nat} (h : fd c p.l = some i) : drP p c = woP p i ∧ drB p c = true := by simp [drP, drB, h]
set_option maxRecDepth 100000 in
set_option maxHeartbeats 4000000 in
/-- Wait. -/
theorem wait_any (p : Pt) (y : Hd) (c : Int) (w : World) (hs : y.n ≤ 4999) (HH : Hid (HasQ w y p.l)) :
    Calls Try.prog 11 #[(.agg #[.int .i64 p.k, .int .i64 p.w, .slice y.o y.n y.c]), .int .i64 c] w fun e w' => ∃ z : Hd, e = .returned (.tuple #[(.agg #[.int .i64 (waP p c).k, .int .i64 (waP p c).w, .slice z.o z.n z.c]), .int .i64 (waN p c), .int .i64 (rfE p c)]) ∧ Ans w w' z (waP p c).l := by
  go_enter Try.func11, Try.ntmps11
  go_upto_region 1 with fail
  have HT : Hid (B2 w ((w.alloc (.cells #[.int .i64 p.k, .int .i64 p.w, .slice y.o y.n y.c] 25)).alloc (.cells #[.int .i64 0, .int .i64 0, .slice none 0 0] 25)) p p0 y nilH) := b2_new w p p0 y nilH
  generalize (w.alloc (.cells #[.int .i64 p.k, .int .i64 p.w, .slice y.o y.n y.c] 25)).alloc (.cells #[.int .i64 0, .int .i64 0, .slice none 0 0] 25) = W at HT ⊢
  have c0 := HT.out.a.c0
  have c1 := HT.out.a.c1
  have c2 := HT.out.a.c2
  go_wp2_with fail
  refine (refused_any p y c W (by omega) (HH.out.below HT.out.low)).mono ?_
  rintro e w1 ⟨rfl, b1⟩
  replace HT := hid (HT.out.below b1)
  clear b1 c0 c1 c2
  have c0 := HT.out.a.c0
  have c1 := HT.out.a.c1
  have c2 := HT.out.a.c2
  have hlw : w.heap.size + 1 < w1.heap.size := HT.out.lt
  by_cases hr : rfE p c = 0
  · have HR := hid hr
    rw [hr]
    clear hr
    by_cases hw : p.w = 0
    · have HE := hid (wa_wait HR.out hw)
      have hw1 : (p.w != 0) = false := by simp [hw]
      clear hw
      have HC : Hid (Calls Try.prog 19 #[(.agg #[.int .i64 p.k, .int .i64 p.w, .slice y.o y.n y.c]), .int .i64 2, .agg #[.int .i64 c, .int .i64 0, .int .i64 0, .bool false, .int .i64 0, .int .i64 0, .int .i64 0, .bool false]] w1 fun e w' => ∃ z : Hd, e = .returned (.agg #[.int .i64 (wiP p 2 (coW c)).k, .int .i64 (wiP p 2 (coW c)).w, .slice z.o z.n z.c]) ∧ Ans w1 w' z (wiP p 2 (coW c)).l) := with_any p y 2 (coW c) w1 hs (HH.out.below HT.out.low)
      go_upto_region 8 with fail
      go_wp2_with fail
      refine HC.out.mono ?_
      rintro e w2 ⟨z, rfl, hz⟩
      have HZ := hid hz
      have HT2 := hid (HT.out.below hz.low)
      clear hz c0 c1 c2 HC
      have r0 : w2.cell? ⟨w.heap.size + 1, 0, none⟩ = some (.int .i64 0) := HT2.out.r.c0
      have r1 : w2.cell? ⟨w.heap.size + 1, 1, none⟩ = some (.int .i64 0) := HT2.out.r.c1
      have r2 : w2.cell? ⟨w.heap.size + 1, 2, none⟩ = some (.slice none 0 0) := HT2.out.r.c2
      have g0 := HT2.out.r.fz 0
      have g1 := HT2.out.r.fz 1
      have g2 := HT2.out.r.fz 2
      have HF := hid (ans2 (q := wiP p 2 (coW c)) HT2.out HZ.out.has (off_less HZ.out.new hlw))
      go_wp2_with fail
      refine bodyPost_ret (v := .tuple #[(.agg #[.int .i64 (wiP p 2 (coW c)).k, .int .i64 (wiP p 2 (coW c)).w, .slice z.o z.n z.c]), .int .i64 0, .int .i64 0]) (by simp [results, Try.results11, go_sem, *]) rfl ⟨z, retW HE.out.1 HE.out.2 HR.out, ?_⟩
      rw [HE.out.1]
      exact HF.out
    · have HE := hid (wa_word HR.out hw)
      have hw1 : (p.w != 0) = true := by simp [hw]
      clear hw
      go_upto_region 5 with fail
      go_wp2_with fail
      refine (apart_any p y w1 (by omega) (HH.out.below HT.out.low)).mono ?_
      rintro e w2 ⟨z, rfl, hz⟩
      have HB1 := hid (q_alloc hz.low (.cells #[.int .i64 p.k, .int .i64 p.w, .slice z.o z.n z.c] 25))
      have HO := hid (hp_new hz.has)
      have HN : Hid (Off (fun i => i < w.heap.size + 2) z.o (wts p.l)) := off_less hz.new hlw
      have HL : Hid (w.heap.size + 1 < w2.heap.size) := Nat.lt_of_lt_of_le hlw hz.low.size
      clear hz c0 c1 c2
      replace HT := hid (HT.out.below HB1.out)
      clear HB1 hlw
      go_upto_region 6 with fail
      generalize w2.heap.size = b at HO HL ⊢
      generalize w2.alloc (.cells #[.int .i64 p.k, .int .i64 p.w, .slice z.o z.n z.c] 25) = w3 at HO HT ⊢
      clear w2 w1 W
      have fo1 := HO.out.pb.fz 1
      have o1 := HO.out.pb.c1
      go_upto_region 7 with fail
      replace HT := hid (HT.out.setO (j := 1) HL.out (.int .i64 0))
      have HO2 : Hid (Hp (w3.setCell ⟨b, 1, none⟩ (.int .i64 0)) b ⟨p.k, 0, p.l⟩ z) := ⟨HO.out.pb.setW 0, HasQ.setIn' HO.out.pb HO.out.has _⟩
      clear fo1 o1 HO
      generalize w3.setCell ⟨b, 1, none⟩ (.int .i64 0) = w4 at HO2 HT ⊢
      clear w3
      have c1 := HT.out.a.c1
      have o0 : w4.cell? ⟨b, 0, none⟩ = some (.int .i64 p.k) := HO2.out.pb.c0
      have o1 : w4.cell? ⟨b, 1, none⟩ = some (.int .i64 0) := HO2.out.pb.c1
      have o2 := HO2.out.pb.c2
      have hb := HL.out
      have hlw : w.heap.size + 1 < w4.heap.size := HT.out.lt
      have hbl : b < w4.heap.size := HO2.out.pb.lt
      have nb1 : b ≠ w.heap.size + 1 := by omega
      have r0 : w4.cell? ⟨w.heap.size + 1, 0, none⟩ = some (.int .i64 0) := HT.out.r.c0
      have r1 : w4.cell? ⟨w.heap.size + 1, 1, none⟩ = some (.int .i64 0) := HT.out.r.c1
      have r2 : w4.cell? ⟨w.heap.size + 1, 2, none⟩ = some (.slice none 0 0) := HT.out.r.c2
      have g0 := HT.out.r.fz 0
      have g1 := HT.out.r.fz 1
      have g2 := HT.out.r.fz 2
      have HF := hid (ans2 (q := ⟨p.k, 0, p.l⟩) HT.out HO2.out.has HN.out)
      go_region
      all_goals
        go_wp2_with fail
        refine bodyPost_ret (v := .tuple #[.agg #[.int .i64 p.k, .int .i64 0, .slice z.o z.n z.c], .int .i64 p.w, .int .i64 0]) (by simp [results, Try.results11, go_sem, *]) rfl ⟨z, retW HE.out.1 HE.out.2 HR.out, ?_⟩
        rw [HE.out.1]
        first | exact HF.out | exact ⟨HF.out.has.below (Below.refl _ _).drew, HF.out.new, HF.out.low.drew⟩
  · have HE := hid (wa_no hr)
    obtain ⟨e, he⟩ : ∃ e, rfE p c = e := ⟨_, rfl⟩
    rw [he] at hr ⊢
    have hr1 : (e != 0) = true := by simp [hr]
    have HER := hid he
    clear hr he
    go_upto_region 3 with fail
    go_wp2_with fail
    refine (apart_any p y w1 (by omega) (HH.out.below HT.out.low)).mono ?_
    rintro e' w2 ⟨z, rfl, hz⟩
    have HZ := hid hz
    have HT2 := hid (HT.out.below hz.low)
    clear hz c0 c1 c2
    have r0 : w2.cell? ⟨w.heap.size + 1, 0, none⟩ = some (.int .i64 0) := HT2.out.r.c0
    have r1 : w2.cell? ⟨w.heap.size + 1, 1, none⟩ = some (.int .i64 0) := HT2.out.r.c1
    have r2 : w2.cell? ⟨w.heap.size + 1, 2, none⟩ = some (.slice none 0 0) := HT2.out.r.c2
    have g0 := HT2.out.r.fz 0
    have g1 := HT2.out.r.fz 1
    have g2 := HT2.out.r.fz 2
    have HF := hid (ans2 (q := p) HT2.out HZ.out.has (off_less HZ.out.new hlw))
    go_wp2_with fail
    refine bodyPost_ret (v := .tuple #[(.agg #[.int .i64 p.k, .int .i64 p.w, .slice z.o z.n z.c]), .int .i64 0, .int .i64 e]) (by simp [results, Try.results11, go_sem, *]) rfl ⟨z, retW HE.out.1 HE.out.2 HER.out, ?_⟩
    rw [HE.out.1]
    exact HF.out
set_option maxRecDepth 100000 in
set_option maxHeartbeats 4000000 in
/-- Drop. -/
theorem drop_any (p : Pt) (y : Hd) (c : Int) (w : World) (hs : y.n ≤ 4999) (HH : Hid (HasQ w y p.l)) :
    Calls Try.prog 12 #[(.agg #[.int .i64 p.k, .int .i64 p.w, .slice y.o y.n y.c]), .int .i64 c] w fun e w' => ∃ z : Hd, e = .returned (.tuple #[(.agg #[.int .i64 (drP p c).k, .int .i64 (drP p c).w, .slice z.o z.n z.c]), .bool (drB p c)]) ∧ Ans w w' z (drP p c).l := by
  go_enter Try.func12, Try.ntmps12
  go_upto_region 1 with fail
  have HT : Hid (B2 w ((w.alloc (.cells #[.int .i64 p.k, .int .i64 p.w, .slice y.o y.n y.c] 25)).alloc (.cells #[.int .i64 0, .int .i64 0, .slice none 0 0] 25)) p p0 y nilH) := b2_new w p p0 y nilH
  generalize (w.alloc (.cells #[.int .i64 p.k, .int .i64 p.w, .slice y.o y.n y.c] 25)).alloc (.cells #[.int .i64 0, .int .i64 0, .slice none 0 0] 25) = W at HT ⊢
  have c0 := HT.out.a.c0
  have c1 := HT.out.a.c1
  have c2 := HT.out.a.c2
  go_wp2_with fail
  refine (place_any p y c W (by omega) (HH.out.below HT.out.low)).mono ?_
  rintro e w1 ⟨rfl, b1⟩
  replace HT := hid (HT.out.below b1)
  clear b1 c0 c1 c2
  have c0 := HT.out.a.c0
  have c1 := HT.out.a.c1
  have c2 := HT.out.a.c2
  have hlw : w.heap.size + 1 < w1.heap.size := HT.out.lt
  cases h : fd c p.l with
  | none =>
    have HE := hid (dr_no h)
    rw [fI_none h]
    clear h
    go_wp2_with fail
    refine (apart_any p y w1 (by omega) (HH.out.below HT.out.low)).mono ?_
    rintro e' w2 ⟨z, rfl, hz⟩
    have HZ := hid hz
    have HT2 := hid (HT.out.below hz.low)
    clear hz c0 c1 c2
    have r0 : w2.cell? ⟨w.heap.size + 1, 0, none⟩ = some (.int .i64 0) := HT2.out.r.c0
    have r1 : w2.cell? ⟨w.heap.size + 1, 1, none⟩ = some (.int .i64 0) := HT2.out.r.c1
    have r2 : w2.cell? ⟨w.heap.size + 1, 2, none⟩ = some (.slice none 0 0) := HT2.out.r.c2
    have g0 := HT2.out.r.fz 0
    have g1 := HT2.out.r.fz 1
    have g2 := HT2.out.r.fz 2
    have HF := hid (ans2 (q := p) HT2.out HZ.out.has (off_less HZ.out.new hlw))
    go_wp2_with fail
    refine bodyPost_ret (v := .tuple #[(.agg #[.int .i64 p.k, .int .i64 p.w, .slice z.o z.n z.c]), .bool false]) (by simp [results, Try.results12, go_sem, *]) rfl ⟨z, retD HE.out.1 HE.out.2, ?_⟩
    rw [HE.out.1]
    exact HF.out
  | some i =>
    have HE := hid (dr_yes h)
    have hi : i < y.n := by have h1 := (fd_some.1 h).1; have h2 := HH.out.len; omega
    rw [fI_some h]
    clear h
    have i0 : ¬ (i : Int) < 0 := by omega
    go_wp2_with fail
    refine (without_any p y i w1 (by omega) hi (HH.out.below HT.out.low)).mono ?_
    rintro e' w2 ⟨z, rfl, hz⟩
    have HZ := hid hz
    have HT2 := hid (HT.out.below hz.low)
    clear hz c0 c1 c2
    have r0 : w2.cell? ⟨w.heap.size + 1, 0, none⟩ = some (.int .i64 0) := HT2.out.r.c0
    have r1 : w2.cell? ⟨w.heap.size + 1, 1, none⟩ = some (.int .i64 0) := HT2.out.r.c1
    have r2 : w2.cell? ⟨w.heap.size + 1, 2, none⟩ = some (.slice none 0 0) := HT2.out.r.c2
    have g0 := HT2.out.r.fz 0
    have g1 := HT2.out.r.fz 1
    have g2 := HT2.out.r.fz 2
    have HF := hid (ans2 (q := woP p i) HT2.out HZ.out.has (off_less HZ.out.new hlw))
    go_wp2_with fail
    refine bodyPost_ret (v := .tuple #[(.agg #[.int .i64 (woP p i).k, .int .i64 (woP p i).w, .slice z.o z.n z.c]), .bool true]) (by simp [results, Try.results12, go_sem, *]) rfl ⟨z, retD HE.out.1 HE.out.2, ?_⟩
    rw [HE.out.1]
    exact HF.out
end Go.Proofs.Ytpcdjpcdmnjdfab.Po
