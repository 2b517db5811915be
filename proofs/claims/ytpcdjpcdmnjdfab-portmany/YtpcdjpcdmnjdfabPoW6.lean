/- What come, Send, Recv do. -/
import Derived.Test.YtpcdjpcdmnjdfabPoW5
namespace Go.Proofs.Ytpcdjpcdmnjdfab.Po
open Go.RowKit

/-- The cells of a port's box, and of a waiter. -/
abbrev S5 (c : Nat) (p : Pt) (o : Option Addr) (n cap : Nat) (a : Addr) (x : Wt) (w : World) : Prop := w.cell? ⟨c, 0, none⟩ = some (.int .i64 p.k) ∧ w.cell? ⟨c, 1, none⟩ = some (.int .i64 p.w) ∧ w.cell? ⟨c, 2, none⟩ = some (.slice o n cap) ∧ w.cell? a = some (.int .i64 x.c) ∧ w.cell? ⟨a.block, a.off + 1, none⟩ = some (.int .i64 x.v) ∧ w.cell? ⟨a.block, a.off + 2, none⟩ = some (.int .i64 x.b) ∧ w.cell? ⟨a.block, a.off + 3, none⟩ = some (.bool x.h) ∧ w.cell? ⟨a.block, a.off + 4, none⟩ = some (.int .i64 x.o) ∧ w.cell? ⟨a.block, a.off + 5, none⟩ = some (.int .i64 x.s) ∧ w.cell? ⟨a.block, a.off + 6, none⟩ = some (.int .i64 x.g) ∧ w.cell? ⟨a.block, a.off + 7, none⟩ = some (.bool x.t)
theorem s5_of {w : World} {c : Nat} {p : Pt} {y : Hd} {a : Addr} {x : Wt} (h1 : Pb w c p y) (e : y.o = some a) (h2 : AtW w a x) : S5 c p (some a) y.n y.c a x w := ⟨h1.c0, h1.c1, h1.c2.trans (by rw [e]), h2.c0, h2.c1, h2.c2, h2.c3, h2.c4, h2.c5, h2.c6, h2.c7⟩
theorem s5_kept {w w' : World} {c : Nat} {p : Pt} {o : Option Addr} {n cap : Nat} {a : Addr} {x : Wt} {S : Nat → Prop} (h : S5 c p o n cap a x w) (k : Kept S w w') (h1 : ¬ S c) (h2 : ¬ S a.block) : S5 c p o n cap a x w' := by
  obtain ⟨a0, a1, a2, b0, b1, b2, b3, b4, b5, b6, b7⟩ := h
  exact ⟨k.cell a0 h1, k.cell a1 h1, k.cell a2 h1, k.cell b0 h2, k.cell b1 h2, k.cell b2 h2, k.cell b3 h2, k.cell b4 h2, k.cell b5 h2, k.cell b6 h2, k.cell b7 h2⟩
theorem s5_low {w w' : World} {c : Nat} {p : Pt} {o : Option Addr} {n cap : Nat} {a : Addr} {x : Wt} (h : S5 c p o n cap a x w) (b : Below w.heap.size w w') : S5 c p o n cap a x w' := s5_kept (S := fun _ => False) h (kept_below b) id id
theorem s5_drew {w : World} {c : Nat} {p : Pt} {o : Option Addr} {n cap : Nat} {a : Addr} {x : Wt} (h : S5 c p o n cap a x w) : S5 c p o n cap a x w.drew := h
theorem s5_put3 {w : World} {c d : Nat} {p q : Pt} {o : Option Addr} {n cap : Nat} {z : Hd} {a : Addr} {x : Wt} (h : S5 c p o n cap a x w) (h1 : c ≠ d) (h2 : a.block ≠ d) : S5 c p o n cap a x (put3 w d q z) := s5_kept h (kept_put3 w d q z) h1 h2
theorem s5_put8 {w : World} {c d : Nat} {p : Pt} {o : Option Addr} {n cap : Nat} {a : Addr} {x v : Wt} (h : S5 c p o n cap a x w) (h1 : c ≠ d) (h2 : a.block ≠ d) : S5 c p o n cap a x (put8 w d v) := s5_kept h (kept_put8 w d v) h1 h2
theorem ret4 {q q' : Pt} {z : Hd} {x x' : Wt} {b b' : Bool} {e e' : Int} (h1 : q' = q) (h2 : x' = x) (h3 : b' = b) (h4 : e' = e) : Ending.returned (.tuple #[(.agg #[.int .i64 q.k, .int .i64 q.w, .slice z.o z.n z.c]), (.agg #[.int .i64 x.c, .int .i64 x.v, .int .i64 x.b, .bool x.h, .int .i64 x.o, .int .i64 x.s, .int .i64 x.g, .bool x.t]), .bool b, .int .i64 e]) = .returned (.tuple #[(.agg #[.int .i64 q'.k, .int .i64 q'.w, .slice z.o z.n z.c]), (.agg #[.int .i64 x'.c, .int .i64 x'.v, .int .i64 x'.b, .bool x'.h, .int .i64 x'.o, .int .i64 x'.s, .int .i64 x'.g, .bool x'.t]), .bool b', .int .i64 e']) := by
  subst h1 h2 h3 h4
  rfl
/-- The answers are laid down. -/
theorem ans4 {w w1 : World} {p : Pt} {y : Hd} {x : Wt} {q : Pt} {z : Hd} {v : Wt} {l : List Wt} (h : B4 w w1 p p0 y nilH x z0) (hq : HasQ w1 z l) (hn : Off (fun i => i < w.heap.size + 4) z.o (wts l)) : Ans w (put8 (put3 w1 (w.heap.size + 2) q z) (w.heap.size + 3) v) z l :=
  ⟨(hq.set3 hn (by omega) q z).set8 hn (by omega) v, off_less hn (by omega), put8_low (put3_low h.low (Nat.le_add_right _ 2)) (Nat.le_add_right _ 3)⟩
theorem ok_some {p : Pt} (h : okP p = true) (hk : p.k ≠ 0) : 0 < p.l.length := by
  rcases ftB_iff.1 (okP_iff.1 h).1 with ⟨e, _⟩ | ⟨_, e, _⟩
  · exact absurd e hk
  · exact e
theorem rf_zero {p : Pt} {c : Int} (h : rfE p c = 0) : okP p = true ∧ okC c = true ∧ fd c p.l = none := by
  unfold rfE at h
  split at h
  · rename_i hh
    split at h
    · cases h
    · rename_i hf
      refine ⟨hh.1, hh.2, ?_⟩
      cases e : fd c p.l with
      | none => rfl
      | some i => rw [e] at hf; simp at hf
  · cases h
theorem ok_few {p : Pt} (h : okP p = true) : p.l.length ≤ 64 := (okP_iff.1 h).2.few
theorem cm_no {p : Pt} {x : Wt} {own meets : Int} (h : rfE p x.c ≠ 0) : cmP p x own meets = p ∧ cmX p x meets = z0 ∧ cmB p x meets = false := by
  refine ⟨by simp only [cmP, if_neg h], by simp only [cmX, if_neg h], ?_⟩
  simp [cmB, h]
theorem cm_meet {p : Pt} {x : Wt} {own meets : Int} (h : rfE p x.c = 0) (hk : p.k = meets) : cmP p x own meets = woP p 0 ∧ cmX p x meets = p.l.getD 0 z0 ∧ cmB p x meets = true := by
  refine ⟨by simp only [cmP, if_pos h, if_pos hk], by simp only [cmX, if_pos h, if_pos hk], ?_⟩
  simp [cmB, h, hk]
theorem cm_wait {p : Pt} {x : Wt} {own meets : Int} (h : rfE p x.c = 0) (hk : ¬ p.k = meets) : cmP p x own meets = wiP p own x ∧ cmX p x meets = z0 ∧ cmB p x meets = false := by
  refine ⟨by simp only [cmP, if_pos h, if_neg hk], by simp only [cmX, if_pos h, if_neg hk], ?_⟩
  simp [cmB, hk]
set_option maxRecDepth 100000 in
set_option maxHeartbeats 4000000 in
/-- come: ONE COMES WHO MEETS THOSE OF A KIND. -/
theorem come_any (p : Pt) (y : Hd) (x : Wt) (own meets : Int) (w : World) (hs : y.n ≤ 4999) (hm : meets ≠ 0) (HH : Hid (HasQ w y p.l)) :
    Calls Try.prog 14 #[(.agg #[.int .i64 p.k, .int .i64 p.w, .slice y.o y.n y.c]), (.agg #[.int .i64 x.c, .int .i64 x.v, .int .i64 x.b, .bool x.h, .int .i64 x.o, .int .i64 x.s, .int .i64 x.g, .bool x.t]), .int .i64 own, .int .i64 meets] w fun e w' => ∃ z : Hd, e = .returned (.tuple #[(.agg #[.int .i64 (cmP p x own meets).k, .int .i64 (cmP p x own meets).w, .slice z.o z.n z.c]), (.agg #[.int .i64 (cmX p x meets).c, .int .i64 (cmX p x meets).v, .int .i64 (cmX p x meets).b, .bool (cmX p x meets).h, .int .i64 (cmX p x meets).o, .int .i64 (cmX p x meets).s, .int .i64 (cmX p x meets).g, .bool (cmX p x meets).t]), .bool (cmB p x meets), .int .i64 (rfE p x.c)]) ∧ Ans w w' z (cmP p x own meets).l := by
  have HMe := hid hm
  clear hm
  go_enter Try.func14, Try.ntmps14
  go_upto_region 1 with fail
  have HT : Hid (B4 w ((((w.alloc (.cells #[.int .i64 p.k, .int .i64 p.w, .slice y.o y.n y.c] 25)).alloc (.cells #[.int .i64 x.c, .int .i64 x.v, .int .i64 x.b, .bool x.h, .int .i64 x.o, .int .i64 x.s, .int .i64 x.g, .bool x.t] 30)).alloc (.cells #[.int .i64 0, .int .i64 0, .slice none 0 0] 25)).alloc (.cells #[.int .i64 0, .int .i64 0, .int .i64 0, .bool false, .int .i64 0, .int .i64 0, .int .i64 0, .bool false] 30)) p p0 y nilH x z0) := b4_new w p p0 y nilH x z0
  generalize (((w.alloc (.cells #[.int .i64 p.k, .int .i64 p.w, .slice y.o y.n y.c] 25)).alloc (.cells #[.int .i64 x.c, .int .i64 x.v, .int .i64 x.b, .bool x.h, .int .i64 x.o, .int .i64 x.s, .int .i64 x.g, .bool x.t] 30)).alloc (.cells #[.int .i64 0, .int .i64 0, .slice none 0 0] 25)).alloc (.cells #[.int .i64 0, .int .i64 0, .int .i64 0, .bool false, .int .i64 0, .int .i64 0, .int .i64 0, .bool false] 30) = W at HT ⊢
  have c0 := HT.out.a.c0
  have c1 := HT.out.a.c1
  have c2 := HT.out.a.c2
  have x0 := HT.out.b.at.c0
  go_wp2_with fail
  refine (refused_any p y x.c W (by omega) (HH.out.below HT.out.low)).mono ?_
  rintro e w1 ⟨rfl, b1⟩
  replace HT := hid (HT.out.below b1)
  clear b1 c0 c1 c2 x0
  have c0 := HT.out.a.c0
  have c1 := HT.out.a.c1
  have c2 := HT.out.a.c2
  by_cases hr : rfE p x.c = 0
  · have HR := hid hr
    rw [hr]
    clear hr
    by_cases hk : p.k = meets
    · have HE := hid (cm_meet (own := own) HR.out hk)
      have hln : 0 < p.l.length := ok_some (rf_zero HR.out).1 (by rw [hk]; exact HMe.out)
      have hyn : 0 < y.n := by have := HH.out.len; omega
      have hk1 : (p.k == meets) = true := by simp [hk]
      clear hk
      go_upto_region 5 with fail
      obtain ⟨a, ea, ha⟩ := HH.out.at 0 hyn
      rw [Nat.zero_mul, add_zero_addr] at ha
      have hab : Hid (a.block < w.heap.size) := ha.lt
      have HAt := hid (ha.below HT.out.low)
      have i2 : (0 : Int) < (y.n : Int) := by omega
      obtain ⟨v, hv⟩ : ∃ v, p.l.getD 0 z0 = v := ⟨_, rfl⟩
      rw [hv] at HAt HE
      clear ha hv hln
      have HCC : Hid (∀ X : World, Below w1.heap.size w1 X → Calls Try.prog 17 #[.agg #[.int .i64 p.k, .int .i64 p.w, .slice (some a) y.n y.c], .int .i64 0] X fun e w' => ∃ z : Hd, e = .returned (.agg #[.int .i64 (woP p 0).k, .int .i64 (woP p 0).w, .slice z.o z.n z.c]) ∧ Ans X w' z (woP p 0).l) := fun X q => by rw [← ea]; exact without_any p y 0 X (by omega) (by omega) (HH.out.below (q_trans HT.out.low q))
      have hS : S5 w.heap.size p (some a) y.n y.c a v w1 := s5_of HT.out.a ea HAt.out
      clear c0 c1 c2 ea
      have hlw : w.heap.size + 3 < w1.heap.size := HT.out.lt
      have ne1 : w.heap.size ≠ w.heap.size + 2 := by omega
      have ne2 : a.block ≠ w.heap.size + 2 := by have := hab.out; omega
      have ne3 : w.heap.size ≠ w.heap.size + 3 := by omega
      have ne4 : a.block ≠ w.heap.size + 3 := by have := hab.out; omega
      go_region_held3 (S5 w.heap.size p (some a) y.n y.c a v) (first | with_reducible assumption | with_reducible exact s5_drew hS | with_reducible exact HS2.out | with_reducible exact HS3.out | with_reducible exact HS4.out)
        (first
          | (go_at_call 17; refine (HCC.out _ (by first | exact (Below.refl _ w1).drew | exact Below.refl _ w1)).mono ?_; rintro e w2 ⟨z, rfl, hz⟩; have HZ : Hid (Ans w1 w2 z (woP p 0).l) := (by first | exact hz | exact hz.of (Below.refl _ w1).drew); have HS2 : Hid (S5 w.heap.size p (some a) y.n y.c a v w2) := s5_low hS HZ.out.low; have HS3 : Hid (S5 w.heap.size p (some a) y.n y.c a v (put3 w2 (w.heap.size + 2) (woP p 0) z)) := s5_put3 HS2.out ne1 ne2; have HS4 : Hid (S5 w.heap.size p (some a) y.n y.c a v (put8 (put3 w2 (w.heap.size + 2) (woP p 0) z) (w.heap.size + 3) v)) := s5_put8 HS3.out ne3 ne4; have HT2 := hid (HT.out.below HZ.out.low); have r0 : w2.cell? ⟨w.heap.size + 2, 0, none⟩ = some (.int .i64 0) := HT2.out.r.c0; have r1 : w2.cell? ⟨w.heap.size + 2, 1, none⟩ = some (.int .i64 0) := HT2.out.r.c1; have r2 : w2.cell? ⟨w.heap.size + 2, 2, none⟩ = some (.slice none 0 0) := HT2.out.r.c2; have g0 := HT2.out.r.fz 0; have g1 := HT2.out.r.fz 1; have g2 := HT2.out.r.fz 2; obtain ⟨s0, s1, s2, s3, s4, s5, s6, s7⟩ := HT2.out.s.at; have k0 := HT2.out.s.fz 0; have k1 := HT2.out.s.fz 1; have k2 := HT2.out.s.fz 2; have k3 := HT2.out.s.fz 3; have k4 := HT2.out.s.fz 4; have k5 := HT2.out.s.fz 5; have k6 := HT2.out.s.fz 6; have k7 := HT2.out.s.fz 7; clear hz)
          | fail)
      all_goals
        have hn : Off (fun i => i < w.heap.size + 4) z.o (wts (woP p 0).l) := off_less HZ.out.new hlw
        have HF := hid (ans4 (q := woP p 0) (v := v) HT2.out HZ.out.has hn)
        go_wp2_with fail
        refine bodyPost_ret (v := .tuple #[(.agg #[.int .i64 (woP p 0).k, .int .i64 (woP p 0).w, .slice z.o z.n z.c]), (.agg #[.int .i64 v.c, .int .i64 v.v, .int .i64 v.b, .bool v.h, .int .i64 v.o, .int .i64 v.s, .int .i64 v.g, .bool v.t]), .bool true, .int .i64 0]) (by simp [results, Try.results14, go_sem, *]) rfl ⟨z, ret4 HE.out.1 HE.out.2.1 HE.out.2.2 HR.out, ?_⟩
        rw [HE.out.1]
        exact HF.out
    · have HE := hid (cm_wait (own := own) HR.out hk)
      have hk1 : (p.k == meets) = false := by simp [hk]
      clear hk
      go_upto_region 6 with fail
      obtain ⟨x0, x1, x2, x3, x4, x5, x6, x7⟩ := HT.out.b.at
      have hlw : w.heap.size + 3 < w1.heap.size := HT.out.lt
      go_wp2_with fail
      refine (with_any p y own x w1 hs (HH.out.below HT.out.low)).mono ?_
      rintro e w2 ⟨z, rfl, hz⟩
      have HZ := hid hz
      have HT2 := hid (HT.out.below hz.low)
      clear hz c0 c1 c2 x0 x1 x2 x3 x4 x5 x6 x7
      have r0 : w2.cell? ⟨w.heap.size + 2, 0, none⟩ = some (.int .i64 0) := HT2.out.r.c0
      have r1 : w2.cell? ⟨w.heap.size + 2, 1, none⟩ = some (.int .i64 0) := HT2.out.r.c1
      have r2 : w2.cell? ⟨w.heap.size + 2, 2, none⟩ = some (.slice none 0 0) := HT2.out.r.c2
      have g0 := HT2.out.r.fz 0
      have g1 := HT2.out.r.fz 1
      have g2 := HT2.out.r.fz 2
      obtain ⟨s0, s1, s2, s3, s4, s5, s6, s7⟩ := HT2.out.s.at
      have k0 := HT2.out.s.fz 0
      have k1 := HT2.out.s.fz 1
      have k2 := HT2.out.s.fz 2
      have k3 := HT2.out.s.fz 3
      have k4 := HT2.out.s.fz 4
      have k5 := HT2.out.s.fz 5
      have k6 := HT2.out.s.fz 6
      have k7 := HT2.out.s.fz 7
      have hn : Hid (Off (fun i => i < w.heap.size + 4) z.o (wts (wiP p own x).l)) := off_less HZ.out.new hlw
      have HF := hid (ans4 (q := wiP p own x) (v := z0) HT2.out HZ.out.has hn.out)
      go_wp2_with fail
      refine bodyPost_ret (v := .tuple #[(.agg #[.int .i64 (wiP p own x).k, .int .i64 (wiP p own x).w, .slice z.o z.n z.c]), .agg #[.int .i64 0, .int .i64 0, .int .i64 0, .bool false, .int .i64 0, .int .i64 0, .int .i64 0, .bool false], .bool false, .int .i64 0]) (by simp [results, Try.results14, go_sem, *]) rfl ⟨z, ret4 HE.out.1 HE.out.2.1 HE.out.2.2 HR.out, ?_⟩
      rw [HE.out.1]
      exact HF.out
  · have HE := hid (cm_no (own := own) (meets := meets) hr)
    obtain ⟨e, he⟩ : ∃ e, rfE p x.c = e := ⟨_, rfl⟩
    rw [he] at hr ⊢
    have hr1 : (e != 0) = true := by simp [hr]
    have HER := hid he
    clear hr he
    go_upto_region 3 with fail
    have hlw : w.heap.size + 3 < w1.heap.size := HT.out.lt
    go_wp2_with fail
    refine (apart_any p y w1 (by omega) (HH.out.below HT.out.low)).mono ?_
    rintro e' w2 ⟨z, rfl, hz⟩
    have HZ := hid hz
    have HT2 := hid (HT.out.below hz.low)
    clear hz c0 c1 c2
    have r0 : w2.cell? ⟨w.heap.size + 2, 0, none⟩ = some (.int .i64 0) := HT2.out.r.c0
    have r1 : w2.cell? ⟨w.heap.size + 2, 1, none⟩ = some (.int .i64 0) := HT2.out.r.c1
    have r2 : w2.cell? ⟨w.heap.size + 2, 2, none⟩ = some (.slice none 0 0) := HT2.out.r.c2
    have g0 := HT2.out.r.fz 0
    have g1 := HT2.out.r.fz 1
    have g2 := HT2.out.r.fz 2
    obtain ⟨s0, s1, s2, s3, s4, s5, s6, s7⟩ := HT2.out.s.at
    have k0 := HT2.out.s.fz 0
    have k1 := HT2.out.s.fz 1
    have k2 := HT2.out.s.fz 2
    have k3 := HT2.out.s.fz 3
    have k4 := HT2.out.s.fz 4
    have k5 := HT2.out.s.fz 5
    have k6 := HT2.out.s.fz 6
    have k7 := HT2.out.s.fz 7
    have hn : Hid (Off (fun i => i < w.heap.size + 4) z.o (wts p.l)) := off_less HZ.out.new hlw
    have HF := hid (ans4 (q := p) (v := z0) HT2.out HZ.out.has hn.out)
    go_wp2_with fail
    refine bodyPost_ret (v := .tuple #[(.agg #[.int .i64 p.k, .int .i64 p.w, .slice z.o z.n z.c]), .agg #[.int .i64 0, .int .i64 0, .int .i64 0, .bool false, .int .i64 0, .int .i64 0, .int .i64 0, .bool false], .bool false, .int .i64 e]) (by simp [results, Try.results14, go_sem, *]) rfl ⟨z, ret4 HE.out.1 HE.out.2.1 HE.out.2.2 HER.out, ?_⟩
    rw [HE.out.1]
    exact HF.out
set_option maxRecDepth 100000 in
set_option maxHeartbeats 2000000 in
/-- Send. -/
theorem send_any (p : Pt) (y : Hd) (x : Wt) (w : World) (hs : y.n ≤ 4999) (HH : Hid (HasQ w y p.l)) :
    Calls Try.prog 5 #[(.agg #[.int .i64 p.k, .int .i64 p.w, .slice y.o y.n y.c]), (.agg #[.int .i64 x.c, .int .i64 x.v, .int .i64 x.b, .bool x.h, .int .i64 x.o, .int .i64 x.s, .int .i64 x.g, .bool x.t])] w fun e w' => ∃ z : Hd, e = .returned (.tuple #[(.agg #[.int .i64 (cmP p x 1 2).k, .int .i64 (cmP p x 1 2).w, .slice z.o z.n z.c]), (.agg #[.int .i64 (cmX p x 2).c, .int .i64 (cmX p x 2).v, .int .i64 (cmX p x 2).b, .bool (cmX p x 2).h, .int .i64 (cmX p x 2).o, .int .i64 (cmX p x 2).s, .int .i64 (cmX p x 2).g, .bool (cmX p x 2).t]), .bool (cmB p x 2), .int .i64 (rfE p x.c)]) ∧ Ans w w' z (cmP p x 1 2).l := by
  go_enter Try.func5, Try.ntmps5
  go_upto_region 1 with fail
  have HT : Hid (B4 w ((((w.alloc (.cells #[.int .i64 p.k, .int .i64 p.w, .slice y.o y.n y.c] 25)).alloc (.cells #[.int .i64 x.c, .int .i64 x.v, .int .i64 x.b, .bool x.h, .int .i64 x.o, .int .i64 x.s, .int .i64 x.g, .bool x.t] 30)).alloc (.cells #[.int .i64 0, .int .i64 0, .slice none 0 0] 25)).alloc (.cells #[.int .i64 0, .int .i64 0, .int .i64 0, .bool false, .int .i64 0, .int .i64 0, .int .i64 0, .bool false] 30)) p p0 y nilH x z0) := b4_new w p p0 y nilH x z0
  generalize (((w.alloc (.cells #[.int .i64 p.k, .int .i64 p.w, .slice y.o y.n y.c] 25)).alloc (.cells #[.int .i64 x.c, .int .i64 x.v, .int .i64 x.b, .bool x.h, .int .i64 x.o, .int .i64 x.s, .int .i64 x.g, .bool x.t] 30)).alloc (.cells #[.int .i64 0, .int .i64 0, .slice none 0 0] 25)).alloc (.cells #[.int .i64 0, .int .i64 0, .int .i64 0, .bool false, .int .i64 0, .int .i64 0, .int .i64 0, .bool false] 30) = W at HT ⊢
  have c0 := HT.out.a.c0
  have c1 := HT.out.a.c1
  have c2 := HT.out.a.c2
  obtain ⟨x0, x1, x2, x3, x4, x5, x6, x7⟩ := HT.out.b.at
  have hlw : w.heap.size + 3 < W.heap.size := HT.out.lt
  go_wp2_with fail
  refine (come_any p y x 1 2 W hs (by decide) (HH.out.below HT.out.low)).mono ?_
  obtain ⟨q, hq⟩ : ∃ q, cmP p x 1 2 = q := ⟨_, rfl⟩
  obtain ⟨v, hv⟩ : ∃ v, cmX p x 2 = v := ⟨_, rfl⟩
  obtain ⟨ok, hok⟩ : ∃ ok, cmB p x 2 = ok := ⟨_, rfl⟩
  obtain ⟨er, her⟩ : ∃ er, rfE p x.c = er := ⟨_, rfl⟩
  rw [hq, hv, hok, her]
  have HQ := hid hq
  have HV := hid hv
  have HOK := hid hok
  have HER := hid her
  clear hq hv hok her
  rintro e w2 ⟨z, rfl, hz⟩
  have HZ := hid hz
  have HT2 := hid (HT.out.below hz.low)
  clear hz c0 c1 c2 x0 x1 x2 x3 x4 x5 x6 x7
  have r0 : w2.cell? ⟨w.heap.size + 2, 0, none⟩ = some (.int .i64 0) := HT2.out.r.c0
  have r1 : w2.cell? ⟨w.heap.size + 2, 1, none⟩ = some (.int .i64 0) := HT2.out.r.c1
  have r2 : w2.cell? ⟨w.heap.size + 2, 2, none⟩ = some (.slice none 0 0) := HT2.out.r.c2
  have g0 := HT2.out.r.fz 0
  have g1 := HT2.out.r.fz 1
  have g2 := HT2.out.r.fz 2
  obtain ⟨s0, s1, s2, s3, s4, s5, s6, s7⟩ := HT2.out.s.at
  have k0 := HT2.out.s.fz 0
  have k1 := HT2.out.s.fz 1
  have k2 := HT2.out.s.fz 2
  have k3 := HT2.out.s.fz 3
  have k4 := HT2.out.s.fz 4
  have k5 := HT2.out.s.fz 5
  have k6 := HT2.out.s.fz 6
  have k7 := HT2.out.s.fz 7
  have hn : Hid (Off (fun i => i < w.heap.size + 4) z.o (wts q.l)) := off_less HZ.out.new hlw
  have HF := hid (ans4 (q := q) (v := v) HT2.out HZ.out.has hn.out)
  go_wp2_with fail
  refine bodyPost_ret (v := .tuple #[(.agg #[.int .i64 q.k, .int .i64 q.w, .slice z.o z.n z.c]), (.agg #[.int .i64 v.c, .int .i64 v.v, .int .i64 v.b, .bool v.h, .int .i64 v.o, .int .i64 v.s, .int .i64 v.g, .bool v.t]), .bool ok, .int .i64 er]) (by simp [results, Try.results5, go_sem, *]) rfl ⟨z, ret4 HQ.out HV.out HOK.out HER.out, ?_⟩
  rw [HQ.out]
  exact HF.out
set_option maxRecDepth 100000 in
set_option maxHeartbeats 2000000 in
/-- Recv. -/
theorem recv_any (p : Pt) (y : Hd) (x : Wt) (w : World) (hs : y.n ≤ 4999) (HH : Hid (HasQ w y p.l)) :
    Calls Try.prog 7 #[(.agg #[.int .i64 p.k, .int .i64 p.w, .slice y.o y.n y.c]), (.agg #[.int .i64 x.c, .int .i64 x.v, .int .i64 x.b, .bool x.h, .int .i64 x.o, .int .i64 x.s, .int .i64 x.g, .bool x.t])] w fun e w' => ∃ z : Hd, e = .returned (.tuple #[(.agg #[.int .i64 (cmP p x 2 1).k, .int .i64 (cmP p x 2 1).w, .slice z.o z.n z.c]), (.agg #[.int .i64 (cmX p x 1).c, .int .i64 (cmX p x 1).v, .int .i64 (cmX p x 1).b, .bool (cmX p x 1).h, .int .i64 (cmX p x 1).o, .int .i64 (cmX p x 1).s, .int .i64 (cmX p x 1).g, .bool (cmX p x 1).t]), .bool (cmB p x 1), .int .i64 (rfE p x.c)]) ∧ Ans w w' z (cmP p x 2 1).l := by
  go_enter Try.func7, Try.ntmps7
  go_upto_region 1 with fail
  have HT : Hid (B4 w ((((w.alloc (.cells #[.int .i64 p.k, .int .i64 p.w, .slice y.o y.n y.c] 25)).alloc (.cells #[.int .i64 x.c, .int .i64 x.v, .int .i64 x.b, .bool x.h, .int .i64 x.o, .int .i64 x.s, .int .i64 x.g, .bool x.t] 30)).alloc (.cells #[.int .i64 0, .int .i64 0, .slice none 0 0] 25)).alloc (.cells #[.int .i64 0, .int .i64 0, .int .i64 0, .bool false, .int .i64 0, .int .i64 0, .int .i64 0, .bool false] 30)) p p0 y nilH x z0) := b4_new w p p0 y nilH x z0
  generalize (((w.alloc (.cells #[.int .i64 p.k, .int .i64 p.w, .slice y.o y.n y.c] 25)).alloc (.cells #[.int .i64 x.c, .int .i64 x.v, .int .i64 x.b, .bool x.h, .int .i64 x.o, .int .i64 x.s, .int .i64 x.g, .bool x.t] 30)).alloc (.cells #[.int .i64 0, .int .i64 0, .slice none 0 0] 25)).alloc (.cells #[.int .i64 0, .int .i64 0, .int .i64 0, .bool false, .int .i64 0, .int .i64 0, .int .i64 0, .bool false] 30) = W at HT ⊢
  have c0 := HT.out.a.c0
  have c1 := HT.out.a.c1
  have c2 := HT.out.a.c2
  obtain ⟨x0, x1, x2, x3, x4, x5, x6, x7⟩ := HT.out.b.at
  have hlw : w.heap.size + 3 < W.heap.size := HT.out.lt
  go_wp2_with fail
  refine (come_any p y x 2 1 W hs (by decide) (HH.out.below HT.out.low)).mono ?_
  obtain ⟨q, hq⟩ : ∃ q, cmP p x 2 1 = q := ⟨_, rfl⟩
  obtain ⟨v, hv⟩ : ∃ v, cmX p x 1 = v := ⟨_, rfl⟩
  obtain ⟨ok, hok⟩ : ∃ ok, cmB p x 1 = ok := ⟨_, rfl⟩
  obtain ⟨er, her⟩ : ∃ er, rfE p x.c = er := ⟨_, rfl⟩
  rw [hq, hv, hok, her]
  have HQ := hid hq
  have HV := hid hv
  have HOK := hid hok
  have HER := hid her
  clear hq hv hok her
  rintro e w2 ⟨z, rfl, hz⟩
  have HZ := hid hz
  have HT2 := hid (HT.out.below hz.low)
  clear hz c0 c1 c2 x0 x1 x2 x3 x4 x5 x6 x7
  have r0 : w2.cell? ⟨w.heap.size + 2, 0, none⟩ = some (.int .i64 0) := HT2.out.r.c0
  have r1 : w2.cell? ⟨w.heap.size + 2, 1, none⟩ = some (.int .i64 0) := HT2.out.r.c1
  have r2 : w2.cell? ⟨w.heap.size + 2, 2, none⟩ = some (.slice none 0 0) := HT2.out.r.c2
  have g0 := HT2.out.r.fz 0
  have g1 := HT2.out.r.fz 1
  have g2 := HT2.out.r.fz 2
  obtain ⟨s0, s1, s2, s3, s4, s5, s6, s7⟩ := HT2.out.s.at
  have k0 := HT2.out.s.fz 0
  have k1 := HT2.out.s.fz 1
  have k2 := HT2.out.s.fz 2
  have k3 := HT2.out.s.fz 3
  have k4 := HT2.out.s.fz 4
  have k5 := HT2.out.s.fz 5
  have k6 := HT2.out.s.fz 6
  have k7 := HT2.out.s.fz 7
  have hn : Hid (Off (fun i => i < w.heap.size + 4) z.o (wts q.l)) := off_less HZ.out.new hlw
  have HF := hid (ans4 (q := q) (v := v) HT2.out HZ.out.has hn.out)
  go_wp2_with fail
  refine bodyPost_ret (v := .tuple #[(.agg #[.int .i64 q.k, .int .i64 q.w, .slice z.o z.n z.c]), (.agg #[.int .i64 v.c, .int .i64 v.v, .int .i64 v.b, .bool v.h, .int .i64 v.o, .int .i64 v.s, .int .i64 v.g, .bool v.t]), .bool ok, .int .i64 er]) (by simp [results, Try.results7, go_sem, *]) rfl ⟨z, ret4 HQ.out HV.out HOK.out HER.out, ?_⟩
  rw [HQ.out]
  exact HF.out
end Go.Proofs.Ytpcdjpcdmnjdfab.Po
