/- PortTurns: whoever of two comes first, the other one meets it, and nobody waits then. -/
import Derived.Test.YtpcdjpcdmnjdfaaPoLv
import Derived.Test.YtpcdjpcdmnjdfaaPoFact
namespace Go.Proofs.Ytpcdjpcdmnjdfaa.Po
open Go.RowKit

def tP (own : Int) (a : Wt) : Pt := ⟨own, 0, [a]⟩
theorem ok_p0 : okP p0 = true := rfl
theorem turn1 {a : Wt} {own meets : Int} (ha : okC a.c = true) (hm : meets ≠ 0) : cmP p0 a own meets = tP own a ∧ cmX p0 a meets = z0 ∧ cmB p0 a meets = false ∧ rfE p0 a.c = 0 := by
  have h0 : rfE p0 a.c = 0 := rf_ok ok_p0 ha rfl
  have hk : ¬ p0.k = meets := fun e => hm e.symm
  have h := cm_wait (own := own) h0 hk
  exact ⟨h.1, h.2.1, h.2.2, h0⟩
theorem tP_ok {a : Wt} {own : Int} (ha : okC a.c = true) (ho : own = 1 ∨ own = 2) : okP (tP own a) = true := ok_wi (p := p0) ok_p0 ha rfl rfl ho
theorem turn2 {a b : Wt} {own meets : Int} (ha : okC a.c = true) (hab : a.c = b.c) (ho : own = 1 ∨ own = 2) : rfE (tP own a) b.c = 8 ∧ cmP (tP own a) b meets own = tP own a := by
  have h8 : rfE (tP own a) b.c = 8 := rf_there (i := 0) (tP_ok ha ho) (by rw [← hab]; exact ha) (by simp [tP, fd, hab])
  exact ⟨h8, (cm_no (by rw [h8]; decide)).1⟩
theorem turn3 {a b : Wt} {own meets : Int} (ha : okC a.c = true) (hb : okC b.c = true) (hab : ¬ a.c = b.c) (ho : own = 1 ∨ own = 2) : cmP (tP own a) b meets own = ⟨0, 0, []⟩ ∧ cmX (tP own a) b own = a ∧ cmB (tP own a) b own = true ∧ rfE (tP own a) b.c = 0 := by
  have h0 : rfE (tP own a) b.c = 0 := rf_ok (tP_ok ha ho) hb (by simp [tP, fd, hab])
  have h := cm_meet (own := meets) (meets := own) h0 rfl
  exact ⟨h.1, h.2.1, h.2.2, h0⟩
/-- The boxes of PortTurns. -/
structure Tn (w wr : World) (a b : Wt) (p q : Pt) (y z : Hd) (v : Wt) : Prop where
  sa : Wb wr w.heap.size a
  sb : Wb wr (w.heap.size + 1) b
  sp : Hp wr (w.heap.size + 2) p y
  sq : Hp wr (w.heap.size + 3) q z
  sw : Wb wr (w.heap.size + 4) v
  low : Below w.heap.size w wr
theorem Tn.below {w wr w' : World} {a b : Wt} {p q : Pt} {y z : Hd} {v : Wt} (h : Tn w wr a b p q y z v) (k : Below wr.heap.size wr w') : Tn w w' a b p q y z v := ⟨h.sa.below k, h.sb.below k, h.sp.below k, h.sq.below k, h.sw.below k, q_trans h.low k⟩
theorem Tn.lt {w wr : World} {a b : Wt} {p q : Pt} {y z : Hd} {v : Wt} (h : Tn w wr a b p q y z v) : w.heap.size + 4 < wr.heap.size := h.sw.lt
theorem Tn.putP {w wr : World} {a b : Wt} {p q p' : Pt} {y z y' : Hd} {v : Wt} (h : Tn w wr a b p q y z v) (hy : HasQ wr y' p'.l) : Tn w (put3 wr (w.heap.size + 2) p' y') a b p' q y' z v := by
  have k := kept_put3 wr (w.heap.size + 2) p' y'
  exact ⟨h.sa.kept k (by omega), h.sb.kept k (by omega), hp_put h.sp.pb hy, h.sq.beside h.sp.pb (by omega), h.sw.kept k (by omega), put3_low h.low (Nat.le_add_right _ 2)⟩
theorem Tn.putQW {w wr : World} {a b : Wt} {p q q' : Pt} {y z z' : Hd} {v v' : Wt} (h : Tn w wr a b p q y z v) (ho : Off (fun i => i < w.heap.size + 5) y.o (wts p.l)) (hz : HasQ wr z' q'.l) (hn : Off (fun i => i < w.heap.size + 5) z'.o (wts q'.l)) : Tn w (put8 (put3 wr (w.heap.size + 3) q' z') (w.heap.size + 4) v') a b p q' y z' v' := by
  have k := kept_put3 wr (w.heap.size + 3) q' z'
  have k8 := kept_put8 (put3 wr (w.heap.size + 3) q' z') (w.heap.size + 4) v'
  have g := h.sp.beside (q' := q') (z' := z') h.sq.pb (by omega)
  exact ⟨(h.sa.kept k (by omega)).kept k8 (by omega), (h.sb.kept k (by omega)).kept k8 (by omega), ⟨g.pb.kept k8 (by omega), g.has.set8 ho (by omega) v'⟩, ⟨(h.sq.pb.put (p' := q') (y' := z')).kept k8 (by omega), (hz.put h.sq.pb).set8 hn (by omega) v'⟩, (h.sw.kept k (by omega)).put, put8_low (put3_low h.low (Nat.le_add_right _ 3)) (Nat.le_add_right _ 4)⟩
theorem tn_new (w : World) (a b : Wt) : Tn w (((((w.alloc (.cells #[.int .i64 a.c, .int .i64 a.v, .int .i64 a.b, .bool a.h, .int .i64 a.o, .int .i64 a.s, .int .i64 a.g, .bool a.t] 28)).alloc (.cells #[.int .i64 b.c, .int .i64 b.v, .int .i64 b.b, .bool b.h, .int .i64 b.o, .int .i64 b.s, .int .i64 b.g, .bool b.t] 28)).alloc (.cells #[.int .i64 0, .int .i64 0, .slice none 0 0] 24)).alloc (.cells #[.int .i64 0, .int .i64 0, .slice none 0 0] 24)).alloc (.cells #[.int .i64 0, .int .i64 0, .int .i64 0, .bool false, .int .i64 0, .int .i64 0, .int .i64 0, .bool false] 28)) a b p0 p0 nilH nilH z0 := by
  have s1 : (w.alloc (.cells #[.int .i64 a.c, .int .i64 a.v, .int .i64 a.b, .bool a.h, .int .i64 a.o, .int .i64 a.s, .int .i64 a.g, .bool a.t] 28)).heap.size = w.heap.size + 1 := by simp
  have s2 : ((w.alloc (.cells #[.int .i64 a.c, .int .i64 a.v, .int .i64 a.b, .bool a.h, .int .i64 a.o, .int .i64 a.s, .int .i64 a.g, .bool a.t] 28)).alloc (.cells #[.int .i64 b.c, .int .i64 b.v, .int .i64 b.b, .bool b.h, .int .i64 b.o, .int .i64 b.s, .int .i64 b.g, .bool b.t] 28)).heap.size = w.heap.size + 2 := by simp
  have s3 : (((w.alloc (.cells #[.int .i64 a.c, .int .i64 a.v, .int .i64 a.b, .bool a.h, .int .i64 a.o, .int .i64 a.s, .int .i64 a.g, .bool a.t] 28)).alloc (.cells #[.int .i64 b.c, .int .i64 b.v, .int .i64 b.b, .bool b.h, .int .i64 b.o, .int .i64 b.s, .int .i64 b.g, .bool b.t] 28)).alloc (.cells #[.int .i64 0, .int .i64 0, .slice none 0 0] 24)).heap.size = w.heap.size + 3 := by simp
  have s4 : ((((w.alloc (.cells #[.int .i64 a.c, .int .i64 a.v, .int .i64 a.b, .bool a.h, .int .i64 a.o, .int .i64 a.s, .int .i64 a.g, .bool a.t] 28)).alloc (.cells #[.int .i64 b.c, .int .i64 b.v, .int .i64 b.b, .bool b.h, .int .i64 b.o, .int .i64 b.s, .int .i64 b.g, .bool b.t] 28)).alloc (.cells #[.int .i64 0, .int .i64 0, .slice none 0 0] 24)).alloc (.cells #[.int .i64 0, .int .i64 0, .slice none 0 0] 24)).heap.size = w.heap.size + 4 := by simp
  refine ⟨((((wb_new w a).below (alloc_below _ _)).below (alloc_below _ _)).below (alloc_below _ _)).below (alloc_below _ _), ?_, ⟨?_, hasQ_nil _⟩, ⟨?_, hasQ_nil _⟩, ?_, q_alloc (q_alloc (q_alloc (q_alloc (alloc_below _ _) _) _) _) _⟩
  · have h := (((wb_new (w.alloc (.cells #[.int .i64 a.c, .int .i64 a.v, .int .i64 a.b, .bool a.h, .int .i64 a.o, .int .i64 a.s, .int .i64 a.g, .bool a.t] 28)) b).below (alloc_below _ (.cells #[.int .i64 0, .int .i64 0, .slice none 0 0] 24))).below (alloc_below _ (.cells #[.int .i64 0, .int .i64 0, .slice none 0 0] 24))).below (alloc_below _ (.cells #[.int .i64 0, .int .i64 0, .int .i64 0, .bool false, .int .i64 0, .int .i64 0, .int .i64 0, .bool false] 28))
    rwa [s1] at h
  · have h := ((pb_new ((w.alloc (.cells #[.int .i64 a.c, .int .i64 a.v, .int .i64 a.b, .bool a.h, .int .i64 a.o, .int .i64 a.s, .int .i64 a.g, .bool a.t] 28)).alloc (.cells #[.int .i64 b.c, .int .i64 b.v, .int .i64 b.b, .bool b.h, .int .i64 b.o, .int .i64 b.s, .int .i64 b.g, .bool b.t] 28)) p0 nilH).below (alloc_below _ (.cells #[.int .i64 0, .int .i64 0, .slice none 0 0] 24))).below (alloc_below _ (.cells #[.int .i64 0, .int .i64 0, .int .i64 0, .bool false, .int .i64 0, .int .i64 0, .int .i64 0, .bool false] 28))
    rwa [s2] at h
  · have h := (pb_new (((w.alloc (.cells #[.int .i64 a.c, .int .i64 a.v, .int .i64 a.b, .bool a.h, .int .i64 a.o, .int .i64 a.s, .int .i64 a.g, .bool a.t] 28)).alloc (.cells #[.int .i64 b.c, .int .i64 b.v, .int .i64 b.b, .bool b.h, .int .i64 b.o, .int .i64 b.s, .int .i64 b.g, .bool b.t] 28)).alloc (.cells #[.int .i64 0, .int .i64 0, .slice none 0 0] 24)) p0 nilH).below (alloc_below _ (.cells #[.int .i64 0, .int .i64 0, .int .i64 0, .bool false, .int .i64 0, .int .i64 0, .int .i64 0, .bool false] 28))
    rwa [s3] at h
  · have h := wb_new ((((w.alloc (.cells #[.int .i64 a.c, .int .i64 a.v, .int .i64 a.b, .bool a.h, .int .i64 a.o, .int .i64 a.s, .int .i64 a.g, .bool a.t] 28)).alloc (.cells #[.int .i64 b.c, .int .i64 b.v, .int .i64 b.b, .bool b.h, .int .i64 b.o, .int .i64 b.s, .int .i64 b.g, .bool b.t] 28)).alloc (.cells #[.int .i64 0, .int .i64 0, .slice none 0 0] 24)).alloc (.cells #[.int .i64 0, .int .i64 0, .slice none 0 0] 24)) z0
    rwa [s4] at h
theorem two_wts (w : World) (a b : Wt) : Below w.heap.size w ((w.alloc (.cells #[.int .i64 a.c, .int .i64 a.v, .int .i64 a.b, .bool a.h, .int .i64 a.o, .int .i64 a.s, .int .i64 a.g, .bool a.t] 28)).alloc (.cells #[.int .i64 b.c, .int .i64 b.v, .int .i64 b.b, .bool b.h, .int .i64 b.o, .int .i64 b.s, .int .i64 b.g, .bool b.t] 28)) := q_alloc (alloc_below _ _) _
set_option maxRecDepth 100000 in
set_option maxHeartbeats 1000000 in
theorem turns_no (K : LiveC) (a b : Wt) (s : Bool) (w : World) (h : okC a.c = false ∨ okC b.c = false) :
    Calls Try.prog 8 #[(.agg #[.int .i64 a.c, .int .i64 a.v, .int .i64 a.b, .bool a.h, .int .i64 a.o, .int .i64 a.s, .int .i64 a.g, .bool a.t]), (.agg #[.int .i64 b.c, .int .i64 b.v, .int .i64 b.b, .bool b.h, .int .i64 b.o, .int .i64 b.s, .int .i64 b.g, .bool b.t]), .bool s] w fun e w' => e = .returned (.bool true) ∧ Below w.heap.size w w' := by
  have HB := hid (two_wts w a b)
  by_cases h1 : a.c < 0
  · clear h
    go_enter Try.func8, Try.ntmps8
    go_wp2_with fail
    refine (K _).mono ?_
    rintro e w2 ⟨rfl, b2⟩
    replace HB := hid (q_trans HB.out b2)
    clear b2
    go_wp2_with fail
    go_ret
    exact ⟨rfl, HB.out⟩
  · by_cases h2 : a.c ≥ 64
    · clear h
      go_enter Try.func8, Try.ntmps8
      go_wp2_with fail
      refine (K _).mono ?_
      rintro e w2 ⟨rfl, b2⟩
      replace HB := hid (q_trans HB.out b2)
      clear b2
      go_wp2_with fail
      go_ret
      exact ⟨rfl, HB.out⟩
    · by_cases h3 : b.c < 0
      · clear h
        go_enter Try.func8, Try.ntmps8
        go_wp2_with fail
        refine (K _).mono ?_
        rintro e w2 ⟨rfl, b2⟩
        replace HB := hid (q_trans HB.out b2)
        clear b2
        go_wp2_with fail
        go_ret
        exact ⟨rfl, HB.out⟩
      · have h4 : b.c ≥ 64 := by
          rcases h with h | h
          · have := okC_not.1 h; omega
          · have := okC_not.1 h; omega
        clear h
        go_enter Try.func8, Try.ntmps8
        go_wp2_with fail
        refine (K _).mono ?_
        rintro e w2 ⟨rfl, b2⟩
        replace HB := hid (q_trans HB.out b2)
        clear b2
        go_wp2_with fail
        go_ret
        exact ⟨rfl, HB.out⟩
set_option maxRecDepth 100000 in
set_option maxHeartbeats 1000000 in
theorem turns_s (K : LiveC) (a b : Wt) (w : World) (ha : okC a.c = true) (hb : okC b.c = true) :
    Calls Try.prog 8 #[(.agg #[.int .i64 a.c, .int .i64 a.v, .int .i64 a.b, .bool a.h, .int .i64 a.o, .int .i64 a.s, .int .i64 a.g, .bool a.t]), (.agg #[.int .i64 b.c, .int .i64 b.v, .int .i64 b.b, .bool b.h, .int .i64 b.o, .int .i64 b.s, .int .i64 b.g, .bool b.t]), .bool true] w fun e w' => e = .returned (.bool true) ∧ Below w.heap.size w w' := by
  have HA := hid ha
  have HB := hid hb
  have i1 : ¬ a.c < 0 := by have := (okC_iff.1 ha); omega
  have i2 : ¬ a.c ≥ 64 := by have := (okC_iff.1 ha); omega
  have i3 : ¬ b.c < 0 := by have := (okC_iff.1 hb); omega
  have i4 : ¬ b.c ≥ 64 := by have := (okC_iff.1 hb); omega
  clear ha hb
  go_enter Try.func8, Try.ntmps8
  go_upto_region 9 with fail
  have HS : Hid (Tn w (((((w.alloc (.cells #[.int .i64 a.c, .int .i64 a.v, .int .i64 a.b, .bool a.h, .int .i64 a.o, .int .i64 a.s, .int .i64 a.g, .bool a.t] 28)).alloc (.cells #[.int .i64 b.c, .int .i64 b.v, .int .i64 b.b, .bool b.h, .int .i64 b.o, .int .i64 b.s, .int .i64 b.g, .bool b.t] 28)).alloc (.cells #[.int .i64 0, .int .i64 0, .slice none 0 0] 24)).alloc (.cells #[.int .i64 0, .int .i64 0, .slice none 0 0] 24)).alloc (.cells #[.int .i64 0, .int .i64 0, .int .i64 0, .bool false, .int .i64 0, .int .i64 0, .int .i64 0, .bool false] 28)) a b p0 p0 nilH nilH z0) := tn_new w a b
  generalize ((((w.alloc (.cells #[.int .i64 a.c, .int .i64 a.v, .int .i64 a.b, .bool a.h, .int .i64 a.o, .int .i64 a.s, .int .i64 a.g, .bool a.t] 28)).alloc (.cells #[.int .i64 b.c, .int .i64 b.v, .int .i64 b.b, .bool b.h, .int .i64 b.o, .int .i64 b.s, .int .i64 b.g, .bool b.t] 28)).alloc (.cells #[.int .i64 0, .int .i64 0, .slice none 0 0] 24)).alloc (.cells #[.int .i64 0, .int .i64 0, .slice none 0 0] 24)).alloc (.cells #[.int .i64 0, .int .i64 0, .int .i64 0, .bool false, .int .i64 0, .int .i64 0, .int .i64 0, .bool false] 28) = W at HS ⊢
  have c0 : W.cell? ⟨w.heap.size + 2, 0, none⟩ = some (.int .i64 0) := HS.out.sp.pb.c0
  have c1 : W.cell? ⟨w.heap.size + 2, 1, none⟩ = some (.int .i64 0) := HS.out.sp.pb.c1
  have c2 : W.cell? ⟨w.heap.size + 2, 2, none⟩ = some (.slice none 0 0) := HS.out.sp.pb.c2
  obtain ⟨x0, x1, x2, x3, x4, x5, x6, x7⟩ := HS.out.sa.at
  have HC : Hid (Calls Try.prog 20 #[.agg #[.int .i64 0, .int .i64 0, .slice none 0 0], (.agg #[.int .i64 a.c, .int .i64 a.v, .int .i64 a.b, .bool a.h, .int .i64 a.o, .int .i64 a.s, .int .i64 a.g, .bool a.t])] W fun e w' => ∃ z : Hd, e = .returned (.tuple #[(.agg #[.int .i64 (tP 1 a).k, .int .i64 (tP 1 a).w, .slice z.o z.n z.c]), .agg #[.int .i64 0, .int .i64 0, .int .i64 0, .bool false, .int .i64 0, .int .i64 0, .int .i64 0, .bool false], .bool false, .int .i64 0]) ∧ Ans W w' z (tP 1 a).l) := by
    have g := send_any p0 nilH a W (by decide) (hasQ_nil W)
    have f := turn1 (a := a) (own := 1) (meets := 2) HA.out (by decide)
    rw [f.1, f.2.1, f.2.2.1, f.2.2.2] at g
    exact g
  have HWl := hid HS.out.lt
  go_wp2_with fail
  refine HC.out.mono ?_
  generalize hP : tP 1 a = P1
  rintro e w1 ⟨z1, rfl, hz⟩
  have HZ := hid hz
  replace HS := hid (HS.out.below hz.low)
  clear hz c0 c1 c2 x0 x1 x2 x3 x4 x5 x6 x7 HC
  have HPq := hid hP
  clear hP
  have c0 : w1.cell? ⟨w.heap.size + 2, 0, none⟩ = some (.int .i64 0) := HS.out.sp.pb.c0
  have c1 : w1.cell? ⟨w.heap.size + 2, 1, none⟩ = some (.int .i64 0) := HS.out.sp.pb.c1
  have c2 : w1.cell? ⟨w.heap.size + 2, 2, none⟩ = some (.slice none 0 0) := HS.out.sp.pb.c2
  have f0 := HS.out.sp.pb.fz 0
  have f1 := HS.out.sp.pb.fz 1
  have f2 := HS.out.sp.pb.fz 2
  have hl1 : w.heap.size + 4 < w1.heap.size := HS.out.lt
  go_upto_region 10 with fail
  have HO1 : Hid (Off (fun i => i < w.heap.size + 5) z1.o (wts P1.l)) := off_less HZ.out.new HWl.out
  replace HS : Hid (Tn w (((w1.setCell ⟨w.heap.size + 2, 0, none⟩ (.int .i64 P1.k)).setCell ⟨w.heap.size + 2, 1, none⟩ (.int .i64 P1.w)).setCell ⟨w.heap.size + 2, 2, none⟩ (.slice z1.o z1.n z1.c)) a b P1 p0 z1 nilH z0) := HS.out.putP HZ.out.has
  clear HZ c0 c1 c2 f0 f1 f2 hl1
  generalize ((w1.setCell ⟨w.heap.size + 2, 0, none⟩ (.int .i64 P1.k)).setCell ⟨w.heap.size + 2, 1, none⟩ (.int .i64 P1.w)).setCell ⟨w.heap.size + 2, 2, none⟩ (.slice z1.o z1.n z1.c) = W1 at HS ⊢
  have c0 := HS.out.sp.pb.c0
  have c1 := HS.out.sp.pb.c1
  have c2 := HS.out.sp.pb.c2
  obtain ⟨x0, x1, x2, x3, x4, x5, x6, x7⟩ := HS.out.sb.at
  have HC := hid (recv_any P1 z1 b W1 (by have h := HS.out.sp.has.len; rw [← HPq.out] at h; simp [tP] at h; omega) HS.out.sp.has)
  have HL2 : Hid (w.heap.size + 4 < W1.heap.size) := HS.out.lt
  obtain ⟨Q, hQ⟩ : ∃ Q, cmP P1 b 2 1 = Q := ⟨_, rfl⟩
  obtain ⟨v, hv⟩ : ∃ v, cmX P1 b 1 = v := ⟨_, rfl⟩
  obtain ⟨ok, hok⟩ : ∃ ok, cmB P1 b 1 = ok := ⟨_, rfl⟩
  obtain ⟨er, her⟩ : ∃ er, rfE P1 b.c = er := ⟨_, rfl⟩
  rw [hQ, hv, hok, her] at HC
  have HE : Hid (cmP (tP 1 a) b 2 1 = Q ∧ cmX (tP 1 a) b 1 = v ∧ cmB (tP 1 a) b 1 = ok ∧ rfE (tP 1 a) b.c = er) := by unfold Hid; rw [HPq.out]; exact ⟨hQ, hv, hok, her⟩
  clear hQ hv hok her
  go_wp2_with fail
  refine HC.out.mono ?_
  rintro e w2 ⟨z2, rfl, hz⟩
  have HZ := hid hz
  replace HS := hid (HS.out.below hz.low)
  clear hz c0 c1 c2 x0 x1 x2 x3 x4 x5 x6 x7 HC
  have c0 : w2.cell? ⟨w.heap.size + 3, 0, none⟩ = some (.int .i64 0) := HS.out.sq.pb.c0
  have c1 : w2.cell? ⟨w.heap.size + 3, 1, none⟩ = some (.int .i64 0) := HS.out.sq.pb.c1
  have c2 : w2.cell? ⟨w.heap.size + 3, 2, none⟩ = some (.slice none 0 0) := HS.out.sq.pb.c2
  have f0 := HS.out.sq.pb.fz 0
  have f1 := HS.out.sq.pb.fz 1
  have f2 := HS.out.sq.pb.fz 2
  obtain ⟨s0, s1, s2, s3, s4, s5, s6, s7⟩ := HS.out.sw.at
  have k0 := HS.out.sw.fz 0
  have k1 := HS.out.sw.fz 1
  have k2 := HS.out.sw.fz 2
  have k3 := HS.out.sw.fz 3
  have k4 := HS.out.sw.fz 4
  have k5 := HS.out.sw.fz 5
  have k6 := HS.out.sw.fz 6
  have k7 := HS.out.sw.fz 7
  have hl2 : w.heap.size + 4 < w2.heap.size := HS.out.lt
  go_upto_region 13 with fail
  replace HS : Hid (Tn w (((((((((((w2.setCell ⟨w.heap.size + 3, 0, none⟩ (.int .i64 Q.k)).setCell ⟨w.heap.size + 3, 1, none⟩ (.int .i64 Q.w)).setCell ⟨w.heap.size + 3, 2, none⟩ (.slice z2.o z2.n z2.c)).setCell ⟨w.heap.size + 4, 0, none⟩ (.int .i64 v.c)).setCell ⟨w.heap.size + 4, 1, none⟩ (.int .i64 v.v)).setCell ⟨w.heap.size + 4, 2, none⟩ (.int .i64 v.b)).setCell ⟨w.heap.size + 4, 3, none⟩ (.bool v.h)).setCell ⟨w.heap.size + 4, 4, none⟩ (.int .i64 v.o)).setCell ⟨w.heap.size + 4, 5, none⟩ (.int .i64 v.s)).setCell ⟨w.heap.size + 4, 6, none⟩ (.int .i64 v.g)).setCell ⟨w.heap.size + 4, 7, none⟩ (.bool v.t)) a b P1 Q z1 z2 v) := HS.out.putQW (v' := v) HO1.out HZ.out.has (off_less HZ.out.new HL2.out)
  clear HZ HO1 HL2 HWl c0 c1 c2 f0 f1 f2 hl2 s0 s1 s2 s3 s4 s5 s6 s7 k0 k1 k2 k3 k4 k5 k6 k7
  generalize ((((((((((w2.setCell ⟨w.heap.size + 3, 0, none⟩ (.int .i64 Q.k)).setCell ⟨w.heap.size + 3, 1, none⟩ (.int .i64 Q.w)).setCell ⟨w.heap.size + 3, 2, none⟩ (.slice z2.o z2.n z2.c)).setCell ⟨w.heap.size + 4, 0, none⟩ (.int .i64 v.c)).setCell ⟨w.heap.size + 4, 1, none⟩ (.int .i64 v.v)).setCell ⟨w.heap.size + 4, 2, none⟩ (.int .i64 v.b)).setCell ⟨w.heap.size + 4, 3, none⟩ (.bool v.h)).setCell ⟨w.heap.size + 4, 4, none⟩ (.int .i64 v.o)).setCell ⟨w.heap.size + 4, 5, none⟩ (.int .i64 v.s)).setCell ⟨w.heap.size + 4, 6, none⟩ (.int .i64 v.g)).setCell ⟨w.heap.size + 4, 7, none⟩ (.bool v.t) = V at HS ⊢
  have a0 := HS.out.sa.at.c0
  have b0 := HS.out.sb.at.c0
  by_cases hab : a.c = b.c
  · have e1 : (a.c == b.c) = true := by simp [hab]
    have g := turn2 (own := 1) (meets := 2) HA.out hab (by decide)
    have HX : Hid (Q = P1 ∧ er = 8) := by
      have h := HE.out
      exact ⟨h.1.symm.trans (g.2.trans HPq.out), h.2.2.2.symm.trans g.1⟩
    have HX1 := hid HX.out.1
    have her : er = 8 := HX.out.2
    subst her
    clear hab g HE HX
    have p0 := HS.out.sp.pb.c0
    have p1 := HS.out.sp.pb.c1
    have p2 := HS.out.sp.pb.c2
    have q0 := HS.out.sq.pb.c0
    have q1 := HS.out.sq.pb.c1
    have q2 := HS.out.sq.pb.c2
    have C1 : Hid (Calls Try.prog 16 #[(.agg #[.int .i64 P1.k, .int .i64 P1.w, .slice z1.o z1.n z1.c]), (.agg #[.int .i64 Q.k, .int .i64 Q.w, .slice z2.o z2.n z2.c])] V fun e w' => e = .returned (.bool true) ∧ Below V.heap.size V w') := by
      have h := psame_any P1 Q z1 z2 V (by have h := HS.out.sp.has.len; rw [← HPq.out] at h; simp [tP] at h; omega) HS.out.sp.has HS.out.sq.has
      have he : eqP P1 Q = true := eqP_iff.2 HX1.out.symm
      rw [he] at h
      exact h
    go_wp2_with (first | (go_at_call 13; refine (num_any _ _).mono ?_; rintro e w8 ⟨rfl, hw⟩; rw [hw]; clear hw w8) | fail)
    refine C1.out.mono ?_
    rintro e w4 ⟨rfl, b4⟩
    replace HS := hid (HS.out.below b4)
    clear b4
    go_wp2_with fail
    refine (K _).mono ?_
    rintro e w5 ⟨rfl, b5⟩
    replace HS := hid (HS.out.below b5)
    clear b5
    go_wp2_with fail
    go_ret
    exact ⟨rfl, HS.out.low⟩
  · have e1 : (a.c == b.c) = false := by simp [hab]
    have g := turn3 (own := 1) (meets := 2) HA.out HB.out hab (by decide)
    have HX : Hid (Q = ⟨0, 0, []⟩ ∧ v = a ∧ ok = true ∧ er = 0) := by
      have h := HE.out
      exact ⟨h.1.symm.trans g.1, h.2.1.symm.trans g.2.1, h.2.2.1.symm.trans g.2.2.1, h.2.2.2.symm.trans g.2.2.2⟩
    obtain ⟨rfl, rfl, rfl, rfl⟩ := HX.out
    clear hab g HE HX
    have q0 : V.cell? ⟨w.heap.size + 3, 0, none⟩ = some (.int .i64 0) := HS.out.sq.pb.c0
    have q1 : V.cell? ⟨w.heap.size + 3, 1, none⟩ = some (.int .i64 0) := HS.out.sq.pb.c1
    have q2 := HS.out.sq.pb.c2
    obtain ⟨x0, x1, x2, x3, x4, x5, x6, x7⟩ := HS.out.sa.at
    obtain ⟨v0, v1, v2, v3, v4, v5, v6, v7⟩ := HS.out.sw.at
    have he := eqw_yes (rfl : v = v)
    have C1 : Hid (Calls Try.prog 16 #[.agg #[.int .i64 0, .int .i64 0, .slice z2.o z2.n z2.c], .agg #[.int .i64 0, .int .i64 0, .slice none 0 0]] V fun e w' => e = .returned (.bool true) ∧ Below V.heap.size V w') := by
      have h := psame_any p0 p0 z2 nilH V (by have h := HS.out.sq.has.len; simp at h; omega) HS.out.sq.has (hasQ_nil V)
      rw [eqP_refl] at h
      exact h
    go_wp2_with (first | (go_at_call 13; refine (num_any _ _).mono ?_; rintro e w8 ⟨rfl, hw⟩; rw [hw]; clear hw w8) | fail)
    refine C1.out.mono ?_
    rintro e w4 ⟨rfl, b4⟩
    replace HS := hid (HS.out.below b4)
    clear b4
    go_wp2_with fail
    refine (K _).mono ?_
    rintro e w5 ⟨rfl, b5⟩
    replace HS := hid (HS.out.below b5)
    clear b5
    go_wp2_with fail
    go_ret
    exact ⟨rfl, HS.out.low⟩
set_option maxRecDepth 100000 in
set_option maxHeartbeats 1000000 in
theorem turns_r (K : LiveC) (a b : Wt) (w : World) (ha : okC a.c = true) (hb : okC b.c = true) :
    Calls Try.prog 8 #[(.agg #[.int .i64 a.c, .int .i64 a.v, .int .i64 a.b, .bool a.h, .int .i64 a.o, .int .i64 a.s, .int .i64 a.g, .bool a.t]), (.agg #[.int .i64 b.c, .int .i64 b.v, .int .i64 b.b, .bool b.h, .int .i64 b.o, .int .i64 b.s, .int .i64 b.g, .bool b.t]), .bool false] w fun e w' => e = .returned (.bool true) ∧ Below w.heap.size w w' := by
  have HA := hid ha
  have HB := hid hb
  have i1 : ¬ a.c < 0 := by have := (okC_iff.1 ha); omega
  have i2 : ¬ a.c ≥ 64 := by have := (okC_iff.1 ha); omega
  have i3 : ¬ b.c < 0 := by have := (okC_iff.1 hb); omega
  have i4 : ¬ b.c ≥ 64 := by have := (okC_iff.1 hb); omega
  clear ha hb
  go_enter Try.func8, Try.ntmps8
  go_upto_region 11 with fail
  have HS : Hid (Tn w (((((w.alloc (.cells #[.int .i64 a.c, .int .i64 a.v, .int .i64 a.b, .bool a.h, .int .i64 a.o, .int .i64 a.s, .int .i64 a.g, .bool a.t] 28)).alloc (.cells #[.int .i64 b.c, .int .i64 b.v, .int .i64 b.b, .bool b.h, .int .i64 b.o, .int .i64 b.s, .int .i64 b.g, .bool b.t] 28)).alloc (.cells #[.int .i64 0, .int .i64 0, .slice none 0 0] 24)).alloc (.cells #[.int .i64 0, .int .i64 0, .slice none 0 0] 24)).alloc (.cells #[.int .i64 0, .int .i64 0, .int .i64 0, .bool false, .int .i64 0, .int .i64 0, .int .i64 0, .bool false] 28)) a b p0 p0 nilH nilH z0) := tn_new w a b
  generalize ((((w.alloc (.cells #[.int .i64 a.c, .int .i64 a.v, .int .i64 a.b, .bool a.h, .int .i64 a.o, .int .i64 a.s, .int .i64 a.g, .bool a.t] 28)).alloc (.cells #[.int .i64 b.c, .int .i64 b.v, .int .i64 b.b, .bool b.h, .int .i64 b.o, .int .i64 b.s, .int .i64 b.g, .bool b.t] 28)).alloc (.cells #[.int .i64 0, .int .i64 0, .slice none 0 0] 24)).alloc (.cells #[.int .i64 0, .int .i64 0, .slice none 0 0] 24)).alloc (.cells #[.int .i64 0, .int .i64 0, .int .i64 0, .bool false, .int .i64 0, .int .i64 0, .int .i64 0, .bool false] 28) = W at HS ⊢
  have c0 : W.cell? ⟨w.heap.size + 2, 0, none⟩ = some (.int .i64 0) := HS.out.sp.pb.c0
  have c1 : W.cell? ⟨w.heap.size + 2, 1, none⟩ = some (.int .i64 0) := HS.out.sp.pb.c1
  have c2 : W.cell? ⟨w.heap.size + 2, 2, none⟩ = some (.slice none 0 0) := HS.out.sp.pb.c2
  obtain ⟨x0, x1, x2, x3, x4, x5, x6, x7⟩ := HS.out.sa.at
  have HC : Hid (Calls Try.prog 21 #[.agg #[.int .i64 0, .int .i64 0, .slice none 0 0], (.agg #[.int .i64 a.c, .int .i64 a.v, .int .i64 a.b, .bool a.h, .int .i64 a.o, .int .i64 a.s, .int .i64 a.g, .bool a.t])] W fun e w' => ∃ z : Hd, e = .returned (.tuple #[(.agg #[.int .i64 (tP 2 a).k, .int .i64 (tP 2 a).w, .slice z.o z.n z.c]), .agg #[.int .i64 0, .int .i64 0, .int .i64 0, .bool false, .int .i64 0, .int .i64 0, .int .i64 0, .bool false], .bool false, .int .i64 0]) ∧ Ans W w' z (tP 2 a).l) := by
    have g := recv_any p0 nilH a W (by decide) (hasQ_nil W)
    have f := turn1 (a := a) (own := 2) (meets := 1) HA.out (by decide)
    rw [f.1, f.2.1, f.2.2.1, f.2.2.2] at g
    exact g
  have HWl := hid HS.out.lt
  go_wp2_with fail
  refine HC.out.mono ?_
  generalize hP : tP 2 a = P1
  rintro e w1 ⟨z1, rfl, hz⟩
  have HZ := hid hz
  replace HS := hid (HS.out.below hz.low)
  clear hz c0 c1 c2 x0 x1 x2 x3 x4 x5 x6 x7 HC
  have HPq := hid hP
  clear hP
  have c0 : w1.cell? ⟨w.heap.size + 2, 0, none⟩ = some (.int .i64 0) := HS.out.sp.pb.c0
  have c1 : w1.cell? ⟨w.heap.size + 2, 1, none⟩ = some (.int .i64 0) := HS.out.sp.pb.c1
  have c2 : w1.cell? ⟨w.heap.size + 2, 2, none⟩ = some (.slice none 0 0) := HS.out.sp.pb.c2
  have f0 := HS.out.sp.pb.fz 0
  have f1 := HS.out.sp.pb.fz 1
  have f2 := HS.out.sp.pb.fz 2
  have hl1 : w.heap.size + 4 < w1.heap.size := HS.out.lt
  go_upto_region 12 with fail
  have HO1 : Hid (Off (fun i => i < w.heap.size + 5) z1.o (wts P1.l)) := off_less HZ.out.new HWl.out
  replace HS : Hid (Tn w (((w1.setCell ⟨w.heap.size + 2, 0, none⟩ (.int .i64 P1.k)).setCell ⟨w.heap.size + 2, 1, none⟩ (.int .i64 P1.w)).setCell ⟨w.heap.size + 2, 2, none⟩ (.slice z1.o z1.n z1.c)) a b P1 p0 z1 nilH z0) := HS.out.putP HZ.out.has
  clear HZ c0 c1 c2 f0 f1 f2 hl1
  generalize ((w1.setCell ⟨w.heap.size + 2, 0, none⟩ (.int .i64 P1.k)).setCell ⟨w.heap.size + 2, 1, none⟩ (.int .i64 P1.w)).setCell ⟨w.heap.size + 2, 2, none⟩ (.slice z1.o z1.n z1.c) = W1 at HS ⊢
  have c0 := HS.out.sp.pb.c0
  have c1 := HS.out.sp.pb.c1
  have c2 := HS.out.sp.pb.c2
  obtain ⟨x0, x1, x2, x3, x4, x5, x6, x7⟩ := HS.out.sb.at
  have HC := hid (send_any P1 z1 b W1 (by have h := HS.out.sp.has.len; rw [← HPq.out] at h; simp [tP] at h; omega) HS.out.sp.has)
  have HL2 : Hid (w.heap.size + 4 < W1.heap.size) := HS.out.lt
  obtain ⟨Q, hQ⟩ : ∃ Q, cmP P1 b 1 2 = Q := ⟨_, rfl⟩
  obtain ⟨v, hv⟩ : ∃ v, cmX P1 b 2 = v := ⟨_, rfl⟩
  obtain ⟨ok, hok⟩ : ∃ ok, cmB P1 b 2 = ok := ⟨_, rfl⟩
  obtain ⟨er, her⟩ : ∃ er, rfE P1 b.c = er := ⟨_, rfl⟩
  rw [hQ, hv, hok, her] at HC
  have HE : Hid (cmP (tP 2 a) b 1 2 = Q ∧ cmX (tP 2 a) b 2 = v ∧ cmB (tP 2 a) b 2 = ok ∧ rfE (tP 2 a) b.c = er) := by unfold Hid; rw [HPq.out]; exact ⟨hQ, hv, hok, her⟩
  clear hQ hv hok her
  go_wp2_with fail
  refine HC.out.mono ?_
  rintro e w2 ⟨z2, rfl, hz⟩
  have HZ := hid hz
  replace HS := hid (HS.out.below hz.low)
  clear hz c0 c1 c2 x0 x1 x2 x3 x4 x5 x6 x7 HC
  have c0 : w2.cell? ⟨w.heap.size + 3, 0, none⟩ = some (.int .i64 0) := HS.out.sq.pb.c0
  have c1 : w2.cell? ⟨w.heap.size + 3, 1, none⟩ = some (.int .i64 0) := HS.out.sq.pb.c1
  have c2 : w2.cell? ⟨w.heap.size + 3, 2, none⟩ = some (.slice none 0 0) := HS.out.sq.pb.c2
  have f0 := HS.out.sq.pb.fz 0
  have f1 := HS.out.sq.pb.fz 1
  have f2 := HS.out.sq.pb.fz 2
  obtain ⟨s0, s1, s2, s3, s4, s5, s6, s7⟩ := HS.out.sw.at
  have k0 := HS.out.sw.fz 0
  have k1 := HS.out.sw.fz 1
  have k2 := HS.out.sw.fz 2
  have k3 := HS.out.sw.fz 3
  have k4 := HS.out.sw.fz 4
  have k5 := HS.out.sw.fz 5
  have k6 := HS.out.sw.fz 6
  have k7 := HS.out.sw.fz 7
  have hl2 : w.heap.size + 4 < w2.heap.size := HS.out.lt
  go_upto_region 13 with fail
  replace HS : Hid (Tn w (((((((((((w2.setCell ⟨w.heap.size + 3, 0, none⟩ (.int .i64 Q.k)).setCell ⟨w.heap.size + 3, 1, none⟩ (.int .i64 Q.w)).setCell ⟨w.heap.size + 3, 2, none⟩ (.slice z2.o z2.n z2.c)).setCell ⟨w.heap.size + 4, 0, none⟩ (.int .i64 v.c)).setCell ⟨w.heap.size + 4, 1, none⟩ (.int .i64 v.v)).setCell ⟨w.heap.size + 4, 2, none⟩ (.int .i64 v.b)).setCell ⟨w.heap.size + 4, 3, none⟩ (.bool v.h)).setCell ⟨w.heap.size + 4, 4, none⟩ (.int .i64 v.o)).setCell ⟨w.heap.size + 4, 5, none⟩ (.int .i64 v.s)).setCell ⟨w.heap.size + 4, 6, none⟩ (.int .i64 v.g)).setCell ⟨w.heap.size + 4, 7, none⟩ (.bool v.t)) a b P1 Q z1 z2 v) := HS.out.putQW (v' := v) HO1.out HZ.out.has (off_less HZ.out.new HL2.out)
  clear HZ HO1 HL2 HWl c0 c1 c2 f0 f1 f2 hl2 s0 s1 s2 s3 s4 s5 s6 s7 k0 k1 k2 k3 k4 k5 k6 k7
  generalize ((((((((((w2.setCell ⟨w.heap.size + 3, 0, none⟩ (.int .i64 Q.k)).setCell ⟨w.heap.size + 3, 1, none⟩ (.int .i64 Q.w)).setCell ⟨w.heap.size + 3, 2, none⟩ (.slice z2.o z2.n z2.c)).setCell ⟨w.heap.size + 4, 0, none⟩ (.int .i64 v.c)).setCell ⟨w.heap.size + 4, 1, none⟩ (.int .i64 v.v)).setCell ⟨w.heap.size + 4, 2, none⟩ (.int .i64 v.b)).setCell ⟨w.heap.size + 4, 3, none⟩ (.bool v.h)).setCell ⟨w.heap.size + 4, 4, none⟩ (.int .i64 v.o)).setCell ⟨w.heap.size + 4, 5, none⟩ (.int .i64 v.s)).setCell ⟨w.heap.size + 4, 6, none⟩ (.int .i64 v.g)).setCell ⟨w.heap.size + 4, 7, none⟩ (.bool v.t) = V at HS ⊢
  have a0 := HS.out.sa.at.c0
  have b0 := HS.out.sb.at.c0
  by_cases hab : a.c = b.c
  · have e1 : (a.c == b.c) = true := by simp [hab]
    have g := turn2 (own := 2) (meets := 1) HA.out hab (by decide)
    have HX : Hid (Q = P1 ∧ er = 8) := by
      have h := HE.out
      exact ⟨h.1.symm.trans (g.2.trans HPq.out), h.2.2.2.symm.trans g.1⟩
    have HX1 := hid HX.out.1
    have her : er = 8 := HX.out.2
    subst her
    clear hab g HE HX
    have p0 := HS.out.sp.pb.c0
    have p1 := HS.out.sp.pb.c1
    have p2 := HS.out.sp.pb.c2
    have q0 := HS.out.sq.pb.c0
    have q1 := HS.out.sq.pb.c1
    have q2 := HS.out.sq.pb.c2
    have C1 : Hid (Calls Try.prog 16 #[(.agg #[.int .i64 P1.k, .int .i64 P1.w, .slice z1.o z1.n z1.c]), (.agg #[.int .i64 Q.k, .int .i64 Q.w, .slice z2.o z2.n z2.c])] V fun e w' => e = .returned (.bool true) ∧ Below V.heap.size V w') := by
      have h := psame_any P1 Q z1 z2 V (by have h := HS.out.sp.has.len; rw [← HPq.out] at h; simp [tP] at h; omega) HS.out.sp.has HS.out.sq.has
      have he : eqP P1 Q = true := eqP_iff.2 HX1.out.symm
      rw [he] at h
      exact h
    go_wp2_with (first | (go_at_call 13; refine (num_any _ _).mono ?_; rintro e w8 ⟨rfl, hw⟩; rw [hw]; clear hw w8) | fail)
    refine C1.out.mono ?_
    rintro e w4 ⟨rfl, b4⟩
    replace HS := hid (HS.out.below b4)
    clear b4
    go_wp2_with fail
    refine (K _).mono ?_
    rintro e w5 ⟨rfl, b5⟩
    replace HS := hid (HS.out.below b5)
    clear b5
    go_wp2_with fail
    go_ret
    exact ⟨rfl, HS.out.low⟩
  · have e1 : (a.c == b.c) = false := by simp [hab]
    have g := turn3 (own := 2) (meets := 1) HA.out HB.out hab (by decide)
    have HX : Hid (Q = ⟨0, 0, []⟩ ∧ v = a ∧ ok = true ∧ er = 0) := by
      have h := HE.out
      exact ⟨h.1.symm.trans g.1, h.2.1.symm.trans g.2.1, h.2.2.1.symm.trans g.2.2.1, h.2.2.2.symm.trans g.2.2.2⟩
    obtain ⟨rfl, rfl, rfl, rfl⟩ := HX.out
    clear hab g HE HX
    have q0 : V.cell? ⟨w.heap.size + 3, 0, none⟩ = some (.int .i64 0) := HS.out.sq.pb.c0
    have q1 : V.cell? ⟨w.heap.size + 3, 1, none⟩ = some (.int .i64 0) := HS.out.sq.pb.c1
    have q2 := HS.out.sq.pb.c2
    obtain ⟨x0, x1, x2, x3, x4, x5, x6, x7⟩ := HS.out.sa.at
    obtain ⟨v0, v1, v2, v3, v4, v5, v6, v7⟩ := HS.out.sw.at
    have he := eqw_yes (rfl : v = v)
    have C1 : Hid (Calls Try.prog 16 #[.agg #[.int .i64 0, .int .i64 0, .slice z2.o z2.n z2.c], .agg #[.int .i64 0, .int .i64 0, .slice none 0 0]] V fun e w' => e = .returned (.bool true) ∧ Below V.heap.size V w') := by
      have h := psame_any p0 p0 z2 nilH V (by have h := HS.out.sq.has.len; simp at h; omega) HS.out.sq.has (hasQ_nil V)
      rw [eqP_refl] at h
      exact h
    go_wp2_with (first | (go_at_call 13; refine (num_any _ _).mono ?_; rintro e w8 ⟨rfl, hw⟩; rw [hw]; clear hw w8) | fail)
    refine C1.out.mono ?_
    rintro e w4 ⟨rfl, b4⟩
    replace HS := hid (HS.out.below b4)
    clear b4
    go_wp2_with fail
    refine (K _).mono ?_
    rintro e w5 ⟨rfl, b5⟩
    replace HS := hid (HS.out.below b5)
    clear b5
    go_wp2_with fail
    go_ret
    exact ⟨rfl, HS.out.low⟩
theorem turns_any (K : LiveC) (a b : Wt) (s : Bool) (w : World) :
    Calls Try.prog 8 #[(.agg #[.int .i64 a.c, .int .i64 a.v, .int .i64 a.b, .bool a.h, .int .i64 a.o, .int .i64 a.s, .int .i64 a.g, .bool a.t]), (.agg #[.int .i64 b.c, .int .i64 b.v, .int .i64 b.b, .bool b.h, .int .i64 b.o, .int .i64 b.s, .int .i64 b.g, .bool b.t]), .bool s] w fun e w' => e = .returned (.bool true) ∧ Below w.heap.size w w' := by
  cases ha : okC a.c with
  | false => exact turns_no K a b s w (.inl ha)
  | true =>
    cases hb : okC b.c with
    | false => exact turns_no K a b s w (.inr hb)
    | true =>
      cases s with
      | true => exact turns_s K a b w ha hb
      | false => exact turns_r K a b w ha hb
end Go.Proofs.Ytpcdjpcdmnjdfaa.Po
