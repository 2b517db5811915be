/- PortRuns: from an empty one on, whoever comes, one behind the other. -/
import Derived.Test.YtpcdjpcdmnjdfaaPoLv
import Derived.Test.YtpcdjpcdmnjdfaaPoFact
namespace Go.Proofs.Ytpcdjpcdmnjdfaa.Po
open Go.RowKit

/-- The cells of a port's box, and of an act. -/
abbrev S13 (c : Nat) (p : Pt) (y : Hd) (a : Addr) (z : Ac) (w : World) : Prop := w.cell? ⟨c, 0, none⟩ = some (.int .i64 p.k) ∧ w.cell? ⟨c, 1, none⟩ = some (.int .i64 p.w) ∧ w.cell? ⟨c, 2, none⟩ = some (.slice y.o y.n y.c) ∧ w.cell? a = some (.int .i64 z.kind) ∧ w.cell? ⟨a.block, a.off + 1, none⟩ = some (.int .i64 z.x.c) ∧ w.cell? ⟨a.block, a.off + 2, none⟩ = some (.int .i64 z.x.v) ∧ w.cell? ⟨a.block, a.off + 3, none⟩ = some (.int .i64 z.x.b) ∧ w.cell? ⟨a.block, a.off + 4, none⟩ = some (.bool z.x.h) ∧ w.cell? ⟨a.block, a.off + 5, none⟩ = some (.int .i64 z.x.o) ∧ w.cell? ⟨a.block, a.off + 6, none⟩ = some (.int .i64 z.x.s) ∧ w.cell? ⟨a.block, a.off + 7, none⟩ = some (.int .i64 z.x.g) ∧ w.cell? ⟨a.block, a.off + 8, none⟩ = some (.bool z.x.t) ∧ w.cell? ⟨a.block, a.off + 9, none⟩ = some (.int .i64 z.n)
theorem s13_of {w : World} {c : Nat} {p : Pt} {y : Hd} {a : Addr} {z : Ac} (h : Pb w c p y) (g : AtZ w a z) : S13 c p y a z w := ⟨h.c0, h.c1, h.c2, g.k, g.c0, g.c1, g.c2, g.c3, g.c4, g.c5, g.c6, g.c7, g.n⟩
theorem s13_kept {S : Nat → Prop} {w w' : World} {c : Nat} {p : Pt} {y : Hd} {a : Addr} {z : Ac} (h : S13 c p y a z w) (k : Kept S w w') (h1 : ¬ S c) (h2 : ¬ S a.block) : S13 c p y a z w' := by
  obtain ⟨a0, a1, a2, b0, b1, b2, b3, b4, b5, b6, b7, b8, b9⟩ := h
  exact ⟨k.cell a0 h1, k.cell a1 h1, k.cell a2 h1, k.cell b0 h2, k.cell b1 h2, k.cell b2 h2, k.cell b3 h2, k.cell b4 h2, k.cell b5 h2, k.cell b6 h2, k.cell b7 h2, k.cell b8 h2, k.cell b9 h2⟩
theorem s13_drew {w : World} {c : Nat} {p : Pt} {y : Hd} {a : Addr} {z : Ac} (h : S13 c p y a z w) : S13 c p y a z w.drew := h
theorem s13_low {w w' : World} {c : Nat} {p : Pt} {y : Hd} {a : Addr} {z : Ac} (h : S13 c p y a z w) (b : Below w.heap.size w w') : S13 c p y a z w' := s13_kept (S := fun _ => False) h (kept_below b) id id
/-- A port's box and an act, in a world that came later. -/
abbrev SM (W : World) (c : Nat) (p : Pt) (y : Hd) (a : Addr) (z : Ac) (X : World) : Prop := Below W.heap.size W X ∧ S13 c p y a z X
theorem keep_S13 {W X : World} {c : Nat} {p : Pt} {y : Hd} {a : Addr} {z : Ac} (h : S13 c p y a z W) (b : Below W.heap.size W X) : SM W c p y a z X := ⟨b, s13_low h b⟩
theorem s13_put3 {w : World} {c d : Nat} {p q : Pt} {y z : Hd} {a : Addr} {x : Ac} (h : S13 c p y a x w) (h1 : c ≠ d) (h2 : a.block ≠ d) : S13 c p y a x (put3 w d q z) := s13_kept h (kept_put3 w d q z) h1 h2
theorem s13_put8 {w : World} {c d : Nat} {p : Pt} {y : Hd} {a : Addr} {x : Ac} {v : Wt} (h : S13 c p y a x w) (h1 : c ≠ d) (h2 : a.block ≠ d) : S13 c p y a x (put8 w d v) := s13_kept h (kept_put8 w d v) h1 h2
/-- The cells of two ports' boxes. -/
abbrev S6 (c e : Nat) (p : Pt) (y z : Hd) (w : World) : Prop := S3 c p y w ∧ S3 e p z w
theorem s6_drew {w : World} {c e : Nat} {p : Pt} {y z : Hd} (h : S6 c e p y z w) : S6 c e p y z w.drew := h
theorem s6_put3 {w : World} {c e b : Nat} {p q : Pt} {y z' z : Hd} (h : S6 c e p y z' w) (h1 : c ≠ b) (h2 : e ≠ b) : S6 c e p y z' (put3 w b q z) := ⟨s3_kept h.1 (kept_put3 w b q z) h1, s3_kept h.2 (kept_put3 w b q z) h2⟩
/-- The two ports' boxes. -/
structure Ru (w wr : World) (p : Pt) (y z : Hd) : Prop where
  sp : Hp wr w.heap.size p y
  sq : Hp wr (w.heap.size + 1) p z
  low : Below w.heap.size w wr
theorem Ru.below {w wr w' : World} {p : Pt} {y z : Hd} (h : Ru w wr p y z) (k : Below wr.heap.size wr w') : Ru w w' p y z := ⟨h.sp.below k, h.sq.below k, q_trans h.low k⟩
theorem Ru.put {w wr : World} {p d : Pt} {y z u u2 : Hd} (h : Ru w wr p y z) (h1 : HasQ wr u d.l) (h2 : HasQ wr u2 d.l) : Ru w (put3 (put3 wr w.heap.size d u) (w.heap.size + 1) d u2) d u u2 := by
  have g1 := hp_put (p' := d) (y' := u) h.sp.pb h1
  have g2 := h.sq.beside (q' := d) (z' := u) h.sp.pb (by omega)
  exact ⟨g1.beside g2.pb (by omega), hp_put g2.pb (h2.put h.sp.pb), put3_low (put3_low h.low (Nat.le_refl _)) (Nat.le_succ _)⟩
theorem ru_new (w : World) : Ru w ((w.alloc (.cells #[.int .i64 0, .int .i64 0, .slice none 0 0] 24)).alloc (.cells #[.int .i64 0, .int .i64 0, .slice none 0 0] 24)) p0 nilH nilH := by
  have h := b2_new w p0 p0 nilH nilH
  exact ⟨⟨h.a, hasQ_nil _⟩, ⟨h.r, hasQ_nil _⟩, h.low⟩
set_option maxRecDepth 100000 in
set_option maxHeartbeats 1000000 in
theorem runs_long (K : LiveC) (y : Hd) (w : World) (h : 100 < y.n) :
    Calls Try.prog 4 #[.slice y.o y.n y.c] w fun e w' => e = .returned (.bool true) ∧ Below w.heap.size w w' := by
  have i1 : (y.n : Int) > 100 := by omega
  clear h
  go_enter Try.func4, Try.ntmps4
  go_wp2_with (go_at_call 9; refine (K _).mono ?_; rintro e w2 ⟨rfl, b⟩)
  go_ret
  exact ⟨rfl, b⟩
set_option maxRecDepth 100000 in
set_option maxHeartbeats 3000000 in
theorem runs_in (K : LiveC) (ao : Option Addr) (N cap : Nat) (l : List Ac) (w : World) (h : N ≤ 100) (HH : Hid (HasZ w ⟨ao, N, cap⟩ l)) :
    Calls Try.prog 4 #[.slice ao N cap] w fun e w' => e = .returned (.bool true) ∧ Below w.heap.size w w' := by
  have i0 : ¬ (N : Int) > 100 := by omega
  go_enter Try.func4, Try.ntmps4
  go_upto_region 4 with fail
  have HR := hid (ru_new w)
  generalize (w.alloc (.cells #[.int .i64 0, .int .i64 0, .slice none 0 0] 24)).alloc (.cells #[.int .i64 0, .int .i64 0, .slice none 0 0] 24) = W at HR ⊢
  go_wp2_with fail
  go_loopw [5] (fun i wr => ∃ (j : Nat) (st : Pt) (y z : Hd), j ≤ N ∧ i = .int .i64 j ∧ Hid (Ru w wr st y z) ∧ Hid (st.l.length ≤ j)) (fun i _ => N - (intOf i).toNat)
  case atStart => exact ⟨0, p0, nilH, nilH, Nat.zero_le _, rfl, HR, Nat.le_refl _⟩
  case round =>
    clear HR
    obtain ⟨W0, rfl⟩ : ∃ W0, W0 = wr := ⟨_, rfl⟩
    obtain ⟨j, st, y, z, hj, rfl, HG, HLn⟩ := hrel
    by_cases hlt : j < N
    · have i1 : (0 : Int) ≤ (j : Int) := by omega
      have i2 : (j : Int) < (N : Int) := by omega
      obtain ⟨la, ea, hza⟩ := HH.out.at j hlt
      obtain rfl : ao = some la := ea
      obtain ⟨a, ha⟩ : ∃ a, l.getD j a0 = a := ⟨_, rfl⟩
      rw [ha] at hza
      have hab : (la.add (j * 10)).block < w.heap.size := hza.lt
      have HZA := hid (hza.below HG.out.low)
      clear hza ha
      have hyn : y.n ≤ 4999 := by have h1 := HG.out.sp.has.len; have h2 := HLn.out; omega
      have hzn : z.n ≤ 4999 := by have h1 := HG.out.sq.has.len; have h2 := HLn.out; omega
      have CD : Hid (∀ X, Below W0.heap.size W0 X → Calls Try.prog 10 #[(.agg #[.int .i64 st.k, .int .i64 st.w, .slice y.o y.n y.c]), (.agg #[.int .i64 a.kind, .int .i64 a.x.c, .int .i64 a.x.v, .int .i64 a.x.b, .bool a.x.h, .int .i64 a.x.o, .int .i64 a.x.s, .int .i64 a.x.g, .bool a.x.t, .int .i64 a.n])] X fun e w' => ∃ z : Hd, e = .returned (.tuple #[(.agg #[.int .i64 (doP st a).k, .int .i64 (doP st a).w, .slice z.o z.n z.c]), (.agg #[.int .i64 (doX st a).c, .int .i64 (doX st a).v, .int .i64 (doX st a).b, .bool (doX st a).h, .int .i64 (doX st a).o, .int .i64 (doX st a).s, .int .i64 (doX st a).g, .bool (doX st a).t]), .bool (doB st a), .int .i64 (doN st a), .int .i64 (doE st a)]) ∧ Ans X w' z (doP st a).l) := fun X b => does_any st y a X hyn (HG.out.sp.has.below b)
      have CM : Hid (∀ W1 X, HasQ W1 z st.l → Below W1.heap.size W1 X → Calls Try.prog 11 #[(.agg #[.int .i64 st.k, .int .i64 st.w, .slice z.o z.n z.c]), (.agg #[.int .i64 a.kind, .int .i64 a.x.c, .int .i64 a.x.v, .int .i64 a.x.b, .bool a.x.h, .int .i64 a.x.o, .int .i64 a.x.s, .int .i64 a.x.g, .bool a.x.t, .int .i64 a.n])] X fun e w' => ∃ u : Hd, e = .returned (.tuple #[(.agg #[.int .i64 (doP st a).k, .int .i64 (doP st a).w, .slice u.o u.n u.c]), (.agg #[.int .i64 (doX st a).c, .int .i64 (doX st a).v, .int .i64 (doX st a).b, .bool (doX st a).h, .int .i64 (doX st a).o, .int .i64 (doX st a).s, .int .i64 (doX st a).g, .bool (doX st a).t]), .bool (doB st a), .int .i64 (doN st a), .int .i64 (doE st a)]) ∧ AnsR X w' z st.l u (doP st a).l) := fun W1 X hz b => model_any st z a X hzn (hz.below b)
      have HLd : Hid ((doP st a).l.length ≤ j + 1) := Nat.le_trans (do_len st a) (Nat.succ_le_succ HLn.out)
      generalize doP st a = d at CD CM HLd
      generalize doX st a = v at CD CM
      generalize doB st a = ok at CD CM
      generalize doN st a = n at CD CM
      generalize doE st a = er at CD CM
      have HGP := hid HG.out.sp.pb
      have hl0 : w.heap.size + 1 < W0.heap.size := HG.out.sq.pb.lt
      go_upto_region 7 with fail
      go_cut [6, 7, 8, 9, 10] from 28 to 39 (fun sa sb sc sd se wx => ∃ (bP bW : Nat) (u : Hd), sa = .pointer (some ⟨bP, 0, none⟩) ∧ sb = .pointer (some ⟨bW, 0, none⟩) ∧ sc = .bool ok ∧ sd = .int .i64 n ∧ se = .int .i64 er ∧ Hid (Fin W0 wx bP bW d u v))
      case first =>
        have hS : S13 (w.heap.size) st y (la.add (j * 10)) a W0 := s13_of HGP.out HZA.out
        go_region_held3 (SM W0 (w.heap.size) st y (la.add (j * 10)) a) ((refine keep_S13 hS ?_; repeat' (first | with_reducible exact HB9.out | with_reducible exact (Below.refl _ W0).drew | with_reducible exact Below.refl _ _ | with_reducible refine Below.drew ?_ | with_reducible refine q_alloc ?_ _ | with_reducible refine q_set ?_ (by dsimp only; omega) _)))
          (first
            | (go_at_call 10; refine (CD.out _ (by first | exact (Below.refl _ W0).drew | exact q_alloc (Below.refl _ W0).drew _ | exact q_alloc (q_alloc (Below.refl _ W0).drew _) _)).mono ?_; rintro e w9 ⟨u, rfl, hz⟩; have HZ := hid hz; have HB9 : Hid (Below W0.heap.size W0 w9) := (q_trans (by first | exact (Below.refl _ W0).drew | exact q_alloc (Below.refl _ W0).drew _ | exact q_alloc (q_alloc (Below.refl _ W0).drew _) _) hz.low); have HR9 := hid (res_of (W := W0) hz (by first | exact (Below.refl _ W0).drew | exact q_alloc (Below.refl _ W0).drew _ | exact q_alloc (q_alloc (Below.refl _ W0).drew _) _)); (first | (have hl2 := lay2 W0 _ _ hz.low; obtain ⟨e0, e1⟩ := hl2; (try (have HWB : Hid (Wb w9 W0.heap.size z0) := (Wb.mk e0); obtain ⟨s0, s1, s2, s3, s4, s5, s6, s7⟩ := HWB.out.at; have k0 := HWB.out.fz 0; have k1 := HWB.out.fz 1; have k2 := HWB.out.fz 2; have k3 := HWB.out.fz 3; have k4 := HWB.out.fz 4; have k5 := HWB.out.fz 5; have k6 := HWB.out.fz 6; have k7 := HWB.out.fz 7; have hlb := HWB.out.lt)); (try (have HPB : Hid (Pb w9 W0.heap.size p0 nilH) := (Pb.mk e0); have g0 : w9.cell? ⟨_, 0, none⟩ = some (.int .i64 0) := HPB.out.c0; have g1 : w9.cell? ⟨_, 1, none⟩ = some (.int .i64 0) := HPB.out.c1; have g2 : w9.cell? ⟨_, 2, none⟩ = some (.slice none 0 0) := HPB.out.c2; have h0 := HPB.out.fz 0; have h1 := HPB.out.fz 1; have h2 := HPB.out.fz 2; have hlp := HPB.out.lt)); clear e0; (try (have HWB : Hid (Wb w9 (W0.heap.size + 1) z0) := (Wb.mk e1); obtain ⟨s0, s1, s2, s3, s4, s5, s6, s7⟩ := HWB.out.at; have k0 := HWB.out.fz 0; have k1 := HWB.out.fz 1; have k2 := HWB.out.fz 2; have k3 := HWB.out.fz 3; have k4 := HWB.out.fz 4; have k5 := HWB.out.fz 5; have k6 := HWB.out.fz 6; have k7 := HWB.out.fz 7; have hlb := HWB.out.lt)); (try (have HPB : Hid (Pb w9 (W0.heap.size + 1) p0 nilH) := (Pb.mk e1); have g0 : w9.cell? ⟨_, 0, none⟩ = some (.int .i64 0) := HPB.out.c0; have g1 : w9.cell? ⟨_, 1, none⟩ = some (.int .i64 0) := HPB.out.c1; have g2 : w9.cell? ⟨_, 2, none⟩ = some (.slice none 0 0) := HPB.out.c2; have h0 := HPB.out.fz 0; have h1 := HPB.out.fz 1; have h2 := HPB.out.fz 2; have hlp := HPB.out.lt)); clear e1) | (have e0 := lay1 W0 _ hz.low; (try (have HWB : Hid (Wb w9 W0.heap.size z0) := (Wb.mk e0); obtain ⟨s0, s1, s2, s3, s4, s5, s6, s7⟩ := HWB.out.at; have k0 := HWB.out.fz 0; have k1 := HWB.out.fz 1; have k2 := HWB.out.fz 2; have k3 := HWB.out.fz 3; have k4 := HWB.out.fz 4; have k5 := HWB.out.fz 5; have k6 := HWB.out.fz 6; have k7 := HWB.out.fz 7; have hlb := HWB.out.lt)); (try (have HPB : Hid (Pb w9 W0.heap.size p0 nilH) := (Pb.mk e0); have g0 : w9.cell? ⟨_, 0, none⟩ = some (.int .i64 0) := HPB.out.c0; have g1 : w9.cell? ⟨_, 1, none⟩ = some (.int .i64 0) := HPB.out.c1; have g2 : w9.cell? ⟨_, 2, none⟩ = some (.slice none 0 0) := HPB.out.c2; have h0 := HPB.out.fz 0; have h1 := HPB.out.fz 1; have h2 := HPB.out.fz 2; have hlp := HPB.out.lt)); clear e0) | skip); clear hz)
            | fail)
        all_goals (try go_wp2_with fail)
        all_goals go_meet
        all_goals
          first
            | with_reducible exact ⟨_, _, u, rfl, rfl, rfl, rfl, rfl, hid (fin4 (v := v) HR9.out)⟩
            | with_reducible exact ⟨_, _, u, rfl, rfl, rfl, rfl, rfl, hid (fin5 (v := v) HR9.out)⟩
            | with_reducible exact ⟨_, _, u, rfl, rfl, rfl, rfl, rfl, hid (fin2 (v := v) HR9.out HPB.out (by omega))⟩
            | with_reducible exact ⟨_, _, u, rfl, rfl, rfl, rfl, rfl, hid (fin3 (v := v) HR9.out HWB.out (by omega) (by simp <;> omega))⟩
            | with_reducible exact ⟨_, _, u, rfl, rfl, rfl, rfl, rfl, hid (fin1 (v := v) HR9.out HPB.out HWB.out (by omega) (by simp <;> omega) (by omega) (by simp <;> omega) (by omega))⟩
            | fail
      case rest =>
        obtain ⟨X1, X2, u, rfl, rfl, rfl, rfl, rfl, HF⟩ := hcut
        obtain ⟨W1, hW1⟩ : ∃ W1, W1 = wc := ⟨_, rfl⟩
        subst hW1
        replace HG := hid (HG.out.below HF.out.low)
        replace HZA := hid (HZA.out.below HF.out.low)
        have hX1 : w.heap.size + 1 < X1 := Nat.lt_of_lt_of_le hl0 HF.out.lo
        clear HGP CD
        have HGP := hid HG.out.sq.pb
        have hl1 : w.heap.size + 1 < W1.heap.size := HG.out.sq.pb.lt
        have CN : Hid (∀ X, Below W1.heap.size W1 X → Calls Try.prog 11 #[(.agg #[.int .i64 st.k, .int .i64 st.w, .slice z.o z.n z.c]), (.agg #[.int .i64 a.kind, .int .i64 a.x.c, .int .i64 a.x.v, .int .i64 a.x.b, .bool a.x.h, .int .i64 a.x.o, .int .i64 a.x.s, .int .i64 a.x.g, .bool a.x.t, .int .i64 a.n])] X fun e w' => ∃ u : Hd, e = .returned (.tuple #[(.agg #[.int .i64 d.k, .int .i64 d.w, .slice u.o u.n u.c]), (.agg #[.int .i64 v.c, .int .i64 v.v, .int .i64 v.b, .bool v.h, .int .i64 v.o, .int .i64 v.s, .int .i64 v.g, .bool v.t]), .bool ok, .int .i64 n, .int .i64 er]) ∧ AnsR X w' z st.l u d.l) := fun X b => CM.out W1 X HG.out.sq.has b
        clear CM
        have HQz := hid HG.out.sq.has
        go_upto_region 8 with fail
        go_cut [11, 12, 13, 14, 15] from 40 to 51 (fun sa sb sc sd se wx => ∃ (bP bW : Nat) (u : Hd), sa = .pointer (some ⟨bP, 0, none⟩) ∧ sb = .pointer (some ⟨bW, 0, none⟩) ∧ sc = .bool ok ∧ sd = .int .i64 n ∧ se = .int .i64 er ∧ Hid (Fin W1 wx bP bW d u v))
        case first =>
          have hS : S13 (w.heap.size + 1) st z (la.add (j * 10)) a W1 := s13_of HGP.out HZA.out
          go_region_held3 (SM W1 (w.heap.size + 1) st z (la.add (j * 10)) a) ((refine keep_S13 hS ?_; repeat' (first | with_reducible exact HB9.out | with_reducible exact (Below.refl _ W1).drew | with_reducible exact Below.refl _ _ | with_reducible refine Below.drew ?_ | with_reducible refine q_alloc ?_ _ | with_reducible refine q_set ?_ (by dsimp only; omega) _)))
            (first
              | (go_at_call 11; refine (CN.out _ (by first | exact (Below.refl _ W1).drew | exact q_alloc (Below.refl _ W1).drew _ | exact q_alloc (q_alloc (Below.refl _ W1).drew _) _)).mono ?_; rintro e w9 ⟨u, rfl, hz⟩; have HZ := hid hz; have HB9 : Hid (Below W1.heap.size W1 w9) := (q_trans (by first | exact (Below.refl _ W1).drew | exact q_alloc (Below.refl _ W1).drew _ | exact q_alloc (q_alloc (Below.refl _ W1).drew _) _) hz.low); have HR9 := hid (res_ofR (W := W1) hz (by first | exact (Below.refl _ W1).drew | exact q_alloc (Below.refl _ W1).drew _ | exact q_alloc (q_alloc (Below.refl _ W1).drew _) _) HQz.out); (first | (have hl2 := lay2 W1 _ _ hz.low; obtain ⟨e0, e1⟩ := hl2; (try (have HWB : Hid (Wb w9 W1.heap.size z0) := (Wb.mk e0); obtain ⟨s0, s1, s2, s3, s4, s5, s6, s7⟩ := HWB.out.at; have k0 := HWB.out.fz 0; have k1 := HWB.out.fz 1; have k2 := HWB.out.fz 2; have k3 := HWB.out.fz 3; have k4 := HWB.out.fz 4; have k5 := HWB.out.fz 5; have k6 := HWB.out.fz 6; have k7 := HWB.out.fz 7; have hlb := HWB.out.lt)); (try (have HPB : Hid (Pb w9 W1.heap.size p0 nilH) := (Pb.mk e0); have g0 : w9.cell? ⟨_, 0, none⟩ = some (.int .i64 0) := HPB.out.c0; have g1 : w9.cell? ⟨_, 1, none⟩ = some (.int .i64 0) := HPB.out.c1; have g2 : w9.cell? ⟨_, 2, none⟩ = some (.slice none 0 0) := HPB.out.c2; have h0 := HPB.out.fz 0; have h1 := HPB.out.fz 1; have h2 := HPB.out.fz 2; have hlp := HPB.out.lt)); clear e0; (try (have HWB : Hid (Wb w9 (W1.heap.size + 1) z0) := (Wb.mk e1); obtain ⟨s0, s1, s2, s3, s4, s5, s6, s7⟩ := HWB.out.at; have k0 := HWB.out.fz 0; have k1 := HWB.out.fz 1; have k2 := HWB.out.fz 2; have k3 := HWB.out.fz 3; have k4 := HWB.out.fz 4; have k5 := HWB.out.fz 5; have k6 := HWB.out.fz 6; have k7 := HWB.out.fz 7; have hlb := HWB.out.lt)); (try (have HPB : Hid (Pb w9 (W1.heap.size + 1) p0 nilH) := (Pb.mk e1); have g0 : w9.cell? ⟨_, 0, none⟩ = some (.int .i64 0) := HPB.out.c0; have g1 : w9.cell? ⟨_, 1, none⟩ = some (.int .i64 0) := HPB.out.c1; have g2 : w9.cell? ⟨_, 2, none⟩ = some (.slice none 0 0) := HPB.out.c2; have h0 := HPB.out.fz 0; have h1 := HPB.out.fz 1; have h2 := HPB.out.fz 2; have hlp := HPB.out.lt)); clear e1) | (have e0 := lay1 W1 _ hz.low; (try (have HWB : Hid (Wb w9 W1.heap.size z0) := (Wb.mk e0); obtain ⟨s0, s1, s2, s3, s4, s5, s6, s7⟩ := HWB.out.at; have k0 := HWB.out.fz 0; have k1 := HWB.out.fz 1; have k2 := HWB.out.fz 2; have k3 := HWB.out.fz 3; have k4 := HWB.out.fz 4; have k5 := HWB.out.fz 5; have k6 := HWB.out.fz 6; have k7 := HWB.out.fz 7; have hlb := HWB.out.lt)); (try (have HPB : Hid (Pb w9 W1.heap.size p0 nilH) := (Pb.mk e0); have g0 : w9.cell? ⟨_, 0, none⟩ = some (.int .i64 0) := HPB.out.c0; have g1 : w9.cell? ⟨_, 1, none⟩ = some (.int .i64 0) := HPB.out.c1; have g2 : w9.cell? ⟨_, 2, none⟩ = some (.slice none 0 0) := HPB.out.c2; have h0 := HPB.out.fz 0; have h1 := HPB.out.fz 1; have h2 := HPB.out.fz 2; have hlp := HPB.out.lt)); clear e0) | skip); clear hz)
              | fail)
          all_goals (try go_wp2_with fail)
          all_goals go_meet
          all_goals
            first
              | with_reducible exact ⟨_, _, u, rfl, rfl, rfl, rfl, rfl, hid (fin4 (v := v) HR9.out)⟩
              | with_reducible exact ⟨_, _, u, rfl, rfl, rfl, rfl, rfl, hid (fin5 (v := v) HR9.out)⟩
              | with_reducible exact ⟨_, _, u, rfl, rfl, rfl, rfl, rfl, hid (fin2 (v := v) HR9.out HPB.out (by omega))⟩
              | with_reducible exact ⟨_, _, u, rfl, rfl, rfl, rfl, rfl, hid (fin3 (v := v) HR9.out HWB.out (by omega) (by simp <;> omega))⟩
              | with_reducible exact ⟨_, _, u, rfl, rfl, rfl, rfl, rfl, hid (fin1 (v := v) HR9.out HPB.out HWB.out (by omega) (by simp <;> omega) (by omega) (by simp <;> omega) (by omega))⟩
              | fail
        case rest =>
          obtain ⟨Y1, Y2, u2, rfl, rfl, rfl, rfl, rfl, HE⟩ := hcut
          replace HG := hid (HG.out.below HE.out.low)
          replace HF := hid (HF.out.below HE.out.low)
          have hY1 : w.heap.size + 1 < Y1 := Nat.lt_of_lt_of_le hl1 HE.out.lo
          clear HGP CN HQz HZA
          have x0 := HF.out.p.c0
          have x1 := HF.out.p.c1
          have x2 := HF.out.p.c2
          have y0 := HE.out.p.c0
          have y1 := HE.out.p.c1
          have y2 := HE.out.p.c2
          have C1 : Hid (Calls Try.prog 12 #[(.agg #[.int .i64 d.k, .int .i64 d.w, .slice u.o u.n u.c]), (.agg #[.int .i64 d.k, .int .i64 d.w, .slice u2.o u2.n u2.c])] wc fun e w' => e = .returned (.bool true) ∧ Below wc.heap.size wc w') := by
            have g := rsame_any d d u u2 wc (by have h1 := HF.out.has.len; have h2 := HLd.out; omega) HF.out.has HE.out.has
            rwa [eqP_refl] at g
          go_wp2_with fail
          refine C1.out.mono ?_
          rintro e w3 ⟨rfl, b3⟩
          replace HG := hid (HG.out.below b3)
          replace HF := hid (HF.out.below b3)
          replace HE := hid (HE.out.below b3)
          clear b3 C1 x0 x1 x2 y0 y1 y2
          obtain ⟨v0, v1, v2, v3, v4, v5, v6, v7⟩ := HF.out.v.at
          obtain ⟨t0, t1, t2, t3, t4, t5, t6, t7⟩ := HE.out.v.at
          have he := eqw_yes (rfl : v = v)
          have hok : (ok != ok) = false := by simp
          have hnn : (n != n) = false := by simp
          have hee : (er != er) = false := by simp
          go_upto_region 11 with fail
          have x0 := HF.out.p.c0
          have x1 := HF.out.p.c1
          have x2 := HF.out.p.c2
          have y0 := HE.out.p.c0
          have y1 := HE.out.p.c1
          have y2 := HE.out.p.c2
          have p0 := HG.out.sp.pb.c0
          have p1 := HG.out.sp.pb.c1
          have p2 := HG.out.sp.pb.c2
          have q0 := HG.out.sq.pb.c0
          have q1 := HG.out.sq.pb.c1
          have q2 := HG.out.sq.pb.c2
          have f0 := HG.out.sp.pb.fz 0
          have f1 := HG.out.sp.pb.fz 1
          have f2 := HG.out.sp.pb.fz 2
          have g0 := HG.out.sq.pb.fz 0
          have g1 := HG.out.sq.pb.fz 1
          have g2 := HG.out.sq.pb.fz 2
          have hl3 : w.heap.size + 1 < w3.heap.size := HG.out.sq.pb.lt
          have hx3 : X1 < w3.heap.size := HF.out.p.lt
          have hy3 : Y1 < w3.heap.size := HE.out.p.lt
          have HN := hid (HG.out.put HF.out.has HE.out.has)
          have hS : S6 X1 Y1 d u u2 w3 := ⟨s3_of HF.out.p, s3_of HE.out.p⟩
          go_region_held3 (S6 X1 Y1 d u u2) (first | with_reducible assumption | with_reducible exact s6_drew hS | with_reducible exact s6_drew (s6_put3 (q := d) (z := u) hS (by omega) (by omega)) | with_reducible exact s6_drew (s6_put3 (q := d) (z := u2) (s6_put3 (q := d) (z := u) hS (by omega) (by omega)) (by omega) (by omega))) (fail)
          all_goals
            go_wp2_with fail
            go_roundw
            case rel => exact ⟨j + 1, d, u, u2, by omega, by go_num, (by first | with_reducible exact HN | with_reducible exact hid (HN.out.below (Below.refl _ _).drew)), HLd⟩
            case measure => simp [intOf]; omega
    · have i2 : ¬ (j : Int) < (N : Int) := by omega
      have HB := hid HG.out.low
      go_wp2_with fail
      refine (K _).mono ?_
      rintro e w2 ⟨rfl, b⟩
      replace HB := hid (q_trans HB.out b)
      clear b
      go_wp2_with fail
      go_ret
      exact ⟨rfl, HB.out⟩
theorem runs_any (K : LiveC) (y : Hd) (l : List Ac) (w : World) (HH : HasZ w y l) :
    Calls Try.prog 4 #[.slice y.o y.n y.c] w fun e w' => e = .returned (.bool true) ∧ Below w.heap.size w w' := by
  by_cases h : 100 < y.n
  · exact runs_long K y w h
  · exact runs_in K y.o y.n y.c l w (by omega) HH
end Go.Proofs.Ytpcdjpcdmnjdfaa.Po
