/- PortBits: each bit that was signalled is taken by one who waits. -/
import Derived.Test.YtpcdjpcdmnjdfaaPoLv
import Derived.Test.YtpcdjpcdmnjdfaaPoBits0
namespace Go.Proofs.Ytpcdjpcdmnjdfaa.Po
open Go.RowKit

/-- The port's box and what lies below. -/
structure Bs (w wr : World) (p : Pt) (y : Hd) : Prop where
  sp : Hp wr w.heap.size p y
  low : Below w.heap.size w wr
theorem Bs.below {w wr w' : World} {p : Pt} {y : Hd} (h : Bs w wr p y) (b : Below wr.heap.size wr w') : Bs w w' p y := ⟨h.sp.below b, q_trans h.low b⟩
theorem Bs.put {w wr : World} {p d : Pt} {y u : Hd} (h : Bs w wr p y) (hu : HasQ wr u d.l) : Bs w (put3 wr w.heap.size d u) d u := ⟨hp_put h.sp.pb hu, put3_low h.low (Nat.le_refl _)⟩
set_option maxRecDepth 100000 in
set_option maxHeartbeats 1000000 in
theorem bits_long (K : LiveC) (y : Hd) (w : World) (h : 100 < y.n) :
    Calls Try.prog 6 #[.slice y.o y.n y.c] w fun e w' => e = .returned (.bool true) ∧ Below w.heap.size w w' := by
  have i1 : (y.n : Int) > 100 := by omega
  clear h
  go_enter Try.func6, Try.ntmps6
  go_wp2_with (go_at_call 9; refine (K _).mono ?_; rintro e w2 ⟨rfl, b⟩)
  go_ret
  exact ⟨rfl, b⟩
set_option maxRecDepth 100000 in
set_option maxHeartbeats 20000000 in
theorem bits_in (K : LiveC) (Ao : Option Addr) (N Cap : Nat) (l : List Ac) (w : World) (h : N ≤ 100) (HH : Hid (HasZ w ⟨Ao, N, Cap⟩ l)) :
    Calls Try.prog 6 #[.slice Ao N Cap] w fun e w' => e = .returned (.bool true) ∧ Below w.heap.size w w' := by
  have i0 : ¬ (N : Int) > 100 := by omega
  go_enter Try.func6, Try.ntmps6
  go_upto_region 4 with fail
  have HR : Hid (Bs w (w.alloc (.cells #[.int .i64 0, .int .i64 0, .slice none 0 0] 24)) p0 nilH) := ⟨⟨pb_new w p0 nilH, hasQ_nil _⟩, alloc_below _ _⟩
  generalize w.alloc (.cells #[.int .i64 0, .int .i64 0, .slice none 0 0] 24) = W at HR ⊢
  go_wp2_with fail
  go_loopw [4, 5, 6] (fun s4 s5 s6 wr => ∃ (j : Nat) (st : Pt) (y : Hd) (g t : Int), j ≤ N ∧ s6 = .int .i64 j ∧ s4 = .int .i64 g ∧ s5 = .int .i64 t ∧ Hid (Bs w wr st y) ∧ Hid (Bi st g t)) (fun _ _ i _ => N - (intOf i).toNat)
  case atStart => exact ⟨0, p0, nilH, 0, 0, Nat.zero_le _, rfl, rfl, rfl, HR, bi_start⟩
  case round =>
    clear HR
    obtain ⟨W0, rfl⟩ : ∃ W0, W0 = wr := ⟨_, rfl⟩
    obtain ⟨j, st, y, g, t, hj, rfl, rfl, rfl, HS0, HI⟩ := hrel
    by_cases hlt : j < N
    · have i1 : (0 : Int) ≤ (j : Int) := by omega
      have i2 : (j : Int) < (N : Int) := by omega
      obtain ⟨la, ea, hza⟩ := HH.out.at j hlt
      obtain rfl : Ao = some la := ea
      obtain ⟨a, ha⟩ : ∃ a, l.getD j a0 = a := ⟨_, rfl⟩
      rw [ha] at hza
      obtain ⟨c8, c0, c1, c2, c3, c4, c5, c6, c7, c9⟩ := hza.below HS0.out.low
      clear hza ha
      have hyn : y.n ≤ 4999 := by have h1 := HS0.out.sp.has.len; have h2 := ok_few HI.out.ok; omega
      by_cases hk : a.kind = 2
      · have e1 : (a.kind == 2) = true := by simp [hk]
        have e3 : (a.kind == 3) = false := by simp [hk]
        clear hk
        by_cases hn : a.n > 0
        · skip
          go_upto_region 9 with fail
          have HZ2 := hid (atZ_new W0 a 30)
          have HS2 := hid (HS0.out.below (alloc_below W0 (.cells #[.int .i64 a.kind, .int .i64 a.x.c, .int .i64 a.x.v, .int .i64 a.x.b, .bool a.x.h, .int .i64 a.x.o, .int .i64 a.x.s, .int .i64 a.x.g, .bool a.x.t, .int .i64 a.n] 30)))
          have HBA : Hid (w.heap.size < W0.heap.size) := HS0.out.sp.pb.lt
          clear c8 c0 c1 c2 c3 c4 c5 c6 c7 c9 HS0
          generalize W0.heap.size = ba at HZ2 HBA ⊢
          generalize W0.alloc (.cells #[.int .i64 a.kind, .int .i64 a.x.c, .int .i64 a.x.v, .int .i64 a.x.b, .bool a.x.h, .int .i64 a.x.o, .int .i64 a.x.s, .int .i64 a.x.g, .bool a.x.t, .int .i64 a.n] 30) = W2 at HS2 HZ2 ⊢
          rcases HI.out.kd with hs | hs
          · skip
            have HI2 := hid (HI.out.word hs a.n)
            have f := sg_word (n := a.n) HI.out.ok hs
            have CS := hid (signal_any st y a.n W2 hyn HS2.out.sp.has)
            rw [f.1, f.2.1, f.2.2] at CS
            clear f
            clear hs
            obtain ⟨d, hd⟩ : ∃ d, (⟨st.k, bor st.w a.n, st.l⟩ : Pt) = d := ⟨_, rfl⟩
            obtain ⟨v, hv⟩ : ∃ v, z0 = v := ⟨_, rfl⟩
            rw [hd, hv] at CS
            rw [hd] at HI2
            clear hd hv
            have p0 := HS2.out.sp.pb.c0
            have p1 := HS2.out.sp.pb.c1
            have p2 := HS2.out.sp.pb.c2
            obtain ⟨x8, x0, x1, x2, x3, x4, x5, x6, x7, x9⟩ := HZ2.out
            go_wp2_with fail
            refine CS.out.mono ?_
            rintro e w1 ⟨u, rfl, hu⟩
            have bb := q_trans hu.low (q_alloc (alloc_below w1 (.cells #[.int .i64 d.k, .int .i64 d.w, .slice u.o u.n u.c] 24)) (.cells #[.int .i64 v.c, .int .i64 v.v, .int .i64 v.b, .bool v.h, .int .i64 v.o, .int .i64 v.s, .int .i64 v.g, .bool v.t] 28))
            have X1 := hid (two_pw w1 d u v)
            have HU := hid (((hu.has.below (alloc_below w1 (.cells #[.int .i64 d.k, .int .i64 d.w, .slice u.o u.n u.c] 24))).below (alloc_below _ (.cells #[.int .i64 v.c, .int .i64 v.v, .int .i64 v.b, .bool v.h, .int .i64 v.o, .int .i64 v.s, .int .i64 v.g, .bool v.t] 28))))
            have HS3 := hid (HS2.out.below bb)
            have HZ3 := hid (HZ2.out.below bb)
            have HW2 : Hid (W2.heap.size ≤ w1.heap.size) := hu.low.size
            clear hu bb CS p0 p1 p2 x0 x1 x2 x3 x4 x5 x6 x7 x8 x9
            go_upto_region 11 with fail
            generalize hb1 : w1.heap.size = b1 at X1 HW2 ⊢
            generalize (w1.alloc (.cells #[.int .i64 d.k, .int .i64 d.w, .slice u.o u.n u.c] 24)).alloc (.cells #[.int .i64 v.c, .int .i64 v.v, .int .i64 v.b, .bool v.h, .int .i64 v.o, .int .i64 v.s, .int .i64 v.g, .bool v.t] 28) = W3 at X1 HU HS3 HZ3 ⊢
            have HB1 : Hid (w.heap.size < b1) := Nat.lt_of_lt_of_le HS2.out.sp.pb.lt HW2.out
            clear hb1 w1
            have p0 := HS3.out.sp.pb.c0
            have p1 := HS3.out.sp.pb.c1
            have p2 := HS3.out.sp.pb.c2
            have f0 := HS3.out.sp.pb.fz 0
            have f1 := HS3.out.sp.pb.fz 1
            have f2 := HS3.out.sp.pb.fz 2
            have hb1 := HB1.out
            obtain ⟨x8, x0, x1, x2, x3, x4, x5, x6, x7, x9⟩ := HZ3.out
            have y0 := X1.out.1.c0
            have y1 := X1.out.1.c1
            have y2 := X1.out.1.c2
            obtain ⟨v0, v1, v2, v3, v4, v5, v6, v7⟩ := X1.out.2.at
            go_upto_region 16 with fail
            generalize bits .or .i64 g a.n = G at HI2 ⊢

            go_upto_region 17 with fail
            have HS : Hid (Bs w (((W3.setCell ⟨w.heap.size, 0, none⟩ (.int .i64 d.k)).setCell ⟨w.heap.size, 1, none⟩ (.int .i64 d.w)).setCell ⟨w.heap.size, 2, none⟩ (.slice u.o u.n u.c)) d u) := HS3.out.put HU.out
            have HZ4 : Hid (AtZ (((W3.setCell ⟨w.heap.size, 0, none⟩ (.int .i64 d.k)).setCell ⟨w.heap.size, 1, none⟩ (.int .i64 d.w)).setCell ⟨w.heap.size, 2, none⟩ (.slice u.o u.n u.c)) ⟨ba, 0, none⟩ a) := HZ3.out.kept (kept_put3 W3 w.heap.size d u) (by have := HBA.out; show ¬ ba = w.heap.size; omega)
            clear p0 p1 p2 f0 f1 f2 hb1 x0 x1 x2 x3 x4 x5 x6 x7 x8 x9 y0 y1 y2 v0 v1 v2 v3 v4 v5 v6 v7 HU HS3 HZ3 X1 HS2 HI
            generalize ((W3.setCell ⟨w.heap.size, 0, none⟩ (.int .i64 d.k)).setCell ⟨w.heap.size, 1, none⟩ (.int .i64 d.w)).setCell ⟨w.heap.size, 2, none⟩ (.slice u.o u.n u.c) = W4 at HS HZ4 ⊢
            clear W3
            have x8 := HZ4.out.k
            have HI := HI2
            clear HI2
            go_upto_region 23 with fail
            clear x8 HZ4
            have p0 := HS.out.sp.pb.c0
            have p1 := HS.out.sp.pb.c1
            obtain ⟨n1, n2, n3⟩ := HI.out.fin
            have r1 : ((d.w != 0) && (d.k != 0)) = false := by
              by_cases hw : d.w = 0
              · simp [hw]
              · simp [n3 hw]
            clear n3
            by_cases hw : d.w = 0
            · have r2 : (d.w != 0) = false := by simp [hw]
              clear r1 hw
              have r3 : ((G) != bits .or .i64 (bits .or .i64 (t) d.w) (bits .and .i64 (G) (t))) = false := by rw [n2]; simp
              clear n2
              go_wp2_with fail
              go_roundw
              case rel => exact ⟨j + 1, d, u, G, t, by omega, by go_num, rfl, rfl, HS, HI⟩
              case measure => simp [intOf]; omega
            · have r2 : (d.w != 0) = true := by simp [hw]
              have r4 : (d.k != 0) = false := by simpa [r2] using r1
              clear r1 hw
              have r3 : ((G) != bits .or .i64 (bits .or .i64 (t) d.w) (bits .and .i64 (G) (t))) = false := by rw [n2]; simp
              clear n2
              go_wp2_with fail
              go_roundw
              case rel => exact ⟨j + 1, d, u, G, t, by omega, by go_num, rfl, rfl, HS, HI⟩
              case measure => simp [intOf]; omega
          · skip
            have HI2 := hid (HI.out.meet hs a.n)
            have f := sg_meet (n := a.n) HI.out.ok hs
            have CS := hid (signal_any st y a.n W2 hyn HS2.out.sp.has)
            rw [f.1, f.2.1, f.2.2] at CS
            clear f
            have hw0 : (st.w != 0) = false := by have := HI.out.w0 hs; simp [this]
            clear hs
            obtain ⟨d, hd⟩ : ∃ d, woP st 0 = d := ⟨_, rfl⟩
            obtain ⟨v, hv⟩ : ∃ v, setV (st.l.getD 0 z0) a.n = v := ⟨_, rfl⟩
            rw [hd, hv] at CS
            rw [hd] at HI2
            have hvn : (v.v != a.n) = false := by rw [← hv]; simp [setV]
            clear hd hv
            have p0 := HS2.out.sp.pb.c0
            have p1 := HS2.out.sp.pb.c1
            have p2 := HS2.out.sp.pb.c2
            obtain ⟨x8, x0, x1, x2, x3, x4, x5, x6, x7, x9⟩ := HZ2.out
            go_wp2_with fail
            refine CS.out.mono ?_
            rintro e w1 ⟨u, rfl, hu⟩
            have bb := q_trans hu.low (q_alloc (alloc_below w1 (.cells #[.int .i64 d.k, .int .i64 d.w, .slice u.o u.n u.c] 24)) (.cells #[.int .i64 v.c, .int .i64 v.v, .int .i64 v.b, .bool v.h, .int .i64 v.o, .int .i64 v.s, .int .i64 v.g, .bool v.t] 28))
            have X1 := hid (two_pw w1 d u v)
            have HU := hid (((hu.has.below (alloc_below w1 (.cells #[.int .i64 d.k, .int .i64 d.w, .slice u.o u.n u.c] 24))).below (alloc_below _ (.cells #[.int .i64 v.c, .int .i64 v.v, .int .i64 v.b, .bool v.h, .int .i64 v.o, .int .i64 v.s, .int .i64 v.g, .bool v.t] 28))))
            have HS3 := hid (HS2.out.below bb)
            have HZ3 := hid (HZ2.out.below bb)
            have HW2 : Hid (W2.heap.size ≤ w1.heap.size) := hu.low.size
            clear hu bb CS p0 p1 p2 x0 x1 x2 x3 x4 x5 x6 x7 x8 x9
            go_upto_region 11 with fail
            generalize hb1 : w1.heap.size = b1 at X1 HW2 ⊢
            generalize (w1.alloc (.cells #[.int .i64 d.k, .int .i64 d.w, .slice u.o u.n u.c] 24)).alloc (.cells #[.int .i64 v.c, .int .i64 v.v, .int .i64 v.b, .bool v.h, .int .i64 v.o, .int .i64 v.s, .int .i64 v.g, .bool v.t] 28) = W3 at X1 HU HS3 HZ3 ⊢
            have HB1 : Hid (w.heap.size < b1) := Nat.lt_of_lt_of_le HS2.out.sp.pb.lt HW2.out
            clear hb1 w1
            have p0 := HS3.out.sp.pb.c0
            have p1 := HS3.out.sp.pb.c1
            have p2 := HS3.out.sp.pb.c2
            have f0 := HS3.out.sp.pb.fz 0
            have f1 := HS3.out.sp.pb.fz 1
            have f2 := HS3.out.sp.pb.fz 2
            have hb1 := HB1.out
            obtain ⟨x8, x0, x1, x2, x3, x4, x5, x6, x7, x9⟩ := HZ3.out
            have y0 := X1.out.1.c0
            have y1 := X1.out.1.c1
            have y2 := X1.out.1.c2
            obtain ⟨v0, v1, v2, v3, v4, v5, v6, v7⟩ := X1.out.2.at
            go_upto_region 16 with fail
            generalize bits .or .i64 g a.n = G at HI2 ⊢
            generalize bits .or .i64 t a.n = T at HI2 ⊢
            go_upto_region 17 with fail
            have HS : Hid (Bs w (((W3.setCell ⟨w.heap.size, 0, none⟩ (.int .i64 d.k)).setCell ⟨w.heap.size, 1, none⟩ (.int .i64 d.w)).setCell ⟨w.heap.size, 2, none⟩ (.slice u.o u.n u.c)) d u) := HS3.out.put HU.out
            have HZ4 : Hid (AtZ (((W3.setCell ⟨w.heap.size, 0, none⟩ (.int .i64 d.k)).setCell ⟨w.heap.size, 1, none⟩ (.int .i64 d.w)).setCell ⟨w.heap.size, 2, none⟩ (.slice u.o u.n u.c)) ⟨ba, 0, none⟩ a) := HZ3.out.kept (kept_put3 W3 w.heap.size d u) (by have := HBA.out; show ¬ ba = w.heap.size; omega)
            clear p0 p1 p2 f0 f1 f2 hb1 x0 x1 x2 x3 x4 x5 x6 x7 x8 x9 y0 y1 y2 v0 v1 v2 v3 v4 v5 v6 v7 HU HS3 HZ3 X1 HS2 HI
            generalize ((W3.setCell ⟨w.heap.size, 0, none⟩ (.int .i64 d.k)).setCell ⟨w.heap.size, 1, none⟩ (.int .i64 d.w)).setCell ⟨w.heap.size, 2, none⟩ (.slice u.o u.n u.c) = W4 at HS HZ4 ⊢
            clear W3
            have x8 := HZ4.out.k
            have HI := HI2
            clear HI2
            go_upto_region 23 with fail
            clear x8 HZ4
            have p0 := HS.out.sp.pb.c0
            have p1 := HS.out.sp.pb.c1
            obtain ⟨n1, n2, n3⟩ := HI.out.fin
            have r1 : ((d.w != 0) && (d.k != 0)) = false := by
              by_cases hw : d.w = 0
              · simp [hw]
              · simp [n3 hw]
            clear n3
            by_cases hw : d.w = 0
            · have r2 : (d.w != 0) = false := by simp [hw]
              clear r1 hw
              have r3 : ((G) != bits .or .i64 (bits .or .i64 (T) d.w) (bits .and .i64 (G) (T))) = false := by rw [n2]; simp
              clear n2
              go_wp2_with fail
              go_roundw
              case rel => exact ⟨j + 1, d, u, G, T, by omega, by go_num, rfl, rfl, HS, HI⟩
              case measure => simp [intOf]; omega
            · have r2 : (d.w != 0) = true := by simp [hw]
              have r4 : (d.k != 0) = false := by simpa [r2] using r1
              clear r1 hw
              have r3 : ((G) != bits .or .i64 (bits .or .i64 (T) d.w) (bits .and .i64 (G) (T))) = false := by rw [n2]; simp
              clear n2
              go_wp2_with fail
              go_roundw
              case rel => exact ⟨j + 1, d, u, G, T, by omega, by go_num, rfl, rfl, HS, HI⟩
              case measure => simp [intOf]; omega

        · skip
          have HZ2 := hid (atZ_new W0 a 30)
          have HS2 := hid (HS0.out.below (alloc_below W0 (.cells #[.int .i64 a.kind, .int .i64 a.x.c, .int .i64 a.x.v, .int .i64 a.x.b, .bool a.x.h, .int .i64 a.x.o, .int .i64 a.x.s, .int .i64 a.x.g, .bool a.x.t, .int .i64 a.n] 30)))
          go_upto_region 23 with fail
          clear HZ2 HS0 c8 c0 c1 c2 c3 c4 c5 c6 c7 c9
          generalize W0.alloc (.cells #[.int .i64 a.kind, .int .i64 a.x.c, .int .i64 a.x.v, .int .i64 a.x.b, .bool a.x.h, .int .i64 a.x.o, .int .i64 a.x.s, .int .i64 a.x.g, .bool a.x.t, .int .i64 a.n] 30) = W2 at HS2 ⊢
          have HS := HS2
          clear HS2
          have p0 := HS.out.sp.pb.c0
          have p1 := HS.out.sp.pb.c1
          obtain ⟨n1, n2, n3⟩ := HI.out.fin
          have r1 : ((st.w != 0) && (st.k != 0)) = false := by
            by_cases hw : st.w = 0
            · simp [hw]
            · simp [n3 hw]
          clear n3
          by_cases hw : st.w = 0
          · have r2 : (st.w != 0) = false := by simp [hw]
            clear r1 hw
            have r3 : ((g) != bits .or .i64 (bits .or .i64 (t) st.w) (bits .and .i64 (g) (t))) = false := by rw [n2]; simp
            clear n2
            go_wp2_with fail
            go_roundw
            case rel => exact ⟨j + 1, st, y, g, t, by omega, by go_num, rfl, rfl, HS, HI⟩
            case measure => simp [intOf]; omega
          · have r2 : (st.w != 0) = true := by simp [hw]
            have r4 : (st.k != 0) = false := by simpa [r2] using r1
            clear r1 hw
            have r3 : ((g) != bits .or .i64 (bits .or .i64 (t) st.w) (bits .and .i64 (g) (t))) = false := by rw [n2]; simp
            clear n2
            go_wp2_with fail
            go_roundw
            case rel => exact ⟨j + 1, st, y, g, t, by omega, by go_num, rfl, rfl, HS, HI⟩
            case measure => simp [intOf]; omega

      · have e1 : (a.kind == 2) = false := by simp [hk]
        by_cases hk3 : a.kind = 3
        · have e3 : (a.kind == 3) = true := by simp [hk3]
          clear hk hk3
          go_upto_region 9 with fail
          have HZ2 := hid (atZ_new W0 a 30)
          have HS2 := hid (HS0.out.below (alloc_below W0 (.cells #[.int .i64 a.kind, .int .i64 a.x.c, .int .i64 a.x.v, .int .i64 a.x.b, .bool a.x.h, .int .i64 a.x.o, .int .i64 a.x.s, .int .i64 a.x.g, .bool a.x.t, .int .i64 a.n] 30)))
          have HBA : Hid (w.heap.size < W0.heap.size) := HS0.out.sp.pb.lt
          clear c8 c0 c1 c2 c3 c4 c5 c6 c7 c9 HS0
          generalize W0.heap.size = ba at HZ2 HBA ⊢
          generalize W0.alloc (.cells #[.int .i64 a.kind, .int .i64 a.x.c, .int .i64 a.x.v, .int .i64 a.x.b, .bool a.x.h, .int .i64 a.x.o, .int .i64 a.x.s, .int .i64 a.x.g, .bool a.x.t, .int .i64 a.n] 30) = W2 at HS2 HZ2 ⊢
          have HI2 := hid (HI.out.wait a.x.c)
          have HN : Hid (rfE st a.x.c = 0 → waN st a.x.c = st.w ∧ (waN st a.x.c ≠ 0 → (waP st a.x.c).w = 0)) := wa_num
          have CS := hid (wait_any st y a.x.c W2 hyn HS2.out.sp.has)
          obtain ⟨d, hd⟩ : ∃ d, waP st a.x.c = d := ⟨_, rfl⟩
          obtain ⟨n, hn⟩ : ∃ n, waN st a.x.c = n := ⟨_, rfl⟩
          obtain ⟨er, her⟩ : ∃ er, rfE st a.x.c = er := ⟨_, rfl⟩
          rw [hd, hn, her] at CS
          rw [hd, hn] at HI2
          rw [hd, hn, her] at HN
          clear hd hn her
          have p0 := HS2.out.sp.pb.c0
          have p1 := HS2.out.sp.pb.c1
          have p2 := HS2.out.sp.pb.c2
          obtain ⟨x8, x0, x1, x2, x3, x4, x5, x6, x7, x9⟩ := HZ2.out
          go_wp2_with fail
          refine CS.out.mono ?_
          rintro e w1 ⟨u, rfl, hu⟩
          have bb := q_trans hu.low (alloc_below w1 (.cells #[.int .i64 d.k, .int .i64 d.w, .slice u.o u.n u.c] 24))
          have X1 := hid (pb_new w1 d u)
          have HU := hid (hu.has.below (alloc_below w1 (.cells #[.int .i64 d.k, .int .i64 d.w, .slice u.o u.n u.c] 24)))
          have HS3 := hid (HS2.out.below bb)
          have HZ3 := hid (HZ2.out.below bb)
          have HW2 : Hid (W2.heap.size ≤ w1.heap.size) := hu.low.size
          clear hu bb CS p0 p1 p2 x0 x1 x2 x3 x4 x5 x6 x7 x8 x9
          go_upto_region 19 with fail
          generalize hb1 : w1.heap.size = b1 at X1 HW2 ⊢
          generalize w1.alloc (.cells #[.int .i64 d.k, .int .i64 d.w, .slice u.o u.n u.c] 24) = W3 at X1 HU HS3 HZ3 ⊢
          have HB1 : Hid (w.heap.size < b1) := Nat.lt_of_lt_of_le HS2.out.sp.pb.lt HW2.out
          clear hb1 w1
          have p0 := HS3.out.sp.pb.c0
          have p1 := HS3.out.sp.pb.c1
          have p2 := HS3.out.sp.pb.c2
          have f0 := HS3.out.sp.pb.fz 0
          have f1 := HS3.out.sp.pb.fz 1
          have f2 := HS3.out.sp.pb.fz 2
          have hb1 := HB1.out
          obtain ⟨x8, x0, x1, x2, x3, x4, x5, x6, x7, x9⟩ := HZ3.out
          have y0 := X1.out.c0
          have y1 := X1.out.c1
          have y2 := X1.out.c2
          go_wp2_with fail
          refine (num_any er W3).mono ?_
          rintro e w8 ⟨rfl, e8⟩
          subst e8
          obtain ⟨W3, hW3⟩ : ∃ W, W = w8 := ⟨_, rfl⟩
          subst hW3
          by_cases her : er = 0
          · have q0 : (er == 0) = true := by simp [her]
            have HN2 := hid (HN.out her)
            clear HN her
            have q1 : (n != st.w) = false := by have := HN2.out.1; simp [this]
            by_cases hn : n = 0
            · have q2 : (n != 0) = false := by simp [hn]
              clear hn
              go_upto_region 22 with fail
              generalize bits .or .i64 t n = T at HI2 ⊢
              go_upto_region 23 with fail
              have HS : Hid (Bs w (((W3.setCell ⟨w.heap.size, 0, none⟩ (.int .i64 d.k)).setCell ⟨w.heap.size, 1, none⟩ (.int .i64 d.w)).setCell ⟨w.heap.size, 2, none⟩ (.slice u.o u.n u.c)) d u) := HS3.out.put HU.out
              clear p0 p1 p2 f0 f1 f2 hb1 x0 x1 x2 x3 x4 x5 x6 x7 x8 x9 y0 y1 y2 HU HS3 HZ3 X1 HS2 HI
              generalize ((W3.setCell ⟨w.heap.size, 0, none⟩ (.int .i64 d.k)).setCell ⟨w.heap.size, 1, none⟩ (.int .i64 d.w)).setCell ⟨w.heap.size, 2, none⟩ (.slice u.o u.n u.c) = W4 at HS ⊢
              clear W3
              have HI := HI2
              clear HI2
              have p0 := HS.out.sp.pb.c0
              have p1 := HS.out.sp.pb.c1
              obtain ⟨n1, n2, n3⟩ := HI.out.fin
              have r1 : ((d.w != 0) && (d.k != 0)) = false := by
                by_cases hw : d.w = 0
                · simp [hw]
                · simp [n3 hw]
              clear n3
              by_cases hw : d.w = 0
              · have r2 : (d.w != 0) = false := by simp [hw]
                clear r1 hw
                have r3 : ((g) != bits .or .i64 (bits .or .i64 (T) d.w) (bits .and .i64 (g) (T))) = false := by rw [n2]; simp
                clear n2
                go_wp2_with fail
                go_roundw
                case rel => exact ⟨j + 1, d, u, g, T, by omega, by go_num, rfl, rfl, HS, HI⟩
                case measure => simp [intOf]; omega
              · have r2 : (d.w != 0) = true := by simp [hw]
                have r4 : (d.k != 0) = false := by simpa [r2] using r1
                clear r1 hw
                have r3 : ((g) != bits .or .i64 (bits .or .i64 (T) d.w) (bits .and .i64 (g) (T))) = false := by rw [n2]; simp
                clear n2
                go_wp2_with fail
                go_roundw
                case rel => exact ⟨j + 1, d, u, g, T, by omega, by go_num, rfl, rfl, HS, HI⟩
                case measure => simp [intOf]; omega
            · have q2 : (n != 0) = true := by simp [hn]
              have q3 : (d.w != 0) = false := by have := HN2.out.2 hn; simp [this]
              clear hn
              go_upto_region 22 with fail
              generalize bits .or .i64 t n = T at HI2 ⊢
              go_upto_region 23 with fail
              have HS : Hid (Bs w (((W3.setCell ⟨w.heap.size, 0, none⟩ (.int .i64 d.k)).setCell ⟨w.heap.size, 1, none⟩ (.int .i64 d.w)).setCell ⟨w.heap.size, 2, none⟩ (.slice u.o u.n u.c)) d u) := HS3.out.put HU.out
              clear p0 p1 p2 f0 f1 f2 hb1 x0 x1 x2 x3 x4 x5 x6 x7 x8 x9 y0 y1 y2 HU HS3 HZ3 X1 HS2 HI
              generalize ((W3.setCell ⟨w.heap.size, 0, none⟩ (.int .i64 d.k)).setCell ⟨w.heap.size, 1, none⟩ (.int .i64 d.w)).setCell ⟨w.heap.size, 2, none⟩ (.slice u.o u.n u.c) = W4 at HS ⊢
              clear W3
              have HI := HI2
              clear HI2
              have p0 := HS.out.sp.pb.c0
              have p1 := HS.out.sp.pb.c1
              obtain ⟨n1, n2, n3⟩ := HI.out.fin
              have r1 : ((d.w != 0) && (d.k != 0)) = false := by
                by_cases hw : d.w = 0
                · simp [hw]
                · simp [n3 hw]
              clear n3
              by_cases hw : d.w = 0
              · have r2 : (d.w != 0) = false := by simp [hw]
                clear r1 hw
                have r3 : ((g) != bits .or .i64 (bits .or .i64 (T) d.w) (bits .and .i64 (g) (T))) = false := by rw [n2]; simp
                clear n2
                go_wp2_with fail
                go_roundw
                case rel => exact ⟨j + 1, d, u, g, T, by omega, by go_num, rfl, rfl, HS, HI⟩
                case measure => simp [intOf]; omega
              · have r2 : (d.w != 0) = true := by simp [hw]
                have r4 : (d.k != 0) = false := by simpa [r2] using r1
                clear r1 hw
                have r3 : ((g) != bits .or .i64 (bits .or .i64 (T) d.w) (bits .and .i64 (g) (T))) = false := by rw [n2]; simp
                clear n2
                go_wp2_with fail
                go_roundw
                case rel => exact ⟨j + 1, d, u, g, T, by omega, by go_num, rfl, rfl, HS, HI⟩
                case measure => simp [intOf]; omega
          · have q0 : (er == 0) = false := by simp [her]
            clear HN her
            go_upto_region 22 with fail
            generalize bits .or .i64 t n = T at HI2 ⊢
            go_upto_region 23 with fail
            have HS : Hid (Bs w (((W3.setCell ⟨w.heap.size, 0, none⟩ (.int .i64 d.k)).setCell ⟨w.heap.size, 1, none⟩ (.int .i64 d.w)).setCell ⟨w.heap.size, 2, none⟩ (.slice u.o u.n u.c)) d u) := HS3.out.put HU.out
            clear p0 p1 p2 f0 f1 f2 hb1 x0 x1 x2 x3 x4 x5 x6 x7 x8 x9 y0 y1 y2 HU HS3 HZ3 X1 HS2 HI
            generalize ((W3.setCell ⟨w.heap.size, 0, none⟩ (.int .i64 d.k)).setCell ⟨w.heap.size, 1, none⟩ (.int .i64 d.w)).setCell ⟨w.heap.size, 2, none⟩ (.slice u.o u.n u.c) = W4 at HS ⊢
            clear W3
            have HI := HI2
            clear HI2
            have p0 := HS.out.sp.pb.c0
            have p1 := HS.out.sp.pb.c1
            obtain ⟨n1, n2, n3⟩ := HI.out.fin
            have r1 : ((d.w != 0) && (d.k != 0)) = false := by
              by_cases hw : d.w = 0
              · simp [hw]
              · simp [n3 hw]
            clear n3
            by_cases hw : d.w = 0
            · have r2 : (d.w != 0) = false := by simp [hw]
              clear r1 hw
              have r3 : ((g) != bits .or .i64 (bits .or .i64 (T) d.w) (bits .and .i64 (g) (T))) = false := by rw [n2]; simp
              clear n2
              go_wp2_with fail
              go_roundw
              case rel => exact ⟨j + 1, d, u, g, T, by omega, by go_num, rfl, rfl, HS, HI⟩
              case measure => simp [intOf]; omega
            · have r2 : (d.w != 0) = true := by simp [hw]
              have r4 : (d.k != 0) = false := by simpa [r2] using r1
              clear r1 hw
              have r3 : ((g) != bits .or .i64 (bits .or .i64 (T) d.w) (bits .and .i64 (g) (T))) = false := by rw [n2]; simp
              clear n2
              go_wp2_with fail
              go_roundw
              case rel => exact ⟨j + 1, d, u, g, T, by omega, by go_num, rfl, rfl, HS, HI⟩
              case measure => simp [intOf]; omega

        · have e3 : (a.kind == 3) = false := by simp [hk3]
          clear hk hk3
          have HZ2 := hid (atZ_new W0 a 30)
          have HS2 := hid (HS0.out.below (alloc_below W0 (.cells #[.int .i64 a.kind, .int .i64 a.x.c, .int .i64 a.x.v, .int .i64 a.x.b, .bool a.x.h, .int .i64 a.x.o, .int .i64 a.x.s, .int .i64 a.x.g, .bool a.x.t, .int .i64 a.n] 30)))
          go_upto_region 23 with fail
          clear HZ2 HS0 c8 c0 c1 c2 c3 c4 c5 c6 c7 c9
          generalize W0.alloc (.cells #[.int .i64 a.kind, .int .i64 a.x.c, .int .i64 a.x.v, .int .i64 a.x.b, .bool a.x.h, .int .i64 a.x.o, .int .i64 a.x.s, .int .i64 a.x.g, .bool a.x.t, .int .i64 a.n] 30) = W2 at HS2 ⊢
          have HS := HS2
          clear HS2
          have p0 := HS.out.sp.pb.c0
          have p1 := HS.out.sp.pb.c1
          obtain ⟨n1, n2, n3⟩ := HI.out.fin
          have r1 : ((st.w != 0) && (st.k != 0)) = false := by
            by_cases hw : st.w = 0
            · simp [hw]
            · simp [n3 hw]
          clear n3
          by_cases hw : st.w = 0
          · have r2 : (st.w != 0) = false := by simp [hw]
            clear r1 hw
            have r3 : ((g) != bits .or .i64 (bits .or .i64 (t) st.w) (bits .and .i64 (g) (t))) = false := by rw [n2]; simp
            clear n2
            go_wp2_with fail
            go_roundw
            case rel => exact ⟨j + 1, st, y, g, t, by omega, by go_num, rfl, rfl, HS, HI⟩
            case measure => simp [intOf]; omega
          · have r2 : (st.w != 0) = true := by simp [hw]
            have r4 : (st.k != 0) = false := by simpa [r2] using r1
            clear r1 hw
            have r3 : ((g) != bits .or .i64 (bits .or .i64 (t) st.w) (bits .and .i64 (g) (t))) = false := by rw [n2]; simp
            clear n2
            go_wp2_with fail
            go_roundw
            case rel => exact ⟨j + 1, st, y, g, t, by omega, by go_num, rfl, rfl, HS, HI⟩
            case measure => simp [intOf]; omega

    · have i2 : ¬ (j : Int) < (N : Int) := by omega
      have HB := hid HS0.out.low
      go_wp2_with fail
      refine (K _).mono ?_
      rintro e w2 ⟨rfl, b⟩
      replace HB := hid (q_trans HB.out b)
      clear b
      go_wp2_with fail
      go_ret
      exact ⟨rfl, HB.out⟩
theorem bits_any (K : LiveC) (y : Hd) (l : List Ac) (w : World) (HH : HasZ w y l) :
    Calls Try.prog 6 #[.slice y.o y.n y.c] w fun e w' => e = .returned (.bool true) ∧ Below w.heap.size w w' := by
  by_cases h : 100 < y.n
  · exact bits_long K y w h
  · exact bits_in K y.o y.n y.c l w (by omega) HH
end Go.Proofs.Ytpcdjpcdmnjdfaa.Po
