/- What does does (gendoes18.py). -/
import Derived.Test.YtmnkbkhfonngeaaHiW9
import Derived.Test.YtmnkbkhfonngeaaHiW10
import Derived.Test.YtmnkbkhfonngeaaHiApp
namespace Go.Proofs.Ytmnkbkhfonngeaa.Hi
open Go.RowKit

theorem sa_drew {b : Nat} {x : Hh} {w : World} (h : SA b x w) : SA b x w.drew := h
theorem sa_set {b g j : Nat} {x : Hh} {w : World} (h : SA b x w) (h1 : g ≠ b) (v : Value) : SA b x (w.setCell ⟨g, j, none⟩ v) := by
  refine ⟨?_, ?_⟩
  · rw [World.cell?_setCell_other _ _ _ _ (fun e => h1 (by injection e))]; exact h.1
  · rw [World.cell?_setCell_other _ _ _ _ (fun e => h1 (by injection e))]; exact h.2
set_option maxRecDepth 100000 in
set_option maxHeartbeats 2000000 in
theorem does_any (x : Hh) (h : Hs) (a : Ac) (u : Hd) (w : World) (hs : x.s.n ≤ 5000) (he : x.e.n ≤ 5000) (hu : u.n ≤ 5000) (hd : ShortE h.e) (HH : Hid (HasH w x h)) (HU : Hid (HasD w u a.e.l)) :
    Calls Try.prog 10 #[(.agg #[.slice x.s.o x.s.n x.s.c, .slice x.e.o x.e.n x.e.c]), (.agg #[.int .i64 a.k, .int .i64 a.co, .int .i64 a.now, .int .i64 a.c.k, .int .u64 a.c.a, .int .u64 a.c.b, .int .i64 a.c.r, .int .i64 a.c.g, .int .i64 a.c.t, .int .i64 a.c.s, .int .i64 a.c.v, .int .i64 a.r.e, .int .i64 a.r.v, .int .i64 a.r.b, .bool a.r.t, .int .i64 a.e.k, .int .i64 a.e.co, .int .i64 a.e.c.k, .int .u64 a.e.c.a, .int .u64 a.e.c.b, .int .i64 a.e.c.r, .int .i64 a.e.c.g, .int .i64 a.e.c.t, .int .i64 a.e.c.s, .int .i64 a.e.c.v, .int .i64 a.e.sp, .slice u.o u.n u.c])] w fun e w' => ∃ z : Hh, e = .returned (.tuple #[(.agg #[.slice z.s.o z.s.n z.s.c, .slice z.e.o z.e.n z.e.c]), .int .i64 (doE h a)]) ∧ HasH w' z (doH h a) ∧ Below w.heap.size w w' := by
  have HD := hid hd
  clear hd
  go_enter Try.func10, Try.ntmps10
  go_upto_region 1 with fail
  have HT := hid (bw_new w x (.cells #[.int .i64 a.k, .int .i64 a.co, .int .i64 a.now, .int .i64 a.c.k, .int .u64 a.c.a, .int .u64 a.c.b, .int .i64 a.c.r, .int .i64 a.c.g, .int .i64 a.c.t, .int .i64 a.c.s, .int .i64 a.c.v, .int .i64 a.r.e, .int .i64 a.r.v, .int .i64 a.r.b, .bool a.r.t, .int .i64 a.e.k, .int .i64 a.e.co, .int .i64 a.e.c.k, .int .u64 a.e.c.a, .int .u64 a.e.c.b, .int .i64 a.e.c.r, .int .i64 a.e.c.g, .int .i64 a.e.c.t, .int .i64 a.e.c.s, .int .i64 a.e.c.v, .int .i64 a.e.sp, .slice u.o u.n u.c] 36))
  generalize ((w.alloc (.cells #[.slice x.s.o x.s.n x.s.c, .slice x.e.o x.e.n x.e.c] 25)).alloc (.cells #[.int .i64 a.k, .int .i64 a.co, .int .i64 a.now, .int .i64 a.c.k, .int .u64 a.c.a, .int .u64 a.c.b, .int .i64 a.c.r, .int .i64 a.c.g, .int .i64 a.c.t, .int .i64 a.c.s, .int .i64 a.c.v, .int .i64 a.r.e, .int .i64 a.r.v, .int .i64 a.r.b, .bool a.r.t, .int .i64 a.e.k, .int .i64 a.e.co, .int .i64 a.e.c.k, .int .u64 a.e.c.a, .int .u64 a.e.c.b, .int .i64 a.e.c.r, .int .i64 a.e.c.g, .int .i64 a.e.c.t, .int .i64 a.e.c.s, .int .i64 a.e.c.v, .int .i64 a.e.sp, .slice u.o u.n u.c] 36)).alloc (.cells #[.slice none 0 0, .slice none 0 0] 25) = W at HT ⊢
  have c0 := HT.out.a.c0
  have c1 := HT.out.a.c1
  have HM : Hid (Zb W (w.heap.size + 1) (a, u)) := ⟨HT.out.m⟩
  obtain ⟨d0, d1, d2, d3, d4, d5, d6, d7, d8, d9, d10, d11, d12, d13, d14, d15, d16, d17, d18, d19, d20, d21, d22, d23, d24, d25, d26⟩ := HM.out.at
  dsimp only at d0 d1 d2 d3 d4 d5 d6 d7 d8 d9 d10 d11 d12 d13 d14 d15 d16 d17 d18 d19 d20 d21 d22 d23 d24 d25 d26
  have HW := hid HT.out.low
  by_cases h0 : a.k = 0
  · have q0 : (a.k == 0) = true := by simp [h0]
    have HE : Hid (doE h a = invE h a.co a.now ∧ doH h a = invH h a.co a.c a.now) := by simp [Hid, doE, doH, h0]
    clear h0
    have HC : Hid (Calls Try.prog 20 #[(.agg #[.slice x.s.o x.s.n x.s.c, .slice x.e.o x.e.n x.e.c]), .int .i64 a.co, (.agg #[.int .i64 a.c.k, .int .u64 a.c.a, .int .u64 a.c.b, .int .i64 a.c.r, .int .i64 a.c.g, .int .i64 a.c.t, .int .i64 a.c.s, .int .i64 a.c.v]), .int .i64 a.now] W fun e w' => ∃ z : Hh, e = .returned (.tuple #[(.agg #[.slice z.s.o z.s.n z.s.c, .slice z.e.o z.e.n z.e.c]), .int .i64 (doE h a)]) ∧ HasH w' z (doH h a) ∧ Below W.heap.size W w') := by
      have g := invoke_any x h a.co a.c a.now W hs he HD.out (HH.out.below HW.out)
      rw [HE.out.1, HE.out.2]
      exact g
    clear HE
    obtain ⟨E, hE⟩ : ∃ E, E = doE h a := ⟨_, rfl⟩
    obtain ⟨H, hH⟩ : ∃ H, H = doH h a := ⟨_, rfl⟩
    rw [← hE, ← hH] at HC
    have HEE := hid hE
    have HHH := hid hH
    clear hE hH
    go_upto_region 4 with (go_at_call 20; refine HC.out.mono ?_; rintro e w3 ⟨⟨⟨zo, zn, zc⟩, ⟨eo, en, ec⟩⟩, rfl, hz, b3⟩)
    have HZ := hid (hz.below (alloc_below w3 (.cells #[.slice zo zn zc, .slice eo en ec] 25)))
    have HB : Hid (Hb (w3.alloc (.cells #[.slice zo zn zc, .slice eo en ec] 25)) w3.heap.size ⟨⟨zo, zn, zc⟩, ⟨eo, en, ec⟩⟩) := hb_new w3 ⟨⟨zo, zn, zc⟩, ⟨eo, en, ec⟩⟩
    have HR := hid ((HT.out.r.below b3).below (alloc_below w3 (.cells #[.slice zo zn zc, .slice eo en ec] 25)))
    have HL := hid (q_alloc (q_trans HT.out.low b3) (.cells #[.slice zo zn zc, .slice eo en ec] 25))
    have hne : w.heap.size + 2 ≠ w3.heap.size := by have h1 := HT.out.r.lt; have h2 := b3.size; omega
    generalize w3.alloc (.cells #[.slice zo zn zc, .slice eo en ec] 25) = V at HZ HB HR HL ⊢
    generalize w3.heap.size = ob at HB hne ⊢
    clear c0 c1 d0 d1 d2 d3 d4 d5 d6 d7 d8 d9 d10 d11 d12 d13 d14 d15 d16 d17 d18 d19 d20 d21 d22 d23 d24 d25 d26 HC hz b3 HM
    have k0 : V.cell? ⟨ob, 0, none⟩ = some (.slice zo zn zc) := HB.out.c0
    have k1 : V.cell? ⟨ob, 1, none⟩ = some (.slice eo en ec) := HB.out.c1
    have r0 : V.cell? ⟨w.heap.size + 2, 0, none⟩ = some (.slice none 0 0) := HR.out.c0
    have r1 : V.cell? ⟨w.heap.size + 2, 1, none⟩ = some (.slice none 0 0) := HR.out.c1
    have f0 := HR.out.fz 0
    have f1 := HR.out.fz 1
    have hS : SA ob ⟨⟨zo, zn, zc⟩, ⟨eo, en, ec⟩⟩ V := ⟨k0, k1⟩
    go_region_held3 (SA ob ⟨⟨zo, zn, zc⟩, ⟨eo, en, ec⟩⟩) (repeat' (first | with_reducible exact hS | with_reducible refine sa_drew ?_ | with_reducible refine sa_set ?_ hne _)) (first | (go_at_call 15; refine (num_any _ _).mono ?_; rintro e w8 ⟨rfl, hw⟩; rw [hw]; clear hw w8) | fail)
    all_goals
      go_wp2_with fail
      refine bodyPost_ret (v := .tuple #[.agg #[.slice zo zn zc, .slice eo en ec], .int .i64 E]) (by simp [results, Try.results10, go_sem, *]) rfl ⟨⟨⟨zo, zn, zc⟩, ⟨eo, en, ec⟩⟩, ret_2 (z := ⟨⟨zo, zn, zc⟩, ⟨eo, en, ec⟩⟩) HEE.out, ?_, ?_⟩
      · rw [← HHH.out]
        first
          | with_reducible exact HZ.out.put (x' := ⟨⟨zo, zn, zc⟩, ⟨eo, en, ec⟩⟩) HR.out
          | with_reducible exact (HZ.out.put (x' := ⟨⟨zo, zn, zc⟩, ⟨eo, en, ec⟩⟩) HR.out).below (Below.refl _ _).drew
          | with_reducible exact (HZ.out.below (Below.refl _ _).drew).put (x' := ⟨⟨zo, zn, zc⟩, ⟨eo, en, ec⟩⟩) (HR.out.below (Below.refl _ _).drew)
      · first
          | with_reducible exact put2_low (b := w.heap.size + 2) (x := ⟨⟨zo, zn, zc⟩, ⟨eo, en, ec⟩⟩) HL.out (Nat.le_add_right _ 2)
          | with_reducible exact (put2_low (b := w.heap.size + 2) (x := ⟨⟨zo, zn, zc⟩, ⟨eo, en, ec⟩⟩) HL.out (Nat.le_add_right _ 2)).drew
          | with_reducible exact put2_low (b := w.heap.size + 2) (x := ⟨⟨zo, zn, zc⟩, ⟨eo, en, ec⟩⟩) HL.out.drew (Nat.le_add_right _ 2)
  · have q0 : (a.k == 0) = false := by simp [h0]
    by_cases h1 : a.k = 1
    · have q1 : (a.k == 1) = true := by simp [h1]
      have HE : Hid (doE h a = ansE h a.co a.now ∧ doH h a = ansH h a.co a.r a.now) := by simp [Hid, doE, doH, h1]
      clear h0 h1
      have HC : Hid (Calls Try.prog 21 #[(.agg #[.slice x.s.o x.s.n x.s.c, .slice x.e.o x.e.n x.e.c]), .int .i64 a.co, (.agg #[.int .i64 a.r.e, .int .i64 a.r.v, .int .i64 a.r.b, .bool a.r.t]), .int .i64 a.now] W fun e w' => ∃ z : Hh, e = .returned (.tuple #[(.agg #[.slice z.s.o z.s.n z.s.c, .slice z.e.o z.e.n z.e.c]), .int .i64 (doE h a)]) ∧ HasH w' z (doH h a) ∧ Below W.heap.size W w') := by
        have g := answer_any x h a.co a.r a.now W hs he HD.out (HH.out.below HW.out)
        rw [HE.out.1, HE.out.2]
        exact g
      clear HE
      obtain ⟨E, hE⟩ : ∃ E, E = doE h a := ⟨_, rfl⟩
      obtain ⟨H, hH⟩ : ∃ H, H = doH h a := ⟨_, rfl⟩
      rw [← hE, ← hH] at HC
      have HEE := hid hE
      have HHH := hid hH
      clear hE hH
      go_upto_region 7 with (go_at_call 21; refine HC.out.mono ?_; rintro e w3 ⟨⟨⟨zo, zn, zc⟩, ⟨eo, en, ec⟩⟩, rfl, hz, b3⟩)
      have HZ := hid (hz.below (alloc_below w3 (.cells #[.slice zo zn zc, .slice eo en ec] 25)))
      have HB : Hid (Hb (w3.alloc (.cells #[.slice zo zn zc, .slice eo en ec] 25)) w3.heap.size ⟨⟨zo, zn, zc⟩, ⟨eo, en, ec⟩⟩) := hb_new w3 ⟨⟨zo, zn, zc⟩, ⟨eo, en, ec⟩⟩
      have HR := hid ((HT.out.r.below b3).below (alloc_below w3 (.cells #[.slice zo zn zc, .slice eo en ec] 25)))
      have HL := hid (q_alloc (q_trans HT.out.low b3) (.cells #[.slice zo zn zc, .slice eo en ec] 25))
      have hne : w.heap.size + 2 ≠ w3.heap.size := by have h1 := HT.out.r.lt; have h2 := b3.size; omega
      generalize w3.alloc (.cells #[.slice zo zn zc, .slice eo en ec] 25) = V at HZ HB HR HL ⊢
      generalize w3.heap.size = ob at HB hne ⊢
      clear c0 c1 d0 d1 d2 d3 d4 d5 d6 d7 d8 d9 d10 d11 d12 d13 d14 d15 d16 d17 d18 d19 d20 d21 d22 d23 d24 d25 d26 HC hz b3 HM
      have k0 : V.cell? ⟨ob, 0, none⟩ = some (.slice zo zn zc) := HB.out.c0
      have k1 : V.cell? ⟨ob, 1, none⟩ = some (.slice eo en ec) := HB.out.c1
      have r0 : V.cell? ⟨w.heap.size + 2, 0, none⟩ = some (.slice none 0 0) := HR.out.c0
      have r1 : V.cell? ⟨w.heap.size + 2, 1, none⟩ = some (.slice none 0 0) := HR.out.c1
      have f0 := HR.out.fz 0
      have f1 := HR.out.fz 1
      have hS : SA ob ⟨⟨zo, zn, zc⟩, ⟨eo, en, ec⟩⟩ V := ⟨k0, k1⟩
      go_region_held3 (SA ob ⟨⟨zo, zn, zc⟩, ⟨eo, en, ec⟩⟩) (repeat' (first | with_reducible exact hS | with_reducible refine sa_drew ?_ | with_reducible refine sa_set ?_ hne _)) (first | (go_at_call 15; refine (num_any _ _).mono ?_; rintro e w8 ⟨rfl, hw⟩; rw [hw]; clear hw w8) | fail)
      all_goals
        go_wp2_with fail
        refine bodyPost_ret (v := .tuple #[.agg #[.slice zo zn zc, .slice eo en ec], .int .i64 E]) (by simp [results, Try.results10, go_sem, *]) rfl ⟨⟨⟨zo, zn, zc⟩, ⟨eo, en, ec⟩⟩, ret_2 (z := ⟨⟨zo, zn, zc⟩, ⟨eo, en, ec⟩⟩) HEE.out, ?_, ?_⟩
        · rw [← HHH.out]
          first
            | with_reducible exact HZ.out.put (x' := ⟨⟨zo, zn, zc⟩, ⟨eo, en, ec⟩⟩) HR.out
            | with_reducible exact (HZ.out.put (x' := ⟨⟨zo, zn, zc⟩, ⟨eo, en, ec⟩⟩) HR.out).below (Below.refl _ _).drew
            | with_reducible exact (HZ.out.below (Below.refl _ _).drew).put (x' := ⟨⟨zo, zn, zc⟩, ⟨eo, en, ec⟩⟩) (HR.out.below (Below.refl _ _).drew)
        · first
            | with_reducible exact put2_low (b := w.heap.size + 2) (x := ⟨⟨zo, zn, zc⟩, ⟨eo, en, ec⟩⟩) HL.out (Nat.le_add_right _ 2)
            | with_reducible exact (put2_low (b := w.heap.size + 2) (x := ⟨⟨zo, zn, zc⟩, ⟨eo, en, ec⟩⟩) HL.out (Nat.le_add_right _ 2)).drew
            | with_reducible exact put2_low (b := w.heap.size + 2) (x := ⟨⟨zo, zn, zc⟩, ⟨eo, en, ec⟩⟩) HL.out.drew (Nat.le_add_right _ 2)
    · have q1 : (a.k == 1) = false := by simp [h1]
      have HE : Hid (doE h a = notE h a.e ∧ doH h a = notH h a.e) := by simp [Hid, doE, doH, h0, h1]
      clear h0 h1
      have HC : Hid (Calls Try.prog 22 #[(.agg #[.slice x.s.o x.s.n x.s.c, .slice x.e.o x.e.n x.e.c]), (.agg #[.int .i64 a.e.k, .int .i64 a.e.co, .int .i64 a.e.c.k, .int .u64 a.e.c.a, .int .u64 a.e.c.b, .int .i64 a.e.c.r, .int .i64 a.e.c.g, .int .i64 a.e.c.t, .int .i64 a.e.c.s, .int .i64 a.e.c.v, .int .i64 a.e.sp, .slice u.o u.n u.c])] W fun e w' => ∃ z : Hh, e = .returned (.tuple #[(.agg #[.slice z.s.o z.s.n z.s.c, .slice z.e.o z.e.n z.e.c]), .int .i64 (doE h a)]) ∧ HasH w' z (doH h a) ∧ Below W.heap.size W w') := by
        have g := note_any x h a.e u W hs he hu HD.out (HH.out.below HW.out) (HU.out.below HW.out)
        rw [HE.out.1, HE.out.2]
        exact g
      clear HE
      obtain ⟨E, hE⟩ : ∃ E, E = doE h a := ⟨_, rfl⟩
      obtain ⟨H, hH⟩ : ∃ H, H = doH h a := ⟨_, rfl⟩
      rw [← hE, ← hH] at HC
      have HEE := hid hE
      have HHH := hid hH
      clear hE hH
      go_upto_region 9 with (go_at_call 22; refine HC.out.mono ?_; rintro e w3 ⟨⟨⟨zo, zn, zc⟩, ⟨eo, en, ec⟩⟩, rfl, hz, b3⟩)
      have HZ := hid (hz.below (alloc_below w3 (.cells #[.slice zo zn zc, .slice eo en ec] 25)))
      have HB : Hid (Hb (w3.alloc (.cells #[.slice zo zn zc, .slice eo en ec] 25)) w3.heap.size ⟨⟨zo, zn, zc⟩, ⟨eo, en, ec⟩⟩) := hb_new w3 ⟨⟨zo, zn, zc⟩, ⟨eo, en, ec⟩⟩
      have HR := hid ((HT.out.r.below b3).below (alloc_below w3 (.cells #[.slice zo zn zc, .slice eo en ec] 25)))
      have HL := hid (q_alloc (q_trans HT.out.low b3) (.cells #[.slice zo zn zc, .slice eo en ec] 25))
      have hne : w.heap.size + 2 ≠ w3.heap.size := by have h1 := HT.out.r.lt; have h2 := b3.size; omega
      generalize w3.alloc (.cells #[.slice zo zn zc, .slice eo en ec] 25) = V at HZ HB HR HL ⊢
      generalize w3.heap.size = ob at HB hne ⊢
      clear c0 c1 d0 d1 d2 d3 d4 d5 d6 d7 d8 d9 d10 d11 d12 d13 d14 d15 d16 d17 d18 d19 d20 d21 d22 d23 d24 d25 d26 HC hz b3 HM
      have k0 : V.cell? ⟨ob, 0, none⟩ = some (.slice zo zn zc) := HB.out.c0
      have k1 : V.cell? ⟨ob, 1, none⟩ = some (.slice eo en ec) := HB.out.c1
      have r0 : V.cell? ⟨w.heap.size + 2, 0, none⟩ = some (.slice none 0 0) := HR.out.c0
      have r1 : V.cell? ⟨w.heap.size + 2, 1, none⟩ = some (.slice none 0 0) := HR.out.c1
      have f0 := HR.out.fz 0
      have f1 := HR.out.fz 1
      have hS : SA ob ⟨⟨zo, zn, zc⟩, ⟨eo, en, ec⟩⟩ V := ⟨k0, k1⟩
      go_region_held3 (SA ob ⟨⟨zo, zn, zc⟩, ⟨eo, en, ec⟩⟩) (repeat' (first | with_reducible exact hS | with_reducible refine sa_drew ?_ | with_reducible refine sa_set ?_ hne _)) (first | (go_at_call 15; refine (num_any _ _).mono ?_; rintro e w8 ⟨rfl, hw⟩; rw [hw]; clear hw w8) | fail)
      all_goals
        go_wp2_with fail
        refine bodyPost_ret (v := .tuple #[.agg #[.slice zo zn zc, .slice eo en ec], .int .i64 E]) (by simp [results, Try.results10, go_sem, *]) rfl ⟨⟨⟨zo, zn, zc⟩, ⟨eo, en, ec⟩⟩, ret_2 (z := ⟨⟨zo, zn, zc⟩, ⟨eo, en, ec⟩⟩) HEE.out, ?_, ?_⟩
        · rw [← HHH.out]
          first
            | with_reducible exact HZ.out.put (x' := ⟨⟨zo, zn, zc⟩, ⟨eo, en, ec⟩⟩) HR.out
            | with_reducible exact (HZ.out.put (x' := ⟨⟨zo, zn, zc⟩, ⟨eo, en, ec⟩⟩) HR.out).below (Below.refl _ _).drew
            | with_reducible exact (HZ.out.below (Below.refl _ _).drew).put (x' := ⟨⟨zo, zn, zc⟩, ⟨eo, en, ec⟩⟩) (HR.out.below (Below.refl _ _).drew)
        · first
            | with_reducible exact put2_low (b := w.heap.size + 2) (x := ⟨⟨zo, zn, zc⟩, ⟨eo, en, ec⟩⟩) HL.out (Nat.le_add_right _ 2)
            | with_reducible exact (put2_low (b := w.heap.size + 2) (x := ⟨⟨zo, zn, zc⟩, ⟨eo, en, ec⟩⟩) HL.out (Nat.le_add_right _ 2)).drew
            | with_reducible exact put2_low (b := w.heap.size + 2) (x := ⟨⟨zo, zn, zc⟩, ⟨eo, en, ec⟩⟩) HL.out.drew (Nat.le_add_right _ 2)
end Go.Proofs.Ytmnkbkhfonngeaa.Hi
