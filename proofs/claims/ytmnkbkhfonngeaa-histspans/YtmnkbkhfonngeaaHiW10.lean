/- What Note does. -/
import Derived.Test.YtmnkbkhfonngeaaHiW8
namespace Go.Proofs.Ytmnkbkhfonngeaa.Hi
open Go.RowKit

theorem not_180 {h : Hs} {e : Ev} (g : okH h = false) : notE h e = 180 := by simp [notE, g]
theorem not_s {h : Hs} {e : Ev} (g : okH h = true) : notE h e = if flB e (lp h.e h.e.length) then 0 else 2 := by rw [notE, if_neg (by rw [g]; decide)]
/-- The events have grown. -/
theorem OwnH.growE {w w1 : World} {B B1 B2 B9 c : Nat} {z : Hh} {h : Hs} {xs : List (Ev × Hd)} {ao : Option Addr} {e : Ev} {u : Hd} (g : OwnH w B B1 B2 z h xs) (h1 : w1.ownsRow B1 34 12 (.slice ao (z.e.n + 1) c) (z.e.n + 1) (xs.flatMap evC ++ List.flatMap evC [(e, u)])) (hg : w.grownBy w1 (Value.ownBlock (.slice z.e.o z.e.n z.e.c))) (hu : MineD w B9 u e.l) (h9 : B2 ≤ B9) : HasH w1 ⟨z.s, ⟨ao, z.e.n + 1, c⟩⟩ ⟨h.s, h.e ++ [e]⟩ := by
  have hk := kept_grown hg
  have hblk : ∀ k, some k = (Value.slice z.e.o z.e.n z.e.c).ownBlock → B1 ≤ k ∧ k < B2 := by
    intro k hk
    cases hs : z.e.o with
    | none => rw [hs] at hk; cases hk
    | some a =>
      rw [hs] at hk
      have hk : k = a.block := by
        have := hk
        simp only [Value.ownBlock] at this
        first
          | (injection this)
          | (split at this <;> simp_all)
      rw [hk]
      exact ⟨(g.x.blk hs).1, g.xl a hs⟩
  have hm : MineX w1 B1 ⟨ao, z.e.n + 1, c⟩ (xs ++ [(e, u)]) := by
    refine ⟨by rw [List.length_append, List.length_singleton]; exact congrArg (· + 1) g.x.1, ?_⟩
    rw [List.flatMap_append]
    exact h1
  refine ⟨g.s.has.kept hk (fun h0 a e s => ?_), xs ++ [(e, u)], by rw [List.map_append, g.m]; rfl, hm.has, fun y hy => ?_⟩
  · have := hblk _ s
    have := g.sl a e
    omega
  · rcases List.mem_append.1 hy with hy | hy
    · refine (g.d y hy).1.kept hk ?_
      intro h0 a e s
      have := hblk _ s
      exact (g.d y hy).2 h0 a e ⟨Nat.le_trans g.b this.1, this.2⟩
    · obtain rfl : y = (e, u) := by simpa using hy
      refine hu.has.kept hk ?_
      intro h0 a e s
      have := hblk _ s
      have := (hu.blk e).1
      omega
/-- No list of replies lies in an event's box. -/
theorem Eb.offD {w : World} {b : Nat} {x : Ev × Hd} {ao : Option Addr} {l : List Dn} (g : Eb w b x) (r : Row w ao (l.flatMap dnC)) : Off (fun i => i = b) ao (l.flatMap dnC) := fun h0 a e s => by
  have s : a.block = b := s
  cases l with
  | nil => simp at h0
  | cons z r' =>
    obtain ⟨a', e', hc⟩ := r.cell 4 (.bool z.r.t) (by simp [dnC])
    rw [e] at e'
    cases e'
    obtain ⟨blk, off, t⟩ := a
    have s : blk = b := s
    subst s
    have hA : ((⟨blk, off, t⟩ : Addr).add 4) = ⟨blk, off + 4, none⟩ := by simp [Addr.add]
    rw [hA] at hc
    unfold World.cell? at hc
    simp only [g.h] at hc
    match off, hc with
    | 0, hc => simp at hc
    | 1, hc => simp at hc
    | 2, hc => simp at hc
    | 3, hc => simp at hc
    | 4, hc => simp at hc
    | 5, hc => simp at hc
    | 6, hc => simp at hc
    | 7, hc => simp at hc
    | n + 8, hc => simp at hc
/-- The middle box is written. -/
theorem Bo.setM {w W : World} {x : Hh} {ob B9 : Nat} {z : Hh} {h : Hs} {B B1 B2 : Nat} {xs : List (Ev × Hd)} {ev : Ev} {u u9 : Hd} {M : Obj} (q : Bo w W x M ob z h B B1 B2 xs) (hm : Eb W (w.heap.size + 1) (ev, u)) (hu : MineD W B9 u9 ev.l) (h9 : w.heap.size + 1 < B9) : Bo w (W.setCell ⟨w.heap.size + 1, 11, none⟩ (.slice u9.o u9.n u9.c)) x (.cells #[.int .i64 ev.k, .int .i64 ev.co, .int .i64 ev.c.k, .int .u64 ev.c.a, .int .u64 ev.c.b, .int .i64 ev.c.r, .int .i64 ev.c.g, .int .i64 ev.c.t, .int .i64 ev.c.s, .int .i64 ev.c.v, .int .i64 ev.sp, .slice u9.o u9.n u9.c] 34) ob z h B B1 B2 xs ∧ MineD (W.setCell ⟨w.heap.size + 1, 11, none⟩ (.slice u9.o u9.n u9.c)) B9 u9 ev.l := by
  have hk : Kept (fun i => i = w.heap.size + 1) W (W.setCell ⟨w.heap.size + 1, 11, none⟩ (.slice u9.o u9.n u9.c)) := kept_set _ _ _ _ rfl
  have hB := q.hB
  have h1 := q.own.b
  refine ⟨⟨⟨q.bw.a.kept hk (by omega), by simp [World.setCell, Array.getElem?_modify, hm.h], q.bw.r.kept hk (by omega), q_set q.bw.low (by show w.heap.size ≤ w.heap.size + 1; omega) _⟩, q.o.kept hk (by have := q.ho; omega), ⟨q.own.m, q.own.b, q.own.b2, Nat.le_trans q.own.b3 hk.size, q.own.s.kept hk (by omega), q.own.sl, q.own.x.kept hk (by omega), q.own.xl, fun y hy => ⟨(q.own.d y hy).1.kept hk ?_, (q.own.d y hy).2⟩⟩, q.hB, q.ho⟩, hu.kept hk (by omega)⟩
  exact hm.offD (q.own.d y hy).1.row
set_option maxRecDepth 100000 in
set_option maxHeartbeats 2000000 in
/-- Note: AN EVENT IS RECORDED. -/
theorem note_any (x : Hh) (h : Hs) (ev : Ev) (u : Hd) (w : World) (hs : x.s.n ≤ 5000) (he : x.e.n ≤ 5000) (hu : u.n ≤ 5000) (hd : ShortE h.e) (HH : Hid (HasH w x h)) (HU : Hid (HasD w u ev.l)) :
    Calls Try.prog 22 #[(.agg #[.slice x.s.o x.s.n x.s.c, .slice x.e.o x.e.n x.e.c]), (.agg #[.int .i64 ev.k, .int .i64 ev.co, .int .i64 ev.c.k, .int .u64 ev.c.a, .int .u64 ev.c.b, .int .i64 ev.c.r, .int .i64 ev.c.g, .int .i64 ev.c.t, .int .i64 ev.c.s, .int .i64 ev.c.v, .int .i64 ev.sp, .slice u.o u.n u.c])] w fun e w' => ∃ z : Hh, e = .returned (.tuple #[(.agg #[.slice z.s.o z.s.n z.s.c, .slice z.e.o z.e.n z.e.c]), .int .i64 (notE h ev)]) ∧ HasH w' z (notH h ev) ∧ Below w.heap.size w w' := by
  have HD := hid hd
  clear hd
  go_enter Try.func22, Try.ntmps22
  go_upto_region 1 with fail
  have HT := hid (bw_new w x (.cells #[.int .i64 ev.k, .int .i64 ev.co, .int .i64 ev.c.k, .int .u64 ev.c.a, .int .u64 ev.c.b, .int .i64 ev.c.r, .int .i64 ev.c.g, .int .i64 ev.c.t, .int .i64 ev.c.s, .int .i64 ev.c.v, .int .i64 ev.sp, .slice u.o u.n u.c] 34))
  generalize ((w.alloc (.cells #[.slice x.s.o x.s.n x.s.c, .slice x.e.o x.e.n x.e.c] 25)).alloc (.cells #[.int .i64 ev.k, .int .i64 ev.co, .int .i64 ev.c.k, .int .u64 ev.c.a, .int .u64 ev.c.b, .int .i64 ev.c.r, .int .i64 ev.c.g, .int .i64 ev.c.t, .int .i64 ev.c.s, .int .i64 ev.c.v, .int .i64 ev.sp, .slice u.o u.n u.c] 34)).alloc (.cells #[.slice none 0 0, .slice none 0 0] 25) = W at HT ⊢
  have c0 := HT.out.a.c0
  have c1 := HT.out.a.c1
  have HA := hid (apart_any x h W hs he HD.out (HH.out.below HT.out.low))
  go_upto_region 2 with (go_at_call 36; refine HA.out.mono ?_; rintro e w1 ⟨⟨⟨zo, zn, zc⟩, ⟨eo, en, ec⟩⟩, B, B1, B2, xs, rfl, o1, hb1, b1⟩)
  have HO : Hid (Bo w (w1.alloc (.cells #[.slice zo zn zc, .slice eo en ec] 25)) x (.cells #[.int .i64 ev.k, .int .i64 ev.co, .int .i64 ev.c.k, .int .u64 ev.c.a, .int .u64 ev.c.b, .int .i64 ev.c.r, .int .i64 ev.c.g, .int .i64 ev.c.t, .int .i64 ev.c.s, .int .i64 ev.c.v, .int .i64 ev.sp, .slice u.o u.n u.c] 34) w1.heap.size ⟨⟨zo, zn, zc⟩, ⟨eo, en, ec⟩⟩ h B B1 B2 xs) := bo_new HT.out o1 hb1 b1
  generalize hV : w1.alloc (.cells #[.slice zo zn zc, .slice eo en ec] 25) = V at HO ⊢
  generalize w1.heap.size = ob at HO ⊢
  clear hV HA c0 c1 HT o1 b1 hb1
  have c0 := HO.out.bw.a.c0
  have c1 := HO.out.bw.a.c1
  have HK := hid (check_any x h V hs he (HH.out.below HO.out.bw.low))
  cases hk : okH h with
  | false =>
    rw [ck_180 hk] at HK
    have HE := hid (not_180 (e := ev) hk)
    have HN : Hid (notH h ev = h) := notH_no (by rw [HE.out]; decide)
    clear hk
    go_upto_region 3 with (go_at_call 16; refine HK.out.mono ?_; rintro e w2 ⟨rfl, b2⟩)
    replace HO := hid (HO.out.below b2)
    clear b2 c0 c1 HK
    have c0 : w2.cell? ⟨ob, 0, none⟩ = some (.slice zo zn zc) := HO.out.o.c0
    have c1 : w2.cell? ⟨ob, 1, none⟩ = some (.slice eo en ec) := HO.out.o.c1
    have r0 : w2.cell? ⟨w.heap.size + 2, 0, none⟩ = some (.slice none 0 0) := HO.out.bw.r.c0
    have r1 : w2.cell? ⟨w.heap.size + 2, 1, none⟩ = some (.slice none 0 0) := HO.out.bw.r.c1
    have f0 := HO.out.bw.r.fz 0
    have f1 := HO.out.bw.r.fz 1
    go_wp2_with fail
    refine bodyPost_ret (v := .tuple #[.agg #[.slice zo zn zc, .slice eo en ec], .int .i64 180]) (by simp [results, Try.results22, go_sem, *]) rfl ⟨⟨⟨zo, zn, zc⟩, ⟨eo, en, ec⟩⟩, ret_2 (z := ⟨⟨zo, zn, zc⟩, ⟨eo, en, ec⟩⟩) HE.out.symm, ?_, HO.out.fin.2⟩
    rw [HN.out]
    exact HO.out.fin.1
  | true =>
    rw [ck_0 hk] at HK
    have HE := hid (not_s (e := ev) hk)
    clear hk
    go_upto_region 4 with (go_at_call 16; refine HK.out.mono ?_; rintro e w2 ⟨rfl, b2⟩)
    replace HO := hid (HO.out.below b2)
    clear b2 c0 c1 HK
    have c1 : ∀ g : Later w2, g.now.cell? ⟨w.heap.size, 1, none⟩ = some (.slice x.e.o x.e.n x.e.c) := fun g => g.cell HO.out.bw.a.c1
    have HM : Hid (Eb w2 (w.heap.size + 1) (ev, u)) := ⟨HO.out.bw.m⟩
    obtain ⟨m0, m1, m2, m3, m4, m5, m6, m7, m8, m9, m10, m11⟩ := HM.out.at.always
    dsimp only at m0 m1 m2 m3 m4 m5 m6 m7 m8 m9 m10 m11
    have HLs : Hid (∀ g : Later w2, Calls Try.prog 39 #[.slice x.e.o x.e.n x.e.c] g.now fun e w' => e = .returned (.int .i64 (lp h.e h.e.length)) ∧ Below g.now.heap.size g.now w') := fun g => (lastStamp_any x.e h.e g.now he (HH.out.e.below (q_trans HO.out.bw.low g.low))).mono fun _ _ ⟨a, b⟩ => ⟨a, b ▸ Below.refl _ _⟩
    have HF : Hid (∀ V, Calls Try.prog 38 #[(.agg #[.int .i64 ev.k, .int .i64 ev.co, .int .i64 ev.c.k, .int .u64 ev.c.a, .int .u64 ev.c.b, .int .i64 ev.c.r, .int .i64 ev.c.g, .int .i64 ev.c.t, .int .i64 ev.c.s, .int .i64 ev.c.v, .int .i64 ev.sp, .slice u.o u.n u.c]), .int .i64 (lp h.e h.e.length)] V fun e w' => e = .returned (.bool (flB ev (lp h.e h.e.length))) ∧ Below V.heap.size V w') := fun V => mayFollow_any ev u _ V
    have hne : Nonempty (Later w2) := ⟨⟨w2, Below.refl _ _⟩⟩
    generalize lp h.e h.e.length = L at HE HLs HF
    cases hf : flB ev L with
    | false =>
      rw [hf] at HF HE
      replace HE : Hid (notE h ev = 2) := HE
      have HN : Hid (notH h ev = h) := notH_no (by rw [HE.out]; decide)
      clear hf
      refine wp_region_later (by kernel_rfl) (by kernel_rfl) ?_
      repeat (go_big_quiet_step (first | (go_at_call 39; with_reducible exact later_call (HLs.out _)) | (go_at_call 38; with_reducible exact later_call (HF.out _))))
      refine wpQuiet_nil ?_
      rintro w3 ⟨⟨_, b3⟩, rfl⟩
      replace HO := hid (HO.out.below b3)
      clear b3 c1 m0 m1 m2 m3 m4 m5 m6 m7 m8 m9 m10 m11 hne HLs HF
      have c0 : w3.cell? ⟨ob, 0, none⟩ = some (.slice zo zn zc) := HO.out.o.c0
      have c1 : w3.cell? ⟨ob, 1, none⟩ = some (.slice eo en ec) := HO.out.o.c1
      have r0 : w3.cell? ⟨w.heap.size + 2, 0, none⟩ = some (.slice none 0 0) := HO.out.bw.r.c0
      have r1 : w3.cell? ⟨w.heap.size + 2, 1, none⟩ = some (.slice none 0 0) := HO.out.bw.r.c1
      have f0 := HO.out.bw.r.fz 0
      have f1 := HO.out.bw.r.fz 1
      go_wp2_with fail
      refine bodyPost_ret (v := .tuple #[.agg #[.slice zo zn zc, .slice eo en ec], .int .i64 2]) (by simp [results, Try.results22, go_sem, *]) rfl ⟨⟨⟨zo, zn, zc⟩, ⟨eo, en, ec⟩⟩, ret_2 (z := ⟨⟨zo, zn, zc⟩, ⟨eo, en, ec⟩⟩) HE.out.symm, ?_, HO.out.fin.2⟩
      rw [HN.out]
      exact HO.out.fin.1
    | true =>
      rw [hf] at HF HE
      replace HE : Hid (notE h ev = 0) := HE
      clear hf
      refine wp_region_later (by kernel_rfl) (by kernel_rfl) ?_
      repeat (go_big_quiet_step (first | (go_at_call 39; with_reducible exact later_call (HLs.out _)) | (go_at_call 38; with_reducible exact later_call (HF.out _))))
      refine wpQuiet_nil ?_
      rintro w3 ⟨⟨_, b3⟩, rfl⟩
      replace HO := hid (HO.out.below b3)
      replace HM := hid (HM.out.below b3)
      clear b3 c1 m0 m1 m2 m3 m4 m5 m6 m7 m8 m9 m10 m11 hne HLs HF
      have m11 := HM.out.at.c11
      dsimp only at m11
      have f11 := HM.out.fz 11
      have HCd : Hid (Calls Try.prog 40 #[.slice u.o u.n u.c] w3 fun e w' => ∃ z : Hd, e = .returned (.slice z.o z.n z.c) ∧ Hid (z.n = u.n) ∧ MineD w' w3.heap.size z ev.l ∧ Below w3.heap.size w3 w') := clone_dn u ev.l w3 hu (HU.out.below HO.out.bw.low)
      have hB : B2 ≤ w3.heap.size := HO.out.own.b3
      have hm3 := HM.out.lt
      go_upto_region 7 with (go_at_call 40; refine HCd.out.mono ?_; rintro e w4 ⟨u9, rfl, _, hm9, b4⟩; have HM9 := hid hm9; clear hm9; have HO4 := hid (HO.out.below b4); have HM4 := hid (HM.out.below b4); have hl4 := b4.size; have m11 := HM4.out.at.c11; dsimp only at m11; have f11 := HM4.out.fz 11)
      have hK : Kept (fun i => i = w.heap.size + 1) w4 (w4.setCell ⟨w.heap.size + 1, 11, none⟩ (.slice u9.o u9.n u9.c)) := kept_set _ _ _ _ rfl
      have HZ : Hid (en = xs.length) := HO4.out.own.x.1
      have hen : en ≤ 5000 := by have h8 := HH.out.e.len; have h9 := HZ.out; have h7 := congrArg List.length HO4.out.own.m; rw [List.length_map] at h7; omega
      have HS : Hid (Bo w (w4.setCell ⟨w.heap.size + 1, 11, none⟩ (.slice u9.o u9.n u9.c)) x (.cells #[.int .i64 ev.k, .int .i64 ev.co, .int .i64 ev.c.k, .int .u64 ev.c.a, .int .u64 ev.c.b, .int .i64 ev.c.r, .int .i64 ev.c.g, .int .i64 ev.c.t, .int .i64 ev.c.s, .int .i64 ev.c.v, .int .i64 ev.sp, .slice u9.o u9.n u9.c] 34) ob ⟨⟨zo, zn, zc⟩, ⟨eo, en, ec⟩⟩ h B B1 B2 xs ∧ MineD (w4.setCell ⟨w.heap.size + 1, 11, none⟩ (.slice u9.o u9.n u9.c)) w3.heap.size u9 ev.l) := HO4.out.setM HM4.out HM9.out hm3
      generalize w4.setCell ⟨w.heap.size + 1, 11, none⟩ (.slice u9.o u9.n u9.c) = w5 at HS hK ⊢
      have hl5 : w3.heap.size ≤ w5.heap.size := Nat.le_trans hl4 hK.size
      clear m11 f11 hK HO4 HM4 HM9 HO HM HCd
      have HO := hid HS.out.1
      have HM9 := hid HS.out.2
      clear HS
      have HM : Hid (Eb w5 (w.heap.size + 1) (ev, u9)) := ⟨HO.out.bw.m⟩
      obtain ⟨m0, m1, m2, m3, m4, m5, m6, m7, m8, m9, m10, m11⟩ := HM.out.at
      dsimp only at m0 m1 m2 m3 m4 m5 m6 m7 m8 m9 m10 m11
      have c0 : w5.cell? ⟨ob, 0, none⟩ = some (.slice zo zn zc) := HO.out.o.c0
      have c1 : w5.cell? ⟨ob, 1, none⟩ = some (.slice eo en ec) := HO.out.o.c1
      have hB1 : B1 ≤ w5.heap.size := by have := HO.out.own.b2; omega
      have HP : Hid (Bo w (w5.alloc (.cells #[.int .i64 ev.k, .int .i64 ev.co, .int .i64 ev.c.k, .int .u64 ev.c.a, .int .u64 ev.c.b, .int .i64 ev.c.r, .int .i64 ev.c.g, .int .i64 ev.c.t, .int .i64 ev.c.s, .int .i64 ev.c.v, .int .i64 ev.sp, .slice u9.o u9.n u9.c] 34)) x (.cells #[.int .i64 ev.k, .int .i64 ev.co, .int .i64 ev.c.k, .int .u64 ev.c.a, .int .u64 ev.c.b, .int .i64 ev.c.r, .int .i64 ev.c.g, .int .i64 ev.c.t, .int .i64 ev.c.s, .int .i64 ev.c.v, .int .i64 ev.sp, .slice u9.o u9.n u9.c] 34) ob ⟨⟨zo, zn, zc⟩, ⟨eo, en, ec⟩⟩ h B B1 B2 xs) := HO.out.below (alloc_below w5 _)
      have HM8 : Hid (MineD (w5.alloc (.cells #[.int .i64 ev.k, .int .i64 ev.co, .int .i64 ev.c.k, .int .u64 ev.c.a, .int .u64 ev.c.b, .int .i64 ev.c.r, .int .i64 ev.c.g, .int .i64 ev.c.t, .int .i64 ev.c.s, .int .i64 ev.c.v, .int .i64 ev.sp, .slice u9.o u9.n u9.c] 34)) w3.heap.size u9 ev.l) := HM9.out.below (alloc_below w5 _)
      go_wp2_with (at_builtin; go_loud (refine wpList_append_row _ rfl (.tmp 25) (.tmp 27) 23 34 _ 12 112 rfl Try.underlying23 infoE rfl (by decide) (by decide) B1 _ en (xs.flatMap evC) rfl HP.out.own.x.2 (some ⟨_, 0, none⟩) 1 1 (List.flatMap evC [(ev, u9)]) rfl rfl (fun h => by cases h) (one_ev _ (ev, u9) _) (evC_one _) (by omega) (Nat.le_trans hB1 (alloc_below w5 _).size) ?_; intro ao1 cap1 w6 own6 grow6; apply Hid.out))
      have HG : Hid (HasH w6 ⟨⟨zo, zn, zc⟩, ⟨ao1, en + 1, cap1⟩⟩ ⟨h.s, h.e ++ [ev]⟩) := HP.out.own.growE own6 grow6 HM8.out hB
      have HQ : Hid (Hb w6 ob ⟨⟨zo, zn, zc⟩, ⟨eo, en, ec⟩⟩) := HP.out.o.grown HP.out.own.x.2 (by decide) grow6
      have HRr : Hid (Hb w6 (w.heap.size + 2) nilX) := HP.out.bw.r.grown HP.out.own.x.2 (by decide) grow6
      have HL : Hid (Below w.heap.size w w6) := HP.out.bw.low.grown grow6 HP.out.bw.low.size (fun k e => by have h9 := (World.ownsRow.lt HP.out.own.x.2 k e).1; have h8 := HP.out.hB; have h7 := HP.out.own.b; omega)
      have hne : ob ≠ w.heap.size + 2 := by have := HP.out.ho; omega
      have ho : w.heap.size ≤ ob := by have := HP.out.ho; omega
      clear HP own6 grow6 HO HM m0 m1 m2 m3 m4 m5 m6 m7 m8 m9 m10 m11 c0 c1 HM8 HM9
      unfold Hid
      have c0 : w6.cell? ⟨ob, 0, none⟩ = some (.slice zo zn zc) := HQ.out.c0
      have c1 : w6.cell? ⟨ob, 1, none⟩ = some (.slice eo en ec) := HQ.out.c1
      have f1 := HQ.out.fz 1
      have r0 : w6.cell? ⟨w.heap.size + 2, 0, none⟩ = some (.slice none 0 0) := HRr.out.c0
      have r1 : w6.cell? ⟨w.heap.size + 2, 1, none⟩ = some (.slice none 0 0) := HRr.out.c1
      have k0 := HRr.out.fz 0
      have k1 := HRr.out.fz 1
      go_wp2_with fail
      refine bodyPost_ret (v := .tuple #[.agg #[.slice zo zn zc, .slice ao1 (en + 1) cap1], .int .i64 0]) (by simp [results, Try.results22, go_sem, *]) rfl ⟨⟨⟨zo, zn, zc⟩, ⟨ao1, en + 1, cap1⟩⟩, ret_2 (z := ⟨⟨zo, zn, zc⟩, ⟨ao1, en + 1, cap1⟩⟩) HE.out.symm, ?_, ?_⟩
      · rw [notH_of HE.out]
        have HK : Kept (fun i => i = ob) w6 (w6.setCell ⟨ob, 1, none⟩ (.slice ao1 (en + 1) cap1)) := kept_set _ _ _ _ rfl
        exact (HG.out.keptH HQ.out HK).put (x' := ⟨⟨zo, zn, zc⟩, ⟨ao1, en + 1, cap1⟩⟩) (HRr.out.kept HK (fun e => hne e.symm))
      · exact put2_low (b := w.heap.size + 2) (x := ⟨⟨zo, zn, zc⟩, ⟨ao1, en + 1, cap1⟩⟩) (q_set HL.out ho _) (Nat.le_add_right _ 2)
end Go.Proofs.Ytmnkbkhfonngeaa.Hi
