/- What Invoke, Answer, Note do. -/
import Derived.Test.YtmnkbkhfonngeaaHiW7
namespace Go.Proofs.Ytmnkbkhfonngeaa.Hi
open Go.RowKit

theorem HasH.keptH {w w' : World} {b : Nat} {x z : Hh} {h : Hs} (g : Hb w b x) (k : Kept (fun i => i = b) w w') (q : HasH w z h) : HasH w' z h := by
  refine ⟨q.s.kept k (g.off spC_int q.s.row), ?_⟩
  obtain ⟨xs, e, hx⟩ := q.e
  exact ⟨xs, e, hx.has.kept k (g.off evC_int hx.has.row), fun y hy => (hx.each y hy).kept k (g.off dnC_int (hx.each y hy).row)⟩
/-- The boxes of a call that records: the history, what comes, the answer. -/
structure Bw (w W : World) (x : Hh) (mid : Obj) : Prop where
  a : Hb W w.heap.size x
  m : W.heap[w.heap.size + 1]? = some mid
  r : Hb W (w.heap.size + 2) nilX
  low : Below w.heap.size w W
theorem bw_new (w : World) (x : Hh) (mid : Obj) : Bw w (((w.alloc (.cells #[.slice x.s.o x.s.n x.s.c, .slice x.e.o x.e.n x.e.c] 25)).alloc mid).alloc (.cells #[.slice none 0 0, .slice none 0 0] 25)) x mid := by
  have s1 : (w.alloc (.cells #[.slice x.s.o x.s.n x.s.c, .slice x.e.o x.e.n x.e.c] 25)).heap.size = w.heap.size + 1 := by simp
  have s2 : ((w.alloc (.cells #[.slice x.s.o x.s.n x.s.c, .slice x.e.o x.e.n x.e.c] 25)).alloc mid).heap.size = w.heap.size + 2 := by simp
  refine ⟨((hb_new w x).below (alloc_below _ _)).below (alloc_below _ _), ?_, ?_, q_alloc (q_alloc (alloc_below _ _) _) _⟩
  · have h := heap_alloc_new (w.alloc (.cells #[.slice x.s.o x.s.n x.s.c, .slice x.e.o x.e.n x.e.c] 25)) mid
    rw [s1] at h
    exact ((alloc_below _ _).block (w.heap.size + 1) (by rw [s2]; omega)).trans h
  · have h := hb_new ((w.alloc (.cells #[.slice x.s.o x.s.n x.s.c, .slice x.e.o x.e.n x.e.c] 25)).alloc mid) nilX
    rwa [s2] at h
theorem Bw.below {w W W' : World} {x : Hh} {mid : Obj} (g : Bw w W x mid) (q : Below W.heap.size W W') : Bw w W' x mid := ⟨g.a.below q, (q.block _ (Nat.lt_trans (Nat.lt_succ_self _) g.r.lt)).trans g.m, g.r.below q, q_trans g.low q⟩
/-- .. and a copy of the history. -/
structure Bo (w W : World) (x : Hh) (mid : Obj) (ob : Nat) (z : Hh) (h : Hs) (B B1 B2 : Nat) (xs : List (Ev × Hd)) : Prop where
  bw : Bw w W x mid
  o : Hb W ob z
  own : OwnH W B B1 B2 z h xs
  hB : w.heap.size + 2 < B
  ho : w.heap.size + 2 < ob
theorem Bo.below {w W W' : World} {x : Hh} {mid : Obj} {o : Nat} {z : Hh} {h : Hs} {B B1 B2 : Nat} {xs : List (Ev × Hd)} (g : Bo w W x mid o z h B B1 B2 xs) (q : Below W.heap.size W W') : Bo w W' x mid o z h B B1 B2 xs := ⟨g.bw.below q, g.o.below q, g.own.below q, g.hB, g.ho⟩
theorem bo_new {w W w1 : World} {x z : Hh} {mid : Obj} {h : Hs} {B B1 B2 : Nat} {xs : List (Ev × Hd)} (g : Bw w W x mid) (o : OwnH w1 B B1 B2 z h xs) (hb : W.heap.size ≤ B) (b : Below W.heap.size W w1) : Bo w (w1.alloc (.cells #[.slice z.s.o z.s.n z.s.c, .slice z.e.o z.e.n z.e.c] 25)) x mid w1.heap.size z h B B1 B2 xs :=
  ⟨(g.below b).below (alloc_below _ _), hb_new w1 z, o.below (alloc_below _ _), Nat.lt_of_lt_of_le g.r.lt hb, Nat.lt_of_lt_of_le g.r.lt b.size⟩
theorem Bo.fin {w W : World} {x : Hh} {mid : Obj} {o : Nat} {z : Hh} {h : Hs} {B B1 B2 : Nat} {xs : List (Ev × Hd)} (g : Bo w W x mid o z h B B1 B2 xs) : HasH (put2 W (w.heap.size + 2) z) z h ∧ Below w.heap.size w (put2 W (w.heap.size + 2) z) :=
  ⟨g.own.has.put g.bw.r, put2_low g.bw.low (Nat.le_add_right _ 2)⟩
theorem Hb.grown {w w1 : World} {b B n cap size : Nat} {e : TypeId} {o : Option Addr} {cs : List Value} {x : Hh} (g : Hb w b x) (h : w.ownsRow B e size (.slice o n cap) n cs) (he : e ≠ 25) (k : w.grownBy w1 (Value.ownBlock (.slice o n cap))) : Hb w1 b x :=
  g.kept (kept_grown k) (fun e1 => own_ty h g.h he b e1.symm rfl)
/-- The spans have grown. -/
theorem OwnH.grow {w w1 : World} {B B1 B2 c : Nat} {z : Hh} {h : Hs} {xs : List (Ev × Hd)} {ao : Option Addr} {s : Sp} (g : OwnH w B B1 B2 z h xs) (h1 : w1.ownsRow B 50 15 (.slice ao (z.s.n + 1) c) (z.s.n + 1) (h.s.flatMap spC ++ List.flatMap spC [s])) (hg : w.grownBy w1 (Value.ownBlock (.slice z.s.o z.s.n z.s.c))) : HasH w1 ⟨⟨ao, z.s.n + 1, c⟩, z.e⟩ ⟨h.s ++ [s], h.e⟩ := by
  have hk := kept_grown hg
  have hblk : ∀ k, some k = (Value.slice z.s.o z.s.n z.s.c).ownBlock → B ≤ k ∧ k < B1 := by
    intro k hk
    cases hs : z.s.o with
    | none => rw [hs] at hk; cases hk
    | some a =>
      rw [hs] at hk
      have hk : k = a.block := by
        have := hk
        simp only [Value.ownBlock] at this
        first
          | (injection this)
          | (split at this <;> simp_all)
      rw [hk]
      exact ⟨(g.s.blk hs).1, g.sl a hs⟩
  have hm : MineS w1 B ⟨ao, z.s.n + 1, c⟩ (h.s ++ [s]) := by
    refine ⟨by rw [List.length_append, List.length_singleton]; exact congrArg (· + 1) g.s.1, ?_⟩
    rw [List.flatMap_append]
    exact h1
  refine ⟨hm.has, xs, g.m, ?_, fun y hy => (g.d y hy).1.kept hk ?_⟩
  · refine g.x.has.kept hk (fun h0 a e s => ?_)
    have := hblk _ s
    have := (g.x.blk e).1
    omega
  · intro h0 a e s
    have := hblk _ s
    exact (g.d y hy).2 h0 a e ⟨this.1, Nat.lt_of_lt_of_le this.2 g.b2⟩
abbrev nS (c : Int) (cl : C) (now : Int) : Sp := ⟨c, cl, now, 0, r0⟩
theorem ret_2 {z : Hh} {a b : Int} (h : a = b) : Ending.returned (.tuple #[(.agg #[.slice z.s.o z.s.n z.s.c, .slice z.e.o z.e.n z.e.c]), .int .i64 a]) = .returned (.tuple #[(.agg #[.slice z.s.o z.s.n z.s.c, .slice z.e.o z.e.n z.e.c]), .int .i64 b]) := by rw [h]
set_option maxRecDepth 100000 in
set_option maxHeartbeats 2000000 in
/-- Invoke: A CALL IS RECORDED. -/
theorem invoke_any (x : Hh) (h : Hs) (c : Int) (cl : C) (now : Int) (w : World) (hs : x.s.n ≤ 5000) (he : x.e.n ≤ 5000) (hd : ShortE h.e) (HH : Hid (HasH w x h)) :
    Calls Try.prog 20 #[(.agg #[.slice x.s.o x.s.n x.s.c, .slice x.e.o x.e.n x.e.c]), .int .i64 c, (.agg #[.int .i64 cl.k, .int .u64 cl.a, .int .u64 cl.b, .int .i64 cl.r, .int .i64 cl.g, .int .i64 cl.t, .int .i64 cl.s, .int .i64 cl.v]), .int .i64 now] w fun e w' => ∃ z : Hh, e = .returned (.tuple #[(.agg #[.slice z.s.o z.s.n z.s.c, .slice z.e.o z.e.n z.e.c]), .int .i64 (invE h c now)]) ∧ HasH w' z (invH h c cl now) ∧ Below w.heap.size w w' := by
  have HD := hid hd
  clear hd
  go_enter Try.func20, Try.ntmps20
  go_upto_region 1 with fail
  have HT := hid (bw_new w x (.cells #[.int .i64 cl.k, .int .u64 cl.a, .int .u64 cl.b, .int .i64 cl.r, .int .i64 cl.g, .int .i64 cl.t, .int .i64 cl.s, .int .i64 cl.v] 28))
  generalize ((w.alloc (.cells #[.slice x.s.o x.s.n x.s.c, .slice x.e.o x.e.n x.e.c] 25)).alloc (.cells #[.int .i64 cl.k, .int .u64 cl.a, .int .u64 cl.b, .int .i64 cl.r, .int .i64 cl.g, .int .i64 cl.t, .int .i64 cl.s, .int .i64 cl.v] 28)).alloc (.cells #[.slice none 0 0, .slice none 0 0] 25) = W at HT ⊢
  have c0 := HT.out.a.c0
  have c1 := HT.out.a.c1
  have HA := hid (apart_any x h W hs he HD.out (HH.out.below HT.out.low))
  go_upto_region 2 with (go_at_call 36; refine HA.out.mono ?_; rintro e w1 ⟨⟨⟨zo, zn, zc⟩, ⟨eo, en, ec⟩⟩, B, B1, B2, xs, rfl, o1, hb1, b1⟩)
  have HO : Hid (Bo w (w1.alloc (.cells #[.slice zo zn zc, .slice eo en ec] 25)) x (.cells #[.int .i64 cl.k, .int .u64 cl.a, .int .u64 cl.b, .int .i64 cl.r, .int .i64 cl.g, .int .i64 cl.t, .int .i64 cl.s, .int .i64 cl.v] 28) w1.heap.size ⟨⟨zo, zn, zc⟩, ⟨eo, en, ec⟩⟩ h B B1 B2 xs) := bo_new HT.out o1 hb1 b1
  generalize hV : w1.alloc (.cells #[.slice zo zn zc, .slice eo en ec] 25) = V at HO ⊢
  generalize w1.heap.size = ob at HO ⊢
  clear hV HA c0 c1 HT o1 b1 hb1
  have c0 := HO.out.bw.a.c0
  have c1 := HO.out.bw.a.c1
  have HR := hid (refused_any x h c now V hs he (HH.out.below HO.out.bw.low))
  by_cases h0 : invE h c now = 0
  · have HI := hid h0
    rw [h0] at HR
    clear h0
    go_upto_region 5 with (go_at_call 37; refine HR.out.mono ?_; rintro e w2 ⟨rfl, b2⟩)
    replace HO := hid (HO.out.below b2)
    clear b2 c0 c1 HR
    have c0 : w2.cell? ⟨ob, 0, none⟩ = some (.slice zo zn zc) := HO.out.o.c0
    have c1 : w2.cell? ⟨ob, 1, none⟩ = some (.slice eo en ec) := HO.out.o.c1
    have HM : Hid (Cb w2 (w.heap.size + 1) cl) := ⟨HO.out.bw.m⟩
    obtain ⟨d0, d1, d2, d3, d4, d5, d6, d7⟩ := HM.out.at
    have HZ : Hid (zn = h.s.length) := HO.out.own.s.1
    have hzn : zn ≤ 5000 := by have h8 := HH.out.s.len; have h9 := HZ.out; omega
    have hB : B ≤ w2.heap.size := by have := HO.out.own.b; have := HO.out.own.b2; have := HO.out.own.b3; omega
    go_wp2_with (at_builtin; go_loud (refine wpList_append_row _ rfl (.tmp 23) (.tmp 28) 22 50 _ 15 120 rfl Try.underlying22 infoS rfl (by decide) (by decide) B _ zn (h.s.flatMap spC) rfl (HO.out.own.below (alloc_below w2 (.cells #[.int .i64 (nS c cl now).co, .int .i64 (nS c cl now).c.k, .int .u64 (nS c cl now).c.a, .int .u64 (nS c cl now).c.b, .int .i64 (nS c cl now).c.r, .int .i64 (nS c cl now).c.g, .int .i64 (nS c cl now).c.t, .int .i64 (nS c cl now).c.s, .int .i64 (nS c cl now).c.v, .int .i64 (nS c cl now).st, .int .i64 (nS c cl now).en, .int .i64 (nS c cl now).r.e, .int .i64 (nS c cl now).r.v, .int .i64 (nS c cl now).r.b, .bool (nS c cl now).r.t] 50))).s.2 (some ⟨_, 0, none⟩) 1 1 (List.flatMap spC [nS c cl now]) rfl rfl (fun h => by cases h) (one_sp _ (nS c cl now) _) (spC_one _) (by omega) (Nat.le_trans hB (alloc_below w2 _).size) ?_; intro ao1 cap1 w3 own3 grow3; apply Hid.out))
    have HP : Hid (Bo w (w2.alloc (.cells #[.int .i64 (nS c cl now).co, .int .i64 (nS c cl now).c.k, .int .u64 (nS c cl now).c.a, .int .u64 (nS c cl now).c.b, .int .i64 (nS c cl now).c.r, .int .i64 (nS c cl now).c.g, .int .i64 (nS c cl now).c.t, .int .i64 (nS c cl now).c.s, .int .i64 (nS c cl now).c.v, .int .i64 (nS c cl now).st, .int .i64 (nS c cl now).en, .int .i64 (nS c cl now).r.e, .int .i64 (nS c cl now).r.v, .int .i64 (nS c cl now).r.b, .bool (nS c cl now).r.t] 50)) x (.cells #[.int .i64 cl.k, .int .u64 cl.a, .int .u64 cl.b, .int .i64 cl.r, .int .i64 cl.g, .int .i64 cl.t, .int .i64 cl.s, .int .i64 cl.v] 28) ob ⟨⟨zo, zn, zc⟩, ⟨eo, en, ec⟩⟩ h B B1 B2 xs) := HO.out.below (alloc_below w2 _)
    have HG : Hid (HasH w3 ⟨⟨ao1, zn + 1, cap1⟩, ⟨eo, en, ec⟩⟩ ⟨h.s ++ [nS c cl now], h.e⟩) := HP.out.own.grow own3 grow3
    have HQ : Hid (Hb w3 ob ⟨⟨zo, zn, zc⟩, ⟨eo, en, ec⟩⟩) := HP.out.o.grown HP.out.own.s.2 (by decide) grow3
    have HRr : Hid (Hb w3 (w.heap.size + 2) nilX) := HP.out.bw.r.grown HP.out.own.s.2 (by decide) grow3
    have HL : Hid (Below w.heap.size w w3) := HP.out.bw.low.grown grow3 HP.out.bw.low.size (fun k e => by have h9 := (World.ownsRow.lt HP.out.own.s.2 k e).1; have h8 := HP.out.hB; omega)
    have hne : ob ≠ w.heap.size + 2 := by have := HP.out.ho; omega
    have ho : w.heap.size ≤ ob := by have := HP.out.ho; omega
    clear HP own3 grow3 HO HM d0 d1 d2 d3 d4 d5 d6 d7 c0 c1
    unfold Hid
    have c0 : w3.cell? ⟨ob, 0, none⟩ = some (.slice zo zn zc) := HQ.out.c0
    have c1 : w3.cell? ⟨ob, 1, none⟩ = some (.slice eo en ec) := HQ.out.c1
    have f0 := HQ.out.fz 0
    have r0 : w3.cell? ⟨w.heap.size + 2, 0, none⟩ = some (.slice none 0 0) := HRr.out.c0
    have r1 : w3.cell? ⟨w.heap.size + 2, 1, none⟩ = some (.slice none 0 0) := HRr.out.c1
    have k0 := HRr.out.fz 0
    have k1 := HRr.out.fz 1
    go_wp2_with fail
    refine bodyPost_ret (v := .tuple #[.agg #[.slice ao1 (zn + 1) cap1, .slice eo en ec], .int .i64 0]) (by simp [results, Try.results20, go_sem, *]) rfl ⟨⟨⟨ao1, zn + 1, cap1⟩, ⟨eo, en, ec⟩⟩, ret_2 (z := ⟨⟨ao1, zn + 1, cap1⟩, ⟨eo, en, ec⟩⟩) HI.out.symm, ?_, ?_⟩
    · rw [invH_of HI.out]
      have HK : Kept (fun i => i = ob) w3 (w3.setCell ⟨ob, 0, none⟩ (.slice ao1 (zn + 1) cap1)) := kept_set _ _ _ _ rfl
      exact (HG.out.keptH HQ.out HK).put (x' := ⟨⟨ao1, zn + 1, cap1⟩, ⟨eo, en, ec⟩⟩) (HRr.out.kept HK (fun e => hne e.symm))
    · exact put2_low (b := w.heap.size + 2) (x := ⟨⟨ao1, zn + 1, cap1⟩, ⟨eo, en, ec⟩⟩) (q_set HL.out ho _) (Nat.le_add_right _ 2)
  · have hb : (invE h c now != 0) = true := by simp [h0]
    have HN := hid (invH_no (x := cl) h0)
    clear h0
    go_upto_region 4 with (go_at_call 37; refine HR.out.mono ?_; rintro e w2 ⟨rfl, b2⟩)
    replace HO := hid (HO.out.below b2)
    clear b2 c0 c1 HR
    have c0 : w2.cell? ⟨ob, 0, none⟩ = some (.slice zo zn zc) := HO.out.o.c0
    have c1 : w2.cell? ⟨ob, 1, none⟩ = some (.slice eo en ec) := HO.out.o.c1
    have r0 : w2.cell? ⟨w.heap.size + 2, 0, none⟩ = some (.slice none 0 0) := HO.out.bw.r.c0
    have r1 : w2.cell? ⟨w.heap.size + 2, 1, none⟩ = some (.slice none 0 0) := HO.out.bw.r.c1
    have f0 := HO.out.bw.r.fz 0
    have f1 := HO.out.bw.r.fz 1
    go_wp2_with fail
    refine bodyPost_ret (v := .tuple #[.agg #[.slice zo zn zc, .slice eo en ec], .int .i64 (invE h c now)]) (by simp [results, Try.results20, go_sem, *]) rfl ⟨⟨⟨zo, zn, zc⟩, ⟨eo, en, ec⟩⟩, rfl, ?_, HO.out.fin.2⟩
    rw [HN.out]
    exact HO.out.fin.1
end Go.Proofs.Ytmnkbkhfonngeaa.Hi
