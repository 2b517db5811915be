/- What the document does: model. -/
import Derived.Test.YtnagpedkmfmniaaArRGive
import Derived.Test.YtnagpedkmfmniaaArActs
namespace Go.Proofs.Ytnagpedkmfmniaa.Ar
open Go.RowKit Go.Proofs.Ytnagpedkmfmniaa.Ha

set_option maxRecDepth 100000 in
set_option maxHeartbeats 4000000 in
/-- WHAT IS DONE BY THE DOCUMENT. -/
theorem model_any (x : Wh) (a : Ar) (z : Ac) (w : World) (HS : Hid (Sm a)) (HRB : Hid (RefB a 1000000000000)) (HH : Hid (HasA w x a)) :
    Calls Try.prog 22 #[(.agg #[.slice x.t.o x.t.n x.t.c, .slice x.f.o x.f.n x.f.c]), (.agg #[.int .i64 z.kind, .int .i64 z.core, .int .i64 z.obj, .int .i64 z.by_, .int .i64 z.t.ty, .int .i64 z.t.gen, .int .i64 z.t.refs, .int .i64 z.t.st, .int .i64 z.t.sz, .int .i64 z.t.wa, .int .i64 z.t.fm, .int .i64 z.t.va])] w fun e w' => ∃ y : Wh, e = .returned (.tuple #[(.agg #[.slice y.t.o y.t.n y.t.c, .slice y.f.o y.f.n y.f.c]), .int .i64 (doP a z), .int .i64 (doE a z)]) ∧ HasA w' y (doA a z) ∧ (HasO w x a → HasO w' y (doA a z)) ∧ Below w.heap.size w w' := by
  by_cases h0 : z.kind = 0
  · obtain ⟨g1, g2, g3⟩ := do_take (a := a) h0
    rw [g1, g2, g3]
    have e0 := beq_of h0
    clear h0
    clear g1 g2 g3
    have HD := hid (dk_new w x z)
    go_enter Try.func22, Try.ntmps22
    go_wp2_with fail
    generalize ((w.alloc (.cells #[.slice x.t.o x.t.n x.t.c, .slice x.f.o x.f.n x.f.c] 25)).alloc (.cells #[.int .i64 z.kind, .int .i64 z.core, .int .i64 z.obj, .int .i64 z.by_, .int .i64 z.t.ty, .int .i64 z.t.gen, .int .i64 z.t.refs, .int .i64 z.t.st, .int .i64 z.t.sz, .int .i64 z.t.wa, .int .i64 z.t.fm, .int .i64 z.t.va] 42)).alloc (.cells #[.slice none 0 0, .slice none 0 0] 25) = V at HD ⊢
    refine (rtake_any _ x a z.core z.t _ HS (hasV_of (Av := fun k => k = w.heap.size + 2) HH.out HD.out.low (fun k e => by omega)) (fun k e => by have h1 := HD.out.res.lt; have e : k = w.heap.size + 2 := e; omega)).mono ?_
    rintro e w2 ⟨y, rfl, hy⟩
    have HY := hid hy
    have HD2 := hid (HD.out.below hy.low)
    clear hy
    obtain ⟨r0, r1, rf⟩ := HD2.out.res
    go_wp2_with fail
    have K := kept_two w2 (w.heap.size + 2) (.slice y.t.o y.t.n y.t.c) (.slice y.f.o y.f.n y.f.c)
    have HF := ((HY.out.has.kept K (fun _ e => e))).has
    have HP : HasO w x a → _ := fun h => ((HY.out.o (h.below HD.out.low)).box HD2.out.zr (.slice y.t.o y.t.n y.t.c) (.slice y.f.o y.f.n y.f.c))
    have HL := low_put (u := .slice y.t.o y.t.n y.t.c) (v := .slice y.f.o y.f.n y.f.c) HD2.out.low (by omega : w.heap.size ≤ w.heap.size + 2)
    refine bodyPost_ret (v := .tuple #[(.agg #[.slice y.t.o y.t.n y.t.c, .slice y.f.o y.f.n y.f.c]), .int .i64 (takeP a z.core z.t), .int .i64 (takeE a z.core z.t)]) (by simp [results, Try.results22, go_sem, r0, r1]) rfl ⟨y, rfl, ?_, ?_, ?_⟩
    · exact HF
    · exact HP
    · exact HL
  · by_cases h1 : z.kind = 1
    · obtain ⟨g1, g2, g3⟩ := do_drop (a := a) h0 h1
      rw [g1, g2, g3]
      have e0 := bne_of h0
      have e1 := beq_of h1
      clear h0 h1
      clear g1 g2 g3
      have HD := hid (dk_new w x z)
      go_enter Try.func22, Try.ntmps22
      go_wp2_with fail
      generalize ((w.alloc (.cells #[.slice x.t.o x.t.n x.t.c, .slice x.f.o x.f.n x.f.c] 25)).alloc (.cells #[.int .i64 z.kind, .int .i64 z.core, .int .i64 z.obj, .int .i64 z.by_, .int .i64 z.t.ty, .int .i64 z.t.gen, .int .i64 z.t.refs, .int .i64 z.t.st, .int .i64 z.t.sz, .int .i64 z.t.wa, .int .i64 z.t.fm, .int .i64 z.t.va] 42)).alloc (.cells #[.slice none 0 0, .slice none 0 0] 25) = V at HD ⊢
      refine (rdrop_any _ x a z.obj _ HS (hasV_of (Av := fun k => k = w.heap.size + 2) HH.out HD.out.low (fun k e => by omega)) (fun k e => by have h1 := HD.out.res.lt; have e : k = w.heap.size + 2 := e; omega)).mono ?_
      rintro e w2 ⟨y, rfl, hy⟩
      have HY := hid hy
      have HD2 := hid (HD.out.below hy.low)
      clear hy
      obtain ⟨r0, r1, rf⟩ := HD2.out.res
      have n2 : w.heap.size + 1 + 1 < w2.heap.size := HD2.out.res.lt
      go_wp2_with fail
      refine bodyPost_ret (v := .tuple #[(.agg #[.slice y.t.o y.t.n y.t.c, .slice y.f.o y.f.n y.f.c]), .int .i64 0, .int .i64 (dropE a z.obj)]) (by simp [results, Try.results22, go_sem, r0, r1, n2]) rfl ⟨y, rfl, ?_, ?_, ?_⟩
      · exact (((HY.out.has.kept (kept_two w2 (w.heap.size + 2) (.slice y.t.o y.t.n y.t.c) (.slice y.f.o y.f.n y.f.c)) (fun _ e => e)).below (alloc_below _ _))).has
      · exact fun h => ((HY.out.o (h.below HD.out.low)).box HD2.out.zr (.slice y.t.o y.t.n y.t.c) (.slice y.f.o y.f.n y.f.c)).below (alloc_below _ _)
      · exact q_alloc (low_put HD2.out.low (by omega : w.heap.size ≤ w.heap.size + 2)) _
    · by_cases h2 : z.kind = 2
      · obtain ⟨g1, g2, g3⟩ := do_give (a := a) h0 h1 h2
        rw [g1, g2, g3]
        have e0 := bne_of h0
        have e1 := bne_of h1
        have e2 := beq_of h2
        clear h0 h1 h2
        clear g1 g2 g3
        have HD := hid (dk_new w x z)
        go_enter Try.func22, Try.ntmps22
        go_wp2_with fail
        generalize ((w.alloc (.cells #[.slice x.t.o x.t.n x.t.c, .slice x.f.o x.f.n x.f.c] 25)).alloc (.cells #[.int .i64 z.kind, .int .i64 z.core, .int .i64 z.obj, .int .i64 z.by_, .int .i64 z.t.ty, .int .i64 z.t.gen, .int .i64 z.t.refs, .int .i64 z.t.st, .int .i64 z.t.sz, .int .i64 z.t.wa, .int .i64 z.t.fm, .int .i64 z.t.va] 42)).alloc (.cells #[.slice none 0 0, .slice none 0 0] 25) = V at HD ⊢
        refine (rgive_any _ x a z.core z.obj _ HS (hasV_of (Av := fun k => k = w.heap.size + 2) HH.out HD.out.low (fun k e => by omega)) (fun k e => by have h1 := HD.out.res.lt; have e : k = w.heap.size + 2 := e; omega)).mono ?_
        rintro e w2 ⟨y, rfl, hy⟩
        have HY := hid hy
        have HD2 := hid (HD.out.below hy.low)
        clear hy
        obtain ⟨r0, r1, rf⟩ := HD2.out.res
        have n2 : w.heap.size + 1 + 1 < w2.heap.size := HD2.out.res.lt
        go_wp2_with fail
        refine bodyPost_ret (v := .tuple #[(.agg #[.slice y.t.o y.t.n y.t.c, .slice y.f.o y.f.n y.f.c]), .int .i64 0, .int .i64 (giveE a z.core z.obj)]) (by simp [results, Try.results22, go_sem, r0, r1, n2]) rfl ⟨y, rfl, ?_, ?_, ?_⟩
        · exact (((HY.out.has.kept (kept_two w2 (w.heap.size + 2) (.slice y.t.o y.t.n y.t.c) (.slice y.f.o y.f.n y.f.c)) (fun _ e => e)).below (alloc_below _ _))).has
        · exact fun h => ((HY.out.o (h.below HD.out.low)).box HD2.out.zr (.slice y.t.o y.t.n y.t.c) (.slice y.f.o y.f.n y.f.c)).below (alloc_below _ _)
        · exact q_alloc (low_put HD2.out.low (by omega : w.heap.size ≤ w.heap.size + 2)) _
      · obtain ⟨g1, g2, g3⟩ := do_ref (a := a) h0 h1 h2
        rw [g1, g2, g3]
        have e0 := bne_of h0
        have e1 := bne_of h1
        have e2 := bne_of h2
        clear h0 h1 h2
        clear g1 g2 g3
        have HD := hid (dk_new w x z)
        go_enter Try.func22, Try.ntmps22
        go_wp2_with fail
        generalize ((w.alloc (.cells #[.slice x.t.o x.t.n x.t.c, .slice x.f.o x.f.n x.f.c] 25)).alloc (.cells #[.int .i64 z.kind, .int .i64 z.core, .int .i64 z.obj, .int .i64 z.by_, .int .i64 z.t.ty, .int .i64 z.t.gen, .int .i64 z.t.refs, .int .i64 z.t.st, .int .i64 z.t.sz, .int .i64 z.t.wa, .int .i64 z.t.fm, .int .i64 z.t.va] 42)).alloc (.cells #[.slice none 0 0, .slice none 0 0] 25) = V at HD ⊢
        refine (rrefer_any _ x a z.obj z.by_ _ HS HRB (hasV_of (Av := fun k => k = w.heap.size + 2) HH.out HD.out.low (fun k e => by omega)) (fun k e => by have h1 := HD.out.res.lt; have e : k = w.heap.size + 2 := e; omega)).mono ?_
        rintro e w2 ⟨y, rfl, hy⟩
        have HY := hid hy
        have HD2 := hid (HD.out.below hy.low)
        clear hy
        obtain ⟨r0, r1, rf⟩ := HD2.out.res
        have n2 : w.heap.size + 1 + 1 < w2.heap.size := HD2.out.res.lt
        go_wp2_with fail
        refine bodyPost_ret (v := .tuple #[(.agg #[.slice y.t.o y.t.n y.t.c, .slice y.f.o y.f.n y.f.c]), .int .i64 0, .int .i64 (refE a z.obj z.by_)]) (by simp [results, Try.results22, go_sem, r0, r1, n2]) rfl ⟨y, rfl, ?_, ?_, ?_⟩
        · exact (((HY.out.has.kept (kept_two w2 (w.heap.size + 2) (.slice y.t.o y.t.n y.t.c) (.slice y.f.o y.f.n y.f.c)) (fun _ e => e)).below (alloc_below _ _))).has
        · exact fun h => ((HY.out.o (h.below HD.out.low)).box HD2.out.zr (.slice y.t.o y.t.n y.t.c) (.slice y.f.o y.f.n y.f.c)).below (alloc_below _ _)
        · exact q_alloc (low_put HD2.out.low (by omega : w.heap.size ≤ w.heap.size + 2)) _
end Go.Proofs.Ytnagpedkmfmniaa.Ar
