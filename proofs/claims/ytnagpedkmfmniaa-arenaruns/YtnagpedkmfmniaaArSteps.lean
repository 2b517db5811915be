/- ArenaSteps: whatever is done, what follows is what the document says; and what was given stays. -/
import Derived.Test.YtnagpedkmfmniaaArOwnW
import Derived.Test.YtnagpedkmfmniaaArActs
namespace Go.Proofs.Ytnagpedkmfmniaa.Ar
open Go.RowKit Go.Proofs.Ytnagpedkmfmniaa.Ha

theorem do_bad {a : Ar} {z : Ac} (h : ¬ Ok a) : doE a z ≠ 0 := by
  have e := okA_no h
  unfold doE takeE dropE giveE refE
  simp only [e]
  repeat' split
  all_goals simp_all
theorem do_sm {a : Ar} (z : Ac) (h : Sm a) : Sm (doA a z) := by
  by_cases k : Ok a
  · exact (small_of (do_ok z k)).out
  · rw [do_no (do_bad k)]; exact h
/-- The boxes of what was given. -/
structure Sp (w W : World) (x : Wh) (a : Ar) (z : Ac) : Prop where
  low : Below w.heap.size w W
  bo : Ba W w.heap.size x a
  ac : InC W (w.heap.size + 1) z
theorem Sp.below {w W W' : World} {x : Wh} {a : Ar} {z : Ac} (h : Sp w W x a z) (b : Below W.heap.size W W') : Sp w W' x a z := ⟨q_trans h.low b, h.bo.below b, h.ac.below b⟩
theorem sp_new {w : World} {x : Wh} {a : Ar} (z : Ac) (h : HasA w x a) : Sp w ((w.alloc (.cells #[.slice x.t.o x.t.n x.t.c, .slice x.f.o x.f.n x.f.c] 25)).alloc (.cells #[.int .i64 z.kind, .int .i64 z.core, .int .i64 z.obj, .int .i64 z.by_, .int .i64 z.t.ty, .int .i64 z.t.gen, .int .i64 z.t.refs, .int .i64 z.t.st, .int .i64 z.t.sz, .int .i64 z.t.wa, .int .i64 z.t.fm, .int .i64 z.t.va] 42)) x a z := by
  refine ⟨q_alloc (alloc_below w _) _, (ba_new h).below (alloc_below _ _), ?_⟩
  have h := inC_new (w.alloc (.cells #[.slice x.t.o x.t.n x.t.c, .slice x.f.o x.f.n x.f.c] 25)) z 42
  rwa [show (w.alloc (.cells #[.slice x.t.o x.t.n x.t.c, .slice x.f.o x.f.n x.f.c] 25)).heap.size = w.heap.size + 1 by simp] at h
theorem live_fin {w W : World} (h : Below w.heap.size w W) : Calls Try.prog 10 #[] W fun e w' => e = .returned (.bool true) ∧ Below w.heap.size w w' := (live9_any W).mono fun _ _ ⟨h1, h2⟩ => ⟨h1, q_trans h h2⟩
set_option maxRecDepth 100000 in
set_option maxHeartbeats 8000000 in
theorem steps_any (x : Wh) (a : Ar) (z : Ac) (w : World) (HH : Hid (HasA w x a)) :
    Calls Try.prog 4 #[(.agg #[.slice x.t.o x.t.n x.t.c, .slice x.f.o x.f.n x.f.c]), (.agg #[.int .i64 z.kind, .int .i64 z.core, .int .i64 z.obj, .int .i64 z.by_, .int .i64 z.t.ty, .int .i64 z.t.gen, .int .i64 z.t.refs, .int .i64 z.t.st, .int .i64 z.t.sz, .int .i64 z.t.wa, .int .i64 z.t.fm, .int .i64 z.t.va])] w fun e w' => e = .returned (.bool true) ∧ Below w.heap.size w w' := by
  have HP := hid (sp_new z HH.out)
  go_enter Try.func4, Try.ntmps4
  go_wp2_with fail
  generalize (w.alloc (.cells #[.slice x.t.o x.t.n x.t.c, .slice x.f.o x.f.n x.f.c] 25)).alloc (.cells #[.int .i64 z.kind, .int .i64 z.core, .int .i64 z.obj, .int .i64 z.by_, .int .i64 z.t.ty, .int .i64 z.t.gen, .int .i64 z.t.refs, .int .i64 z.t.st, .int .i64 z.t.sz, .int .i64 z.t.wa, .int .i64 z.t.fm, .int .i64 z.t.va] 42) = W at HP ⊢
  refine (small_any x a _ HP.out.bo.has).mono ?_
  rintro e w1 ⟨⟨b, rfl, hb⟩, b1⟩
  replace HP := hid (HP.out.below b1)
  clear b1
  cases b with
  | false =>
    clear hb
    go_wp2_with fail
    refine (live_fin HP.out.low).mono ?_
    rintro e w2 ⟨rfl, b2⟩
    have HL := hid b2
    clear b2
    go_wp2_with fail
    go_ret
    exact ⟨rfl, HL.out⟩
  | true =>
    have HSB := hid (hb rfl)
    have HS := hid HSB.out.sm
    have HRB : Hid (RefB a 1000000000000) := fun q hq => by have := HSB.out.r q hq; omega
    clear hb HSB
    obtain ⟨p0, p1, pf⟩ := HP.out.bo.inA
    go_wp2_with fail
    refine (own_any x a _ HS HP.out.bo.has).mono ?_
    rintro e w2 ⟨y, rfl, hy, b2⟩
    replace HP := hid ((HP.out.below b2).below (alloc_below _ (.cells #[.slice y.t.o y.t.n y.t.c, .slice y.f.o y.f.n y.f.c] 25)))
    have HY := hid (ba_new hy.has)
    clear b2 hy p0 p1 pf
    obtain ⟨p0, p1, pf⟩ := HY.out.inA
    obtain ⟨z0, z1, z2, z3, z4, z5, z6, z7, z8, z9, za, zb⟩ := HP.out.ac
    go_wp2_with fail
    generalize w2.alloc (.cells #[.slice y.t.o y.t.n y.t.c, .slice y.f.o y.f.n y.f.c] 25) = W2 at HP HY p0 p1 pf z0 z1 z2 z3 z4 z5 z6 z7 z8 z9 za zb ⊢
    generalize w2.heap.size = b5 at HY p0 p1 pf ⊢
    refine (does_any y a z _ HS HRB HY.out.has).mono ?_
    rintro e w3 ⟨v, rfl, hv, b3⟩
    replace HP := hid ((HP.out.below b3).below (alloc_below _ (.cells #[.slice v.t.o v.t.n v.t.c, .slice v.f.o v.f.n v.f.c] 25)))
    replace HY := hid ((HY.out.below b3).below (alloc_below _ (.cells #[.slice v.t.o v.t.n v.t.c, .slice v.f.o v.f.n v.f.c] 25)))
    have HV := hid (ba_new hv.has)
    clear b3 hv p0 p1 pf z0 z1 z2 z3 z4 z5 z6 z7 z8 z9 za zb
    obtain ⟨p0, p1, pf⟩ := HP.out.bo.inA
    obtain ⟨z0, z1, z2, z3, z4, z5, z6, z7, z8, z9, za, zb⟩ := HP.out.ac
    go_wp2_with fail
    generalize w3.alloc (.cells #[.slice v.t.o v.t.n v.t.c, .slice v.f.o v.f.n v.f.c] 25) = W3 at HP HY HV p0 p1 pf z0 z1 z2 z3 z4 z5 z6 z7 z8 z9 za zb ⊢
    generalize w3.heap.size = b6 at HV ⊢
    refine (model_any x a z _ HS HRB HP.out.bo.has).mono ?_
    rintro e w4 ⟨u, rfl, hu, _, b4⟩
    replace HP := hid ((HP.out.below b4).below (alloc_below _ (.cells #[.slice u.t.o u.t.n u.t.c, .slice u.f.o u.f.n u.f.c] 25)))
    replace HY := hid ((HY.out.below b4).below (alloc_below _ (.cells #[.slice u.t.o u.t.n u.t.c, .slice u.f.o u.f.n u.f.c] 25)))
    replace HV := hid ((HV.out.below b4).below (alloc_below _ (.cells #[.slice u.t.o u.t.n u.t.c, .slice u.f.o u.f.n u.f.c] 25)))
    have HU := hid (ba_new hu)
    clear b4 hu p0 p1 pf z0 z1 z2 z3 z4 z5 z6 z7 z8 z9 za zb
    obtain ⟨p0, p1, pf⟩ := HV.out.inA
    obtain ⟨q0, q1, qf⟩ := HU.out.inA
    go_wp2_with fail
    generalize w4.alloc (.cells #[.slice u.t.o u.t.n u.t.c, .slice u.f.o u.f.n u.f.c] 25) = W4 at HP HY HV HU p0 p1 pf q0 q1 qf ⊢
    generalize w4.heap.size = b9 at HU q0 q1 qf ⊢
    refine (rsame_yes v u (doA a z) _ (do_sm z HS.out) HV.out.has HU.out.has).mono ?_
    rintro e w5 ⟨rfl, b5'⟩
    replace HP := hid (HP.out.below b5')
    replace HY := hid (HY.out.below b5')
    clear b5' p0 p1 pf q0 q1 qf HV HU
    obtain ⟨p0, p1, pf⟩ := HY.out.inA
    obtain ⟨q0, q1, qf⟩ := HP.out.bo.inA
    go_wp2_with fail
    refine (rsame_yes y x a _ HS HY.out.has HP.out.bo.has).mono ?_
    rintro e w6 ⟨rfl, b6'⟩
    replace HP := hid (HP.out.below b6')
    clear b6' p0 p1 pf q0 q1 qf HY
    go_wp2_with fail
    refine (live_fin HP.out.low).mono ?_
    rintro e w7 ⟨rfl, b7⟩
    have HL := hid b7
    clear b7
    go_wp2_with fail
    go_ret
    exact ⟨rfl, HL.out⟩
end Go.Proofs.Ytnagpedkmfmniaa.Ar
