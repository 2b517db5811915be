/- What does does: one step of one grab on cells. -/
import Derived.Test.YtaihabkacjbfjaaGrW5
import Derived.Deep.Cut
namespace Go.Proofs.Ytaihabkacjbfjaa.Gr
open Go.RowKit Go.Proofs.Ytaihabkacjbfjaa.Ce

/-- The cells behind a grab's step. -/
def doS (g : G) (s : S) : S := if g.p = 2 then s else if hasN g then s.step (nxO g) else s
theorem doS_vs (g : G) (s : S) : (doS g s).vs = doV g s.vs := by
  unfold doS doV
  split
  · rfl
  · split
    · exact S.step_vs _ _
    · rfl
theorem step_n (s : S) (o : O) : (s.step o).n ≤ s.n + 1 := by
  unfold S.step
  split
  · simp
  · simp
theorem doS_n (g : G) (s : S) : (doS g s).n ≤ s.n + 1 := by
  unfold doS
  split
  · omega
  · split
    · exact step_n _ _
    · omega
/-- What does leaves: the grab, the cells. -/
structure Dn (w w' : World) (B p gb vcap : Nat) (tao tao' : Option Addr) (tcap' : Nat) (s' : S) (ao ao' : Option Addr) (n cap' : Nat) (l : List Int) : Prop where
  cel : Cel w' B p gb vcap tao' tcap' s'
  has : Has w' ao' n cap' l
  new : ∀ x, ao' = some x → ao = some x ∨ w.heap.size ≤ x.block
  kept : Kept (foot p gb tao) w w'
  moved : Moved w tao tao'
  off : Off (foot p gb tao') ao' (vals l)
section
variable {B p gb vcap : Nat} {tao : Option Addr} {tcap : Nat} {s : S} {w : World}
theorem moved_same (tao : Option Addr) : Moved w tao tao := fun a e => .inl ⟨a, e, rfl⟩
theorem moved_from {W : World} {tao' : Option Addr} (h : Moved W tao tao') (hs : w.heap.size ≤ W.heap.size) : Moved w tao tao' := by
  intro a e
  rcases h a e with h | h
  · exact .inl h
  · exact .inr (Nat.le_trans hs h)
set_option maxRecDepth 100000 in
set_option maxHeartbeats 1000000 in
theorem does_have (who a t : Int) (bb : Bool) (ao : Option Addr) (n cap : Nat) (l : List Int) (HC : Hid (Cel w B p gb vcap tao tcap s)) (H : Hid (Has w ao n cap l)) (hn : Hid (n ≤ 5000)) :
    Calls Try.prog 25 #[.pointer (some ⟨p, 0, none⟩), .agg #[.int .i64 who, .slice ao n cap, .int .i64 2, .int .i64 a, .int .i64 t, .bool bb]] w fun e w' => ∃ ao' cap', e = .returned (.agg #[.int .i64 (freeG ⟨who, l, 2, a, t, bb⟩).w, .slice ao' n cap', .int .i64 (freeG ⟨who, l, 2, a, t, bb⟩).p, .int .i64 (freeG ⟨who, l, 2, a, t, bb⟩).a, .int .i64 (freeG ⟨who, l, 2, a, t, bb⟩).t, .bool (freeG ⟨who, l, 2, a, t, bb⟩).b]) ∧ ∃ tao' tcap', Dn w w' B p gb vcap tao tao' tcap' s ao ao' n cap' l := by
  have CF := hid (fun W H => free_any ⟨who, l, 2, a, t, bb⟩ ao n cap W H hn.out)
  generalize hg : freeG ⟨who, l, 2, a, t, bb⟩ = g at CF
  clear hg
  go_enter Try.func25, Try.ntmps25
  go_wp2_with fail
  refine (CF.out _ ((H.out.below (alloc_below w _)).below (alloc_below _ _))).mono ?_
  rintro e w2 ⟨ao', cap', rfl, hm, b2⟩
  obtain ⟨h1, h2⟩ := two_new w who (.slice ao n cap) 2 a t bb
  have HM : Hid (Mine w2 (w.heap.size + 2) ao' n cap' l) := by
    simp at hm
    exact hm
  have HB := hid (q_trans (q_alloc (alloc_below w _) _) b2)
  obtain ⟨r0, r1, r2, r3, r4, r5, rf⟩ := h2.below b2
  clear b2 hm h1 h2
  go_wp2_with fail
  refine bodyPost_ret (v := (.agg #[.int .i64 g.w, .slice ao' n cap', .int .i64 g.p, .int .i64 g.a, .int .i64 g.t, .bool g.b])) (by simp [results, Try.results25, go_sem, r0, r1, r2, r3, r4, r5]) rfl ⟨ao', cap', rfl, tao, tcap, ?_⟩
  have k := kept_store w2 (w.heap.size + 1) g.w (.slice ao' n cap') g.p g.a g.t g.b
  have hq := HB.out.trans (k.below w.heap.size HB.out.size (fun i e => by omega))
  exact ⟨HC.out.below hq, (HM.out.kept k (fun i h e => by omega) (Nat.le_refl _)).has, fun x e => .inr (by have := HM.out.new x e; omega), kept_below hq, moved_same tao, fun _ x e hf => by have := HM.out.new x e; have := (HC.out.lt _ hf).2; omega⟩
set_option maxRecDepth 100000 in
set_option maxHeartbeats 1000000 in
theorem does_none (who ph a t : Int) (bb : Bool) (ao : Option Addr) (n cap : Nat) (l : List Int) (HC : Hid (Cel w B p gb vcap tao tcap s)) (H : Hid (Has w ao n cap l)) (HF : Hid (Off (foot p gb tao) ao (vals l))) (hn : Hid (n ≤ 5000)) (ha : Hid (-5 ≤ a ∧ a ≤ 1000000)) (h2 : (ph == 2) = false) (hN : Hid (hasN ⟨who, l, ph, a, t, bb⟩ = false)) :
    Calls Try.prog 25 #[.pointer (some ⟨p, 0, none⟩), .agg #[.int .i64 who, .slice ao n cap, .int .i64 ph, .int .i64 a, .int .i64 t, .bool bb]] w fun e w' => ∃ ao' cap', e = .returned (.agg #[.int .i64 who, .slice ao' n cap', .int .i64 ph, .int .i64 a, .int .i64 t, .bool bb]) ∧ ∃ tao' tcap', Dn w w' B p gb vcap tao tao' tcap' s ao ao' n cap' l := by
  go_enter Try.func25, Try.ntmps25
  go_wp2_with fail
  refine (next_any ⟨who, l, ph, a, t, bb⟩ ao n cap _ ((H.out.below (alloc_below w _)).below (alloc_below _ _)) hn.out ha.out).mono ?_
  rintro e w2 ⟨rfl, b2⟩
  rw [hN.out]
  obtain ⟨h1, h3⟩ := two_new w who (.slice ao n cap) ph a t bb
  have n1 : w.heap.size + 1 < w2.heap.size := (h3.below b2).lt
  have m1 : w.heap.size < w2.heap.size := (h1.below b2).lt
  obtain ⟨c0, c1, c2, c3, c4, c5, cf⟩ := h1.below b2
  obtain ⟨r0, r1, r2, r3, r4, r5, rf⟩ := h3.below b2
  have HB := hid (q_trans (q_alloc (alloc_below w _) _) b2)
  clear b2 h1 h3
  go_wp2_with fail
  refine bodyPost_ret (v := .agg #[.int .i64 who, .slice ao n cap, .int .i64 ph, .int .i64 a, .int .i64 t, .bool bb]) (by simp [results, Try.results25, go_sem, r0, r1, r2, r3, r4, r5, n1]) rfl ⟨ao, cap, rfl, tao, tcap, ?_⟩
  have k := (kept_store w2 (w.heap.size + 1) who (.slice ao n cap) ph a t bb).alloc (.cells #[.int .i64 (nxO ⟨who, l, ph, a, t, bb⟩).k, .int .i64 (nxO ⟨who, l, ph, a, t, bb⟩).c, .int .i64 (nxO ⟨who, l, ph, a, t, bb⟩).a, .int .i64 (nxO ⟨who, l, ph, a, t, bb⟩).v, .int .i64 (nxO ⟨who, l, ph, a, t, bb⟩).w] 35)
  have hq := HB.out.trans (k.below w.heap.size HB.out.size (fun i e => by omega))
  exact ⟨HC.out.below hq, H.out.below hq, fun x e => .inl e, kept_below hq, moved_same tao, HF.out⟩
set_option maxRecDepth 100000 in
set_option maxHeartbeats 1000000 in
theorem does_step (who ph a t : Int) (bb : Bool) (ao : Option Addr) (n cap : Nat) (l : List Int) (HC : Hid (Cel w B p gb vcap tao tcap s)) (H : Hid (Has w ao n cap l)) (HF : Hid (Off (foot p gb tao) ao (vals l))) (hn : Hid (n ≤ 5000)) (hs : Hid (s.n ≤ 50000)) (ha : Hid (-5 ≤ a ∧ a ≤ 1000000)) (ht : Hid (0 ≤ t ∧ t ≤ 1000000)) (h2 : (ph == 2) = false) (hN : Hid (hasN ⟨who, l, ph, a, t, bb⟩ = true)) :
    Calls Try.prog 25 #[.pointer (some ⟨p, 0, none⟩), .agg #[.int .i64 who, .slice ao n cap, .int .i64 ph, .int .i64 a, .int .i64 t, .bool bb]] w fun e w' => ∃ ao' cap', e = .returned (.agg #[.int .i64 (takeG ⟨who, l, ph, a, t, bb⟩ (apR s.vs (nxO ⟨who, l, ph, a, t, bb⟩)).ok).w, .slice ao' n cap', .int .i64 (takeG ⟨who, l, ph, a, t, bb⟩ (apR s.vs (nxO ⟨who, l, ph, a, t, bb⟩)).ok).p, .int .i64 (takeG ⟨who, l, ph, a, t, bb⟩ (apR s.vs (nxO ⟨who, l, ph, a, t, bb⟩)).ok).a, .int .i64 (takeG ⟨who, l, ph, a, t, bb⟩ (apR s.vs (nxO ⟨who, l, ph, a, t, bb⟩)).ok).t, .bool (takeG ⟨who, l, ph, a, t, bb⟩ (apR s.vs (nxO ⟨who, l, ph, a, t, bb⟩)).ok).b]) ∧ ∃ tao' tcap', Dn w w' B p gb vcap tao tao' tcap' (s.step (nxO ⟨who, l, ph, a, t, bb⟩)) ao ao' n cap' l := by
  have CN := hid (fun W H => next_any ⟨who, l, ph, a, t, bb⟩ ao n cap W H hn.out ha.out)
  have CT := hid (fun ok W H => take_any ⟨who, l, ph, a, t, bb⟩ ok ao n cap W H hn.out ha.out ht.out)
  rw [hN.out] at CN
  generalize nxO ⟨who, l, ph, a, t, bb⟩ = o at CN ⊢
  have CD := hid (fun W (h : Cel W B p gb vcap tao tcap s) => do_any h o hs.out)
  generalize hr : apR s.vs o = r at CD ⊢
  generalize hE : chk o s.vs.length = E at CD
  have CT' := hid (CT.out r.ok)
  generalize takeG ⟨who, l, ph, a, t, bb⟩ r.ok = g1 at CT' ⊢
  clear hr hE CT
  have HL := hid HC.out.lt
  go_enter Try.func25, Try.ntmps25
  go_wp2_with fail
  refine (CN.out _ ((H.out.below (alloc_below w _)).below (alloc_below _ _))).mono ?_
  rintro e w2 ⟨rfl, b2⟩
  obtain ⟨h1, h3⟩ := two_new w who (.slice ao n cap) ph a t bb
  have HI := hid (h1.below b2)
  have HR := hid (h3.below b2)
  have HB := hid (q_trans (q_alloc (alloc_below w _) _) b2)
  clear b2 h1 h3 CN
  go_wp2_with fail
  refine (CD.out _ ((HC.out.below HB.out).below (alloc_below _ _))).mono ?_
  rintro e w3 ⟨rfl, tao', tcap', hc3, k3, mv3⟩
  have HB2 := hid (q_alloc HB.out (.cells #[.int .i64 o.k, .int .i64 o.c, .int .i64 o.a, .int .i64 o.v, .int .i64 o.w] 35))
  have HK3 := hid (Kept.trans (kept_below (S := foot p gb tao) HB2.out) k3 (fun _ _ e => e))
  have NF : Hid (∀ i, w.heap.size ≤ i → ¬ foot p gb tao i) := fun i h e => by have := (HL.out i e).2; omega
  have HI3 := hid ((HI.out.below (alloc_below _ _)).kept k3 (NF.out _ (Nat.le_refl _)))
  have HR3 := hid ((HR.out.below (alloc_below _ _)).kept k3 (NF.out _ (by omega)))
  have HH3 := hid (H.out.kept HK3.out HF.out)
  have HC3 := hid hc3
  have HM3 := hid (moved_from mv3 HB2.out.size)
  have HMS : Hid (∀ x, tao' = some x → x.block ≠ w.heap.size + 1) := fun x e e2 => by
    have hlt := (HR.out.below (alloc_below w2 (.cells #[.int .i64 o.k, .int .i64 o.c, .int .i64 o.a, .int .i64 o.v, .int .i64 o.w] 35))).lt
    rcases mv3 x e with ⟨y, e3, e4⟩ | h
    · have := (HL.out y.block (.inr (.inr ⟨y, e3, rfl⟩))).2
      omega
    · omega
  clear hc3 k3 mv3 HI HR CD HB
  obtain ⟨c0, c1, c2, c3, c4, c5, cf⟩ := HI3.out
  go_wp2_with fail
  clear c0 c1 c2 c3 c4 c5 cf
  refine (CT'.out _ HH3.out).mono ?_
  rintro e w4 ⟨ao4, cap4, rfl, m4, b4⟩
  obtain ⟨r0, r1, r2, r3, r4, r5, rf⟩ := HR3.out.below b4
  have HM4 := hid m4
  have HB4 := hid b4
  have HL4 : Hid (w.heap.size + 1 < w3.heap.size) := HR3.out.lt
  clear m4 b4
  go_wp2_with fail
  refine bodyPost_ret (v := (.agg #[.int .i64 g1.w, .slice ao4 n cap4, .int .i64 g1.p, .int .i64 g1.a, .int .i64 g1.t, .bool g1.b])) (by simp [results, Try.results25, go_sem, r0, r1, r2, r3, r4, r5]) rfl ⟨ao4, cap4, rfl, tao', tcap', ?_⟩
  have k := kept_store w4 (w.heap.size + 1) g1.w (.slice ao4 n cap4) g1.p g1.a g1.t g1.b
  have HF3 := HC3.out.lt
  refine ⟨(HC3.out.below HB4.out).kept k (fun i e e2 => ?_), (HM4.out.kept k (fun i h e => by have := HL4.out; omega) (Nat.le_refl _)).has, fun x e => .inr (by have := HM4.out.new x e; have := HK3.out.size; omega), ?_, HM3.out, fun _ x e hf => by have := HM4.out.new x e; have := (HF3 _ hf).2; omega⟩
  · subst e2
    rcases e with e | e | ⟨x, e, e2⟩
    · have := (HL.out p (.inl rfl)).2; omega
    · have := (HL.out gb (.inr (.inl rfl))).2; omega
    · exact HMS.out x e e2
  · exact (HK3.out.then HB4.out).trans (S' := fun k => k = w.heap.size + 1) k (fun i hi e => by omega)
/-- ONE DOES A STEP. -/
theorem does_any (g : G) (ao : Option Addr) (n cap : Nat) (HC : Cel w B p gb vcap tao tcap s) (H : Has w ao n cap g.cs) (HF : Off (foot p gb tao) ao (vals g.cs)) (hn : n ≤ 5000) (hs : s.n ≤ 50000) (ha : -5 ≤ g.a ∧ g.a ≤ 1000000) (ht : 0 ≤ g.t ∧ g.t ≤ 1000000) :
    Calls Try.prog 25 #[.pointer (some ⟨p, 0, none⟩), (.agg #[.int .i64 g.w, .slice ao n cap, .int .i64 g.p, .int .i64 g.a, .int .i64 g.t, .bool g.b])] w fun e w' => ∃ ao' cap', e = .returned (.agg #[.int .i64 (doG g s.vs).w, .slice ao' n cap', .int .i64 (doG g s.vs).p, .int .i64 (doG g s.vs).a, .int .i64 (doG g s.vs).t, .bool (doG g s.vs).b]) ∧ ∃ tao' tcap', Dn w w' B p gb vcap tao tao' tcap' (doS g s) ao ao' n cap' g.cs := by
  obtain ⟨who, l, ph, a, t, bb⟩ := g
  unfold doG doS
  simp only at ha ht H HF ⊢
  by_cases h2 : ph = 2
  · subst h2
    rw [if_pos rfl, if_pos rfl]
    exact does_have who a t bb ao n cap l HC H hn
  · rw [if_neg h2, if_neg h2]
    cases hN : hasN ⟨who, l, ph, a, t, bb⟩ with
    | true => exact does_step who ph a t bb ao n cap l HC H HF hn hs ha ht (by simpa using h2) hN
    | false => exact does_none who ph a t bb ao n cap l HC H HF hn ha (by simpa using h2) hN
end
end Go.Proofs.Ytaihabkacjbfjaa.Gr
