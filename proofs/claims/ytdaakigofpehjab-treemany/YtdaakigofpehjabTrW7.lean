/- What the program's Below does. -/
import Derived.Test.YtdaakigofpehjabTrW6
namespace Go.Proofs.Ytdaakigofpehjab.Tr
open Go.RowKit Go.Shelf
attribute [local go_sem] Oper.semAt_some

theorem own_block {w : World} {B n size : Nat} {e : TypeId} {v : Value} {cs : List Value} (h : w.ownsRow B e size v n cs) {i : Nat} (hi : v.ownBlock = some i) : B ≤ i ∧ ∃ o : Obj, w.heap[i]? = some o ∧ o.isCells = true := by
  rcases h.2 with ⟨rfl, _⟩ | ⟨g, cap, cur, rfl, hb, hg, _⟩
  · cases hi
  · simp only [Value.ownBlock, Option.some.injEq] at hi
    subst hi
    exact ⟨hb, _, hg, rfl⟩
theorem own_shape {w : World} {B n size : Nat} {e : TypeId} {v : Value} {cs : List Value} (h : w.ownsRow B e size v n cs) : ∃ ao' cap', v = .slice ao' n cap' := by
  rcases h.2 with ⟨rfl, rfl⟩ | ⟨g, cap, cur, rfl, _⟩
  · exact ⟨_, _, rfl⟩
  · exact ⟨_, _, rfl⟩
theorem mineP_grown {E : TypeId} {W W' : World} {B n cap : Nat} {ao : Option Addr} {l : List P} {row : Option Nat} (h : MineP E W B ao n cap l) (hg : W.grownBy W' row) (hr : ∀ r, row = some r → ∃ o : Obj, W.heap[r]? = some o ∧ o.isCells = false) : MineP E W' B ao n cap l :=
  ⟨h.1, own_kept h.2 (kept_grown hg) (fun i e e2 => by
    obtain ⟨_, o, ho, hc⟩ := own_block h.2 e
    obtain ⟨o', ho', hc'⟩ := hr i e2.symm
    rw [ho] at ho'
    cases ho'
    rw [hc] at hc'
    cases hc')⟩
theorem keeps_own {w w1 : World} {B n size : Nat} {e : TypeId} {v : Value} {cs : List Value} (h : w.ownsRow B e size v n cs) (hg : w.grownBy w1 v.ownBlock) : KeepsOthers w w1 :=
  ⟨hg.size, fun k o hk ho => (hg.block k (Array.getElem?_eq_some_iff.1 hk).1 (fun e2 => by
    obtain ⟨_, o', ho', hc⟩ := own_block h e2.symm
    rw [hk] at ho'
    cases ho'
    rw [ho] at hc
    cases hc)).trans hk⟩
theorem B1.low {w w' : World} {b N : Nat} {v : Value} (h : B1 w b v) (q : Below N w w') (hb : b < N) : B1 w' b v :=
  ⟨(q.cell (p := ⟨b, 0, none⟩) hb).trans h.c, (q.frozen (p := ⟨b, 0, none⟩) hb).trans h.f⟩
set_option maxRecDepth 100000 in
set_option maxHeartbeats 2000000 in
theorem bl_any (ao : Option Addr) (n cap : Nat) (t : List Br) (k : P) (w : World) (hs : n ≤ 1000) (HH : Hid (HasB w ao n cap t)) :
    Calls Try.prog 8 #[.slice ao n cap, (.agg #[.int .i64 k.1, .int .i64 k.2])] w fun e w' => ∃ xo xn xc, e = .returned (.slice xo xn xc) ∧ HasP w' xo xn xc (blL t k) ∧ Below w.heap.size w w' := by
  refine (callsIn_wide (n := 5)).1 ?_
  refine callsIn_of_wp_marks Try.func8 rfl trivial ?_ rfl
  simp only [Try.ntmps8, List.size_toArray, List.length_cons, List.length_nil, Nat.reduceAdd, Nat.reduceSub, Array.replicate_succ, Array.replicate_zero, List.push_toArray, List.append_toArray, List.nil_append, List.cons_append]
  gi_wp2_with (refine ⟨trivial, ?_⟩; gi_at_call 22; refine (callsIn_wide.2 (below_any ao n cap k _)).mono ?_; rintro e w' ⟨rfl, rfl⟩)
  obtain ⟨W0, hW0⟩ : ∃ W0, (((w.alloc (.cells #[.int .i64 k.1, .int .i64 k.2] 24)).alloc (.cells #[.slice none 0 0] 30)).alloc (.cells #[.slice ao n cap] 26)).alloc (.cells #[.int .i64 k.1, .int .i64 k.2] 24) = W0 := ⟨_, rfl⟩
  obtain ⟨hsz, hb0, hr0, hT, hK⟩ := four w k k _ _ ao n cap W0 hW0
  rw [hW0]
  clear hW0
  refine wpIn_rangeFunc_ownH (n := 5) rfl (by decide) (gf := 35) (lb := #[.pointer (some ⟨w.heap.size + 1 + 1, 0, none⟩), .pointer (some ⟨w.heap.size + 1 + 1 + 1, 0, none⟩)]) rfl trivial (enters_of Try.func35 (by kernel_rfl) rfl)
    (below_stops 4 (by decide) (w.heap.size + 1 + 1) (w.heap.size + 1 + 1 + 1) ao n cap t k w W0 hs HH.out hb0 hT hK) kb_t (kb_b (by omega)) (Below.refl _ _) (fun _ => rfl)
    (fun pre W => (∃ lo lc, B1 W (w.heap.size + 1) (.slice lo pre.length lc) ∧ MineP 24 W (w.heap.size + 4) lo pre.length lc pre) ∧ Below w.heap.size w W)
    (fun _ _ _ => False)
    (OwnFrom.and (Own.from (fun s A B row hs hg hr => by obtain ⟨lo, lc, h1, h2⟩ := hs; exact ⟨lo, lc, own_b1 (β := Unit) _ _ () A B row h1 hg hr, mineP_grown h2 hg hr⟩) _) (ownFrom_below (Nat.le_refl _) (by omega)))
    (fun _ _ _ _ _ hs _ _ => hs)
    ⟨⟨none, 0, hr0, mineP_nil _ _ _⟩, hb0⟩
    (fun x a' W => ∃ Bx : Nat, AtP W ⟨Bx, 0, none⟩ x ∧ a' = { tmps := #[.slice ao n cap, (.agg #[.int .i64 k.1, .int .i64 k.2]), undef, .pointer (some ⟨w.heap.size, 0, none⟩), .slice none 0 0, .pointer (some ⟨w.heap.size + 1, 0, none⟩), .pointer (some ⟨Bx, 0, none⟩), .slice ao n cap, (.agg #[.int .i64 k.1, .int .i64 k.2]), .func (.func 35) #[] #[.pointer (some ⟨w.heap.size + 1 + 1, 0, none⟩), .pointer (some ⟨w.heap.size + 1 + 1 + 1, 0, none⟩)], (.agg #[.int .i64 x.1, .int .i64 x.2]), undef, undef, undef, undef, undef], defers := [] })
    (fun x a' => Own.from (fun s A B row hs hg hr => by obtain ⟨Bx, h2, h3⟩ := hs; exact ⟨Bx, atP_grown h2 hg hr, h3⟩) _) ?assign ?body ?done ?stop
  case assign =>
    rintro l pre x W K ⟨⟨lo, lc, h1, h2⟩, hB⟩ hK
    have hsW := hB.size
    gi_wp2
    exact hK _ _ ((keeps_below (alloc_below _ _)).from _) (kb_below hsW (alloc_below _ _)) ⟨⟨lo, lc, h1.below (alloc_below _ _), h2.below (alloc_below _ _)⟩, q_alloc hB _⟩ ⟨W.heap.size, at_new W x 24, rfl⟩
  case body =>
    rintro l pre x a' W hl ⟨r, hr⟩ ⟨⟨lo, lc, h1, h2⟩, hB⟩ ⟨Bx, hA, rfl⟩ hlen
    have HWs : Hid (w.heap.size + 4 ≤ W.heap.size) := by have := (Array.getElem?_eq_some_iff.1 hr).1; unfold Hid; omega
    have c := h1.c
    have H1 := hid h1
    have H2 := hid h2
    have HB := hid hB
    obtain ⟨x0, x1⟩ := hA
    obtain ⟨i0, hi, hz0, hz1, hz2⟩ := info_of infoK
    have HL := hid hlen
    clear h1 h2 hB hl hr hlen
    gi_wp2_with (gi_at_builtin; refine wpListIn_append_own _ rfl _ _ 30 rfl (w.heap.size + 4) 24 i0 _ 2 16 Try.underlying30 hi hz0 hz1 hz2 rfl (by decide) _ _ _ rfl (H2.out.2.alloc _) ⟨W.heap.size, 0, none⟩ 1 1 (prs [x]) rfl rfl (fun j u hu => by obtain ⟨a', e, h⟩ := (one_pair W x 24).cell j u hu; cases e; exact h) (prs_one _) (by have := HL.out; unfold maxLen; omega) (by have := HL.out; omega) (by have := HWs.out; simp; omega) ?_; intro v' w2 hown' hgrow _; apply Hid.out)
    obtain ⟨g', cap', rfl⟩ := own_shape hown'
    have M2 := MineP.append (H2.out.below (alloc_below W (.cells #[.int .i64 x.1, .int .i64 x.2] 24))) (by have := HWs.out; simp; omega) (k := [x]) rfl hown' hgrow
    have R2 := (H1.out.below (alloc_below W (.cells #[.int .i64 x.1, .int .i64 x.2] 24))).low M2.2 (by omega)
    have hc1 := R2.c
    have hf1 := R2.f
    have HK2 := hid (((keeps_below (alloc_below W (.cells #[.int .i64 x.1, .int .i64 x.2] 24))).trans (keeps_own (H2.out.2.alloc _) hgrow)))
    have HM2 := hid M2
    have HR2 := hid R2
    clear M2 R2 hown' hgrow
    unfold Hid
    gi_wp2
    have hlow : Below w.heap.size W w2 := ((alloc_below W _).mono HB.out.size).trans (HM2.out.2.mono (by omega))
    refine ⟨(HK2.out.trans (KeepsOthers.setCell _ _ _)).from _, ⟨hlow.setCell (p := ⟨w.heap.size + 1, 0, none⟩) (Nat.le_succ _) _, fun v hv => ?_⟩, ⟨g', cap', ?_, ?_⟩, (HB.out.trans hlow).setCell (p := ⟨w.heap.size + 1, 0, none⟩) (Nat.le_succ _) _⟩
    · rw [World.cell?_setCell_other _ _ _ _ (far0 (.inl (by omega))), HM2.out.2.cell (p := ⟨w.heap.size + 1 + 1, 0, none⟩) (by simp)]
      exact ((alloc_below W _).cell (World.block_lt_of_cell? W _ hv)).trans hv
    · rw [List.length_append]
      exact b1_put HR2.out _
    · rw [List.length_append]
      refine ⟨by simp, own_kept HM2.out.1.2 (kept_set (fun i => i = w.heap.size + 1) _ _ _ rfl) (fun i e e2 => by
        have := (own_block HM2.out.1.2 e).1
        omega)⟩
  case done =>
    rintro D ys W hD rfl ⟨⟨lo, lc, h1, h2⟩, hB⟩ hK
    have c := h1.c
    gi_wp2
    refine ⟨by simp, .inl ⟨_, _, rfl, run_takeDeferred hK, ?_⟩⟩
    refine ⟨_, results_tmp rfl _ _ _, lo, _, lc, rfl, ?_, hB.trans (belowK_b (w := w) (Nat.le_refl _) W D _ _ (by omega) hK rfl rfl)⟩
    exact (mineP_grown h2 (grownBy_putObj' _ D (.deferred none)) (fun r e => by cases e; exact ⟨_, hK, rfl⟩)).has
  case stop =>
    rintro D c pre W _ _ h _
    exact h.elim
end Go.Proofs.Ytdaakigofpehjab.Tr
