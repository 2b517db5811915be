/- What the program's below, leaf, Descends do. -/
import Derived.Test.YtcldnacpddebcaaTrW5
namespace Go.Proofs.Ytcldnacpddebcaa.Tr
open Go.RowKit Go.Shelf
attribute [local go_sem] Oper.semAt_some

set_option maxHeartbeats 400000 in
theorem below_any (ao : Option Addr) (n cap : Nat) (k : P) (w : World) :
    Calls Try.prog 55 #[.slice ao n cap, (.agg #[.int .i64 k.1, .int .i64 k.2])] w fun e w' => e = .returned (.func (.func 66) #[] #[.pointer (some ⟨w.heap.size, 0, none⟩), .pointer (some ⟨w.heap.size + 1, 0, none⟩)]) ∧ w' = (w.alloc (.cells #[.slice ao n cap] 51)).alloc (.cells #[.int .i64 k.1, .int .i64 k.2] 27) := by
  go_enter Try.func55, Try.ntmps55
  go_wp2
  go_ret
  exact ⟨by simp, rfl⟩
theorem below_stops (n : Nat) (hn : 1 ≤ n) (Bt Bk : Nat) (ao : Option Addr) (m cap : Nat) (t : List Br) (k : P) (w0 Wb : World) (hm : m ≤ 1000) (hH : HasB w0 ao m cap t) (hB : Below w0.heap.size w0 Wb) (hT : Wb.cell? ⟨Bt, 0, none⟩ = some (.slice ao m cap)) (hK : AtP Wb ⟨Bk, 0, none⟩ k) :
    SeqStopsK Fence.wide n Try.prog 66 #[.pointer (some ⟨Bt, 0, none⟩), .pointer (some ⟨Bk, 0, none⟩)] (fun x : P => #[(.agg #[.int .i64 x.1, .int .i64 x.2])]) (KB w0.heap.size Bt) (fun ys => ys = blL t k) (fun pre => pre <+: blL t k) 1000 Wb := fun l J Jx W hW hJ _ hY h0 =>
  below1_in n hn l Bt Bk ao m cap t k w0 hm hH J Jx (fun _ _ _ hs hb => abide hJ hs hb) hY W (q_trans hB hW) ((hW.cell (World.block_lt_of_cell? Wb _ hT)).trans hT) (hK.below hW) h0
theorem own_b1 {β : Type} (b : Nat) (v : Value) : Own (fun (_ : β) W => B1 W b v) := fun _ _ _ _ hs hg hr => ⟨cell_kept hs.c hg hr, (frozen_kept hs.c hg hr).trans hs.f⟩
theorem atP_grown {W W' : World} {row : Option Nat} {a : Addr} {k : P} (h : AtP W a k) (hg : W.grownBy W' row) (hr : ∀ r, row = some r → ∃ o : Obj, W.heap[r]? = some o ∧ o.isCells = false) : AtP W' a k := ⟨cell_kept h.c0 hg hr, cell_kept h.c1 hg hr⟩
theorem AtP.other {w : World} {b c j : Nat} {k : P} (h : AtP w ⟨b, 0, none⟩ k) (u : Value) (hne : b ≠ c) : AtP (w.setCell ⟨c, j, none⟩ u) ⟨b, 0, none⟩ k :=
  ⟨(World.cell?_setCell_other _ _ _ _ (far0 (.inl (Ne.symm hne)))).trans h.c0, (World.cell?_setCell_other _ _ _ _ (far0 (.inl (Ne.symm hne)))).trans h.c1⟩
/-- The four blocks ahead of a range over below. -/
theorem four (w : World) (k k2 : P) (v : Value) (T : TypeId) (ao : Option Addr) (n cap : Nat) (W0 : World) (h : (((w.alloc (.cells #[.int .i64 k.1, .int .i64 k.2] 27)).alloc (.cells #[v] T)).alloc (.cells #[.slice ao n cap] 51)).alloc (.cells #[.int .i64 k2.1, .int .i64 k2.2] 27) = W0) :
    W0.heap.size = w.heap.size + 4 ∧ Below w.heap.size w W0 ∧ B1 W0 (w.heap.size + 1) v ∧ W0.cell? ⟨w.heap.size + 1 + 1, 0, none⟩ = some (.slice ao n cap) ∧ AtP W0 ⟨w.heap.size + 1 + 1 + 1, 0, none⟩ k2 := by
  subst h
  refine ⟨by simp, q_alloc (q_alloc (q_alloc (alloc_below w _) _) _) _, ?_, ?_, ?_⟩
  · have := b1_new (w.alloc (.cells #[.int .i64 k.1, .int .i64 k.2] 27)) v T
    rw [World.size_alloc] at this
    exact (this.below (alloc_below _ _)).below (alloc_below _ _)
  · have := b1_new ((w.alloc (.cells #[.int .i64 k.1, .int .i64 k.2] 27)).alloc (.cells #[v] T)) (.slice ao n cap) 51
    simp only [World.size_alloc] at this
    exact (this.below (alloc_below _ _)).c
  · have := at_new (((w.alloc (.cells #[.int .i64 k.1, .int .i64 k.2] 27)).alloc (.cells #[v] T)).alloc (.cells #[.slice ao n cap] 51)) k2 27
    simp only [World.size_alloc] at this
    exact this
def lfE (t : List Br) (k : P) : Int := if (blL t k).length = 0 then 0 else 130
theorem lf_no {t : List Br} {k : P} (h : [] = blL t k) : lfE t k = 0 := by simp [lfE, ← h]
theorem lf_yes {t : List Br} {k : P} {pre : List P} (h : pre <+: blL t k) (hp : pre ≠ []) : lfE t k = 130 := by
  have h1 := h.length_le
  have h2 : pre.length ≠ 0 := fun e => hp (List.eq_nil_of_length_eq_zero e)
  rw [lfE, if_neg (by omega)]
set_option maxRecDepth 100000 in
set_option maxHeartbeats 2000000 in
theorem leaf_any (ao : Option Addr) (n cap : Nat) (t : List Br) (k : P) (w : World) (hs : n ≤ 1000) (HH : Hid (HasB w ao n cap t)) :
    Calls Try.prog 53 #[.slice ao n cap, (.agg #[.int .i64 k.1, .int .i64 k.2])] w fun e w' => e = .returned (.int .i64 (lfE t k)) ∧ Below w.heap.size w w' := by
  refine (callsIn_wide (n := 5)).1 ?_
  refine callsIn_of_wp_marks Try.func53 rfl trivial ?_ rfl
  simp only [Try.ntmps53, List.size_toArray, List.length_cons, List.length_nil, Nat.reduceAdd, Nat.reduceSub, Array.replicate_succ, Array.replicate_zero, List.push_toArray, List.append_toArray, List.nil_append, List.cons_append]
  gi_wp2_with (refine ⟨trivial, ?_⟩; gi_at_call 55; refine (callsIn_wide.2 (below_any ao n cap k _)).mono ?_; rintro e w' ⟨rfl, rfl⟩)
  obtain ⟨W0, hW0⟩ : ∃ W0, (((w.alloc (.cells #[.int .i64 k.1, .int .i64 k.2] 27)).alloc (.cells #[.int .i64 0] 32)).alloc (.cells #[.slice ao n cap] 51)).alloc (.cells #[.int .i64 k.1, .int .i64 k.2] 27) = W0 := ⟨_, rfl⟩
  obtain ⟨hsz, hb0, hr0, hT, hK⟩ := four w k k _ _ ao n cap W0 hW0
  rw [hW0]
  clear hW0
  refine wpIn_rangeFunc_ownF (n := 5) rfl (by decide) (gf := 66) (lb := #[.pointer (some ⟨w.heap.size + 1 + 1, 0, none⟩), .pointer (some ⟨w.heap.size + 1 + 1 + 1, 0, none⟩)]) rfl trivial (enters_of Try.func66 (by kernel_rfl) rfl)
    (below_stops 4 (by decide) (w.heap.size + 1 + 1) (w.heap.size + 1 + 1 + 1) ao n cap t k w W0 hs HH.out hb0 hT hK) kb_t (kb_b (by omega)) (Below.refl _ _) (fun _ => rfl)
    (fun pre W => (pre = [] ∧ B1 W (w.heap.size + 1) (.int .i64 0)) ∧ Below w.heap.size w W)
    (fun c pre W => (c = .ret ∧ pre ≠ [] ∧ B1 W (w.heap.size + 1) (.int .i64 130)) ∧ Below w.heap.size w W)
    (OwnFrom.and (Own.from (fun s A B row hs hg hr => ⟨hs.1, own_b1 (β := Unit) _ _ () A B row hs.2 hg hr⟩) _) (ownFrom_below (Nat.le_refl _) (by omega)))
    (fun c => OwnFrom.and (Own.from (fun s A B row hs hg hr => ⟨hs.1, hs.2.1, own_b1 (β := Unit) _ _ () A B row hs.2.2 hg hr⟩) _) (ownFrom_below (Nat.le_refl _) (by omega)))
    ⟨⟨rfl, hr0⟩, hb0⟩
    (fun x => { tmps := #[.slice ao n cap, (.agg #[.int .i64 k.1, .int .i64 k.2]), undef, .pointer (some ⟨w.heap.size, 0, none⟩), .pointer (some ⟨w.heap.size + 1, 0, none⟩), .slice ao n cap, (.agg #[.int .i64 k.1, .int .i64 k.2]), .func (.func 66) #[] #[.pointer (some ⟨w.heap.size + 1 + 1, 0, none⟩), .pointer (some ⟨w.heap.size + 1 + 1 + 1, 0, none⟩)], (.agg #[.int .i64 x.1, .int .i64 x.2])], defers := [] }) ?assign ?body ?done ?stop
  case assign =>
    intro l x W K hK
    gi_wp2
    simpa using hK
  case body =>
    rintro l pre x W ⟨⟨_, hr⟩, hB⟩ _
    have c := hr.c
    have f := hr.f
    gi_wp2
    exact ⟨KeepsOthers.setCell _ _ _, ⟨rfl, by simp, b1_put hr _⟩, hB.setCell (p := ⟨w.heap.size + 1, 0, none⟩) (Nat.le_succ _) _⟩
  case done =>
    rintro D ys W hD hS ⟨⟨rfl, hr⟩, hB⟩ hK
    have HE := hid (lf_no hS)
    have c := hr.c
    have f := hr.f
    clear hS
    gi_wp2
    have hK' := (KeepsOthers.setCell W ⟨w.heap.size + 1, 0, none⟩ (.int .i64 0)).same D _ hK rfl
    refine ⟨by simp, .inl ⟨_, _, rfl, run_takeDeferred hK', ?_⟩⟩
    have hc5 := cell_kept (b1_put hr (.int .i64 0)).c (grownBy_putObj' _ D (.deferred none)) (fun r e => by cases e; exact ⟨_, hK', rfl⟩)
    refine ⟨.int .i64 0, ?_, by rw [HE.out], (hB.setCell (p := ⟨w.heap.size + 1, 0, none⟩) (Nat.le_succ _) _).trans (belowK_b (w := w) (Nat.le_refl _) _ D _ _ (by omega) hK' rfl rfl)⟩
    simp [results, Try.f53, go_sem, hc5]
  case stop =>
    rintro D c pre W hD hS ⟨⟨rfl, hp, hr⟩, hB⟩ hK
    have HE := hid (lf_yes hS hp)
    gi_wp2
    refine ⟨by simp, .inl ⟨_, _, rfl, run_takeDeferred hK, ?_⟩⟩
    have hc5 := cell_kept hr.c (grownBy_putObj' _ D (.deferred none)) (fun r e => by cases e; exact ⟨_, hK, rfl⟩)
    refine ⟨.int .i64 130, ?_, by rw [HE.out], hB.trans (belowK_b (w := w) (Nat.le_refl _) _ D _ _ (by omega) hK rfl rfl)⟩
    simp [results, Try.f53, go_sem, hc5]
/-- The five blocks ahead of Descends' range. -/
theorem five (w : World) (a b : P) (ao : Option Addr) (n cap : Nat) (W0 : World) (h : ((((w.alloc (.cells #[.int .i64 a.1, .int .i64 a.2] 27)).alloc (.cells #[.int .i64 b.1, .int .i64 b.2] 27)).alloc (.cells #[.bool false] 4)).alloc (.cells #[.slice ao n cap] 51)).alloc (.cells #[.int .i64 b.1, .int .i64 b.2] 27) = W0) :
    W0.heap.size = w.heap.size + 5 ∧ Below w.heap.size w W0 ∧ AtP W0 ⟨w.heap.size, 0, none⟩ a ∧ B1 W0 (w.heap.size + 1 + 1) (.bool false) ∧ W0.cell? ⟨w.heap.size + 1 + 1 + 1, 0, none⟩ = some (.slice ao n cap) ∧ AtP W0 ⟨w.heap.size + 1 + 1 + 1 + 1, 0, none⟩ b := by
  subst h
  refine ⟨by simp, q_alloc (q_alloc (q_alloc (q_alloc (alloc_below w _) _) _) _) _, ?_, ?_, ?_, ?_⟩
  · exact ((((at_new w a 27).below (alloc_below _ _)).below (alloc_below _ _)).below (alloc_below _ _)).below (alloc_below _ _)
  · have := b1_new ((w.alloc (.cells #[.int .i64 a.1, .int .i64 a.2] 27)).alloc (.cells #[.int .i64 b.1, .int .i64 b.2] 27)) (.bool false) 4
    simp only [World.size_alloc] at this
    exact (this.below (alloc_below _ _)).below (alloc_below _ _)
  · have := b1_new (((w.alloc (.cells #[.int .i64 a.1, .int .i64 a.2] 27)).alloc (.cells #[.int .i64 b.1, .int .i64 b.2] 27)).alloc (.cells #[.bool false] 4)) (.slice ao n cap) 51
    simp only [World.size_alloc] at this
    exact (this.below (alloc_below _ _)).c
  · have := at_new ((((w.alloc (.cells #[.int .i64 a.1, .int .i64 a.2] 27)).alloc (.cells #[.int .i64 b.1, .int .i64 b.2] 27)).alloc (.cells #[.bool false] 4)).alloc (.cells #[.slice ao n cap] 51)) b 27
    simp only [World.size_alloc] at this
    exact this
set_option maxRecDepth 100000 in
set_option maxHeartbeats 2000000 in
theorem desc_any (ao : Option Addr) (n cap : Nat) (t : List Br) (a b : P) (w : World) (hs : n ≤ 1000) (HH : Hid (HasB w ao n cap t)) :
    Calls Try.prog 32 #[.slice ao n cap, (.agg #[.int .i64 a.1, .int .i64 a.2]), (.agg #[.int .i64 b.1, .int .i64 b.2])] w fun e w' => e = .returned (.bool (dsB t a b)) ∧ Below w.heap.size w w' := by
  refine (callsIn_wide (n := 5)).1 ?_
  refine callsIn_of_wp_marks Try.func32 rfl trivial ?_ rfl
  simp only [Try.ntmps32, List.size_toArray, List.length_cons, List.length_nil, Nat.reduceAdd, Nat.reduceSub, Array.replicate_succ, Array.replicate_zero, List.push_toArray, List.append_toArray, List.nil_append, List.cons_append]
  gi_wp2_with (refine ⟨trivial, ?_⟩; gi_at_call 55; refine (callsIn_wide.2 (below_any ao n cap b _)).mono ?_; rintro e w' ⟨rfl, rfl⟩)
  obtain ⟨W0, hW0⟩ : ∃ W0, ((((w.alloc (.cells #[.int .i64 a.1, .int .i64 a.2] 27)).alloc (.cells #[.int .i64 b.1, .int .i64 b.2] 27)).alloc (.cells #[.bool false] 4)).alloc (.cells #[.slice ao n cap] 51)).alloc (.cells #[.int .i64 b.1, .int .i64 b.2] 27) = W0 := ⟨_, rfl⟩
  obtain ⟨hsz, hb0, ha0, hr0, hT, hK⟩ := five w a b ao n cap W0 hW0
  rw [hW0]
  clear hW0
  refine wpIn_rangeFunc_ownH (n := 5) rfl (by decide) (gf := 66) (lb := #[.pointer (some ⟨w.heap.size + 1 + 1 + 1, 0, none⟩), .pointer (some ⟨w.heap.size + 1 + 1 + 1 + 1, 0, none⟩)]) rfl trivial (enters_of Try.func66 (by kernel_rfl) rfl)
    (below_stops 4 (by decide) (w.heap.size + 1 + 1 + 1) (w.heap.size + 1 + 1 + 1 + 1) ao n cap t b w W0 hs HH.out hb0 hT hK) kb_t (kb_b (by omega)) (Below.refl _ _) (fun _ => rfl)
    (fun pre W => (a ∉ pre ∧ AtP W ⟨w.heap.size, 0, none⟩ a ∧ B1 W (w.heap.size + 1 + 1) (.bool false)) ∧ Below w.heap.size w W)
    (fun c pre W => (c = .ret ∧ a ∈ pre ∧ B1 W (w.heap.size + 1 + 1) (.bool true)) ∧ Below w.heap.size w W)
    (OwnFrom.and (Own.from (fun s A B row hs hg hr => ⟨hs.1, atP_grown hs.2.1 hg hr, own_b1 (β := Unit) _ _ () A B row hs.2.2 hg hr⟩) _) (ownFrom_below (Nat.le_refl _) (by omega)))
    (fun c => OwnFrom.and (Own.from (fun s A B row hs hg hr => ⟨hs.1, hs.2.1, own_b1 (β := Unit) _ _ () A B row hs.2.2 hg hr⟩) _) (ownFrom_below (Nat.le_refl _) (by omega)))
    ⟨⟨by simp, ha0, hr0⟩, hb0⟩
    (fun x a' W => ∃ Bx : Nat, AtP W ⟨Bx, 0, none⟩ x ∧ a' = { tmps := #[.slice ao n cap, (.agg #[.int .i64 a.1, .int .i64 a.2]), (.agg #[.int .i64 b.1, .int .i64 b.2]), undef, .pointer (some ⟨w.heap.size, 0, none⟩), .pointer (some ⟨w.heap.size + 1, 0, none⟩), .pointer (some ⟨w.heap.size + 1 + 1, 0, none⟩), .pointer (some ⟨Bx, 0, none⟩), .slice ao n cap, (.agg #[.int .i64 b.1, .int .i64 b.2]), .func (.func 66) #[] #[.pointer (some ⟨w.heap.size + 1 + 1 + 1, 0, none⟩), .pointer (some ⟨w.heap.size + 1 + 1 + 1 + 1, 0, none⟩)], (.agg #[.int .i64 x.1, .int .i64 x.2]), undef, undef, undef], defers := [] })
    (fun x a' => Own.from (fun s A B row hs hg hr => by obtain ⟨Bx, h2, h3⟩ := hs; exact ⟨Bx, atP_grown h2 hg hr, h3⟩) _) ?assign ?body ?done ?stop
  case assign =>
    rintro l pre x W K ⟨⟨h1, h2, h3⟩, hB⟩ hK
    have hsW := hB.size
    gi_wp2
    exact hK _ _ ((keeps_below (alloc_below _ _)).from _) (kb_below hsW (alloc_below _ _)) ⟨⟨h1, h2.below (alloc_below _ _), h3.below (alloc_below _ _)⟩, q_alloc hB _⟩ ⟨W.heap.size, at_new W x 27, rfl⟩
  case body =>
    rintro l pre x a' W hl ⟨r, hr⟩ ⟨⟨h1, h2, h3⟩, hB⟩ ⟨Bx, hA, rfl⟩ _
    have c := h3.c
    have f := h3.f
    obtain ⟨a0, a1⟩ := h2
    obtain ⟨x0, x1⟩ := hA
    by_cases e : x = a
    · have ee := eqk_yes e
      have HE := hid e
      clear e
      gi_wp2
      exact ⟨(KeepsOthers.setCell _ _ _).from _, ⟨rfl, by rw [HE.out]; simp, b1_put h3 _⟩, hB.setCell (p := ⟨w.heap.size + 1 + 1, 0, none⟩) (by simp; omega) _⟩
    · have ee := eqk_no e
      have HE := hid e
      clear e
      gi_wp2
      exact ⟨KeepsFrom.refl _ _, kb_below hB.size (Below.refl _ _), ⟨fun hm => (List.mem_append.1 hm).elim h1 (fun e => HE.out (List.mem_singleton.1 e).symm), ⟨a0, a1⟩, h3⟩, hB⟩
  case done =>
    rintro D ys W hD rfl ⟨⟨h1, h2, hr⟩, hB⟩ hK
    have HE : Hid (dsB t a b = false) := by unfold Hid dsB; simpa using h1
    have c := hr.c
    have f := hr.f
    gi_wp2
    have hK' := (KeepsOthers.setCell W ⟨w.heap.size + 1 + 1, 0, none⟩ (.bool false)).same D _ hK rfl
    refine ⟨by simp, .inl ⟨_, _, rfl, run_takeDeferred hK', ?_⟩⟩
    have hc5 := cell_kept (b1_put hr (.bool false)).c (grownBy_putObj' _ D (.deferred none)) (fun r e => by cases e; exact ⟨_, hK', rfl⟩)
    refine ⟨.bool false, ?_, by rw [HE.out], (hB.setCell (p := ⟨w.heap.size + 1 + 1, 0, none⟩) (by simp; omega) _).trans (belowK_b (w := w) (Nat.le_refl _) _ D _ _ (by omega) hK' rfl rfl)⟩
    simp [results, Try.f32, go_sem, hc5]
  case stop =>
    rintro D c pre W hD hS ⟨⟨rfl, hp, hr⟩, hB⟩ hK
    have HE : Hid (dsB t a b = true) := by unfold Hid dsB; simpa using hS.subset hp
    gi_wp2
    refine ⟨by simp, .inl ⟨_, _, rfl, run_takeDeferred hK, ?_⟩⟩
    have hc5 := cell_kept hr.c (grownBy_putObj' _ D (.deferred none)) (fun r e => by cases e; exact ⟨_, hK, rfl⟩)
    refine ⟨.bool true, ?_, by rw [HE.out], hB.trans (belowK_b (w := w) (Nat.le_refl _) _ D _ _ (by omega) hK rfl rfl)⟩
    simp [results, Try.f32, go_sem, hc5]
end Go.Proofs.Ytcldnacpddebcaa.Tr
