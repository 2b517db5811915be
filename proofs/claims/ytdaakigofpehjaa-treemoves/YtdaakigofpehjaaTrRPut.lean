/- What the document's put and out do. -/
import Derived.Test.YtdaakigofpehjaaTrRCnt
import Derived.Deep.RegionHeld3
namespace Go.Proofs.Ytdaakigofpehjaa.Tr
open Go.RowKit

theorem run_from (ao : Option Addr) (k n cap : Nat) (hk : k ≤ n) (W : World) :
    (Instr.slice 22 (.slice ao n cap) (some (.int .i64 k)) none none).run Try.prog W = .ok (.slice (if cap = k then ao else ao.map (·.add (k * 4))) (n - k) (cap - k)) W := by
  have hb := fun code => run_sliceBound (P := Try.prog) (w := W) .i64 (k : Int) n code (by omega) (by omega)
  simp [Instr.slice, Instr.sliceBounds, run_underlying Try.underlying22, hb, Try.sizeOf55]
theorem run_to (ao : Option Addr) (k n cap : Nat) (hk : k ≤ cap) (W : World) :
    (Instr.slice 22 (.slice ao n cap) none (some (.int .i64 k)) none).run Try.prog W = .ok (.slice ao k cap) W := by
  have hb := fun code => run_sliceBound (P := Try.prog) (w := W) .i64 (k : Int) cap code (by omega) (by omega)
  have ha : ao.map (fun a => a.add 0) = ao := by cases ao <;> simp [Addr.add]
  simp [Instr.slice, Instr.sliceBounds, run_underlying Try.underlying22, hb, Try.sizeOf55, ha]
theorem brs_drop (l : List Br) (k j : Nat) : (brs (l.drop k))[j]? = (brs l)[k * 4 + j]? := by
  by_cases hk : k ≤ l.length
  · have e : brs l = brs (l.take k) ++ brs (l.drop k) := by rw [← brs_app, List.take_append_drop]
    rw [e, List.getElem?_append_right (by rw [len_brs, List.length_take]; omega)]
    congr 1
    rw [len_brs, List.length_take, Nat.min_eq_left hk]
    omega
  · rw [List.drop_eq_nil_of_le (by omega), List.getElem?_eq_none (by simp [brs]), List.getElem?_eq_none (by rw [len_brs]; omega)]
theorem HasB.drop {w : World} {ao : Option Addr} {n cap : Nat} {l : List Br} (h : HasB w ao n cap l) (k : Nat) (hk : k ≤ n) : HasB w (if cap = k then ao else ao.map (·.add (k * 4))) (n - k) (cap - k) (l.drop k) := by
  have hl := h.len
  have hc := h.cap
  refine ⟨by simp; omega, ?_, by omega, ⟨fun j u hu => ?_⟩⟩
  · intro e
    split at e
    · omega
    · cases ao with
      | none => have := h.nil rfl; omega
      | some a => cases e
  · have hj := (List.getElem?_eq_some_iff.1 hu).1
    rw [len_brs, List.length_drop] at hj
    rw [brs_drop] at hu
    obtain ⟨a, rfl, hcell⟩ := h.row.cell _ u hu
    refine ⟨a.add (k * 4), by rw [if_neg (by omega)]; rfl, ?_⟩
    rw [add_add]
    exact hcell
theorem step_br (w : World) {ops : Array Oper} {o : Oper} {a : Act} {C : Act → World → Prop} {Q : Exit → Act → World → Prop} {E : Prop} (hgd : o.guard = none) (s x : Operand)
    (ho : o.op = .call { callee := .builtin .append, args := #[s, x], argTypes := #[22, 22] })
    (base : Nat) (v : Value) (n : Nat) (xs : List Br) (hs : a.eval s = v) (hown : w.ownsRow base 55 4 v n (brs xs))
    (ao : Option Addr) (m c : Nat) (ys : List Br) (hx : a.eval x = .slice ao m c) (hm : m = ys.length) (hc : ao = none → c = 0) (hy : Row w ao (brs ys))
    (N : Nat) (hN : n + m = N) (Z : List Br) (hZ : xs ++ ys = Z) (h63 : N ≤ 5000) (hbase : base ≤ w.heap.size)
    (h : ∀ ao' cap' w', w'.ownsRow base 55 4 (.slice ao' N cap') N (brs Z) → w.grownBy w' v.ownBlock → C (a.put o.dst (.slice ao' N cap')) w') :
    if Region.wanted o (yielded ops a.tmps) = true then Oper.wp Try.prog o a w C Q else E := by
  have hw : Region.wanted o (yielded ops a.tmps) = true := by simp [Region.wanted, hgd]
  rw [if_pos hw]
  subst hN hZ
  rw [brs_app] at h
  obtain ⟨i0, hi, hz0, hz1, hz2⟩ := info_of infoB
  have sl : ∀ {w' : World} {v' : Value} {k : Nat} {cs : List Value}, w'.ownsRow base 55 4 v' k cs → ∃ ao' cap', v' = .slice ao' k cap' := by
    intro w' v' k cs h
    rcases h.2 with ⟨rfl, rfl⟩ | ⟨g, cap, cur, rfl, _⟩
    · exact ⟨_, _, rfl⟩
    · exact ⟨_, _, rfl⟩
  cases ao with
  | none =>
    have h0 := row_none hy
    have hl := len_brs ys
    rw [h0] at hl
    have hm0 : m = 0 := by rw [hm]; simp at hl; omega
    subst hm0
    rw [hc rfl] at hx
    obtain ⟨ao', cap', rfl⟩ := sl hown
    have hrun := run_append_owned_none (P := Try.prog) (w := w) base 22 o.type 55 i0 4 Try.underlying22 hi _ n (brs xs) hown
    unfold Oper.wp
    simp [execOp, ho, resolve, invoke, builtin, hs, hx, hrun, Result.andThen]
    exact h ao' cap' w (by rw [h0]; simpa using hown) (World.grownBy.refl _ _)
  | some ad =>
    refine wp_append_own w s x 22 ho base 55 i0 _ 4 32 Try.underlying22 hi hz0 hz1 hz2 rfl (by decide) v n (brs xs) hs hown ad m c (brs ys) hx (by rw [len_brs, hm]) ?_ (brs_one _) (by unfold maxLen; omega) (by omega) hbase ?_
    · intro j u hu
      obtain ⟨a', e, hcell⟩ := hy.cell j u hu
      cases e
      exact hcell
    · intro v' w' h1 h2 _
      obtain ⟨ao', cap', rfl⟩ := sl h1
      exact h ao' cap' w' h1 h2
theorem row_grown {w w' : World} {b r n c : Nat} {cs : List Value} (h : Row w (some ⟨b, 0, none⟩) cs) (hg : w.grownBy w' (Value.ownBlock (.slice (some ⟨r, 0, none⟩) n c))) (hne : b ≠ r) : Row w' (some ⟨b, 0, none⟩) cs :=
  h.kept (kept_grown hg) (fun _ a e => by cases e; intro e2; exact hne (Option.some.inj e2))
theorem grow_below {w W w3 : World} {g n c : Nat} (hb : Below w.heap.size w W) (hg : W.grownBy w3 (Value.ownBlock (.slice (some ⟨g, 0, none⟩) n c))) (h : w.heap.size ≤ g) : Below w.heap.size w w3 :=
  hb.grown hg hb.size (fun k e => by cases e; exact h)
/-- A branch's box. -/
abbrev SB (c : Nat) (b : Br) (w : World) : Prop := w.cell? ⟨c, 0, none⟩ = some (.int .i64 b.1.1) ∧ w.cell? ⟨c, 1, none⟩ = some (.int .i64 b.1.2) ∧ w.cell? ⟨c, 2, none⟩ = some (.int .i64 b.2.1) ∧ w.cell? ⟨c, 3, none⟩ = some (.bool b.2.2)
theorem sb_keep {c : Nat} {b : Br} {w w' : World} (h : SB c b w) (q : Below w.heap.size w w') : SB c b w' :=
  ⟨(q.cell (World.block_lt_of_cell? w _ h.1)).trans h.1, (q.cell (World.block_lt_of_cell? w _ h.2.1)).trans h.2.1, (q.cell (World.block_lt_of_cell? w _ h.2.2.1)).trans h.2.2.1, (q.cell (World.block_lt_of_cell? w _ h.2.2.2)).trans h.2.2.2⟩
theorem sb_drew {c : Nat} {b : Br} {w : World} (h : SB c b w) : SB c b w.drew := h
theorem sb_alloc {c : Nat} {b : Br} {w : World} (h : SB c b w) (o : Obj) : SB c b (w.alloc o) := sb_keep h (alloc_below w o)
theorem own1 (x : Br) (w : World) : ((w.alloc (.cells #[.int .i64 x.1.1, .int .i64 x.1.2, .int .i64 x.2.1, .bool x.2.2] 55)).alloc (.cells #[] 55)).ownsRow w.heap.size 55 4 (.slice (some ⟨w.heap.size + 1, 0, none⟩) 0 0) 0 (brs []) := by
  have := World.ownsRow_made (base := w.heap.size) (e := 55) (size := 4) (w.alloc (.cells #[.int .i64 x.1.1, .int .i64 x.1.2, .int .i64 x.2.1, .bool x.2.2] 55)) #[] 0 (by simp) (by decide) (by simp)
  rw [brs_nil]
  simpa using this
theorem br_at1 (x : Br) (w : World) : Row ((w.alloc (.cells #[] 55)).alloc (.cells #[.int .i64 x.1.1, .int .i64 x.1.2, .int .i64 x.2.1, .bool x.2.2] 55)) (some ⟨w.heap.size + 1, 0, none⟩) (brs [x]) := by
  have := one_branch (w.alloc (.cells #[] 55)) x 55
  simpa using this
theorem own_hasB {w : World} {B n cap : Nat} {ao : Option Addr} {l : List Br} (h : w.ownsRow B 55 4 (.slice ao n cap) n (brs l)) (hl : n = l.length) : HasB w ao n cap l := MineB.has (B := B) ⟨hl, h⟩
set_option maxRecDepth 100000 in
set_option maxHeartbeats 2000000 in
theorem rput_any (ao : Option Addr) (n cap i : Nat) (t : List Br) (b : Br) (w : World) (hi : i ≤ n) (hs : n ≤ 1000) (HH : Hid (HasB w ao n cap t)) :
    Calls Try.prog 54 #[.slice ao n cap, .int .i64 i, (.agg #[.int .i64 b.1.1, .int .i64 b.1.2, .int .i64 b.2.1, .bool b.2.2])] w fun e w' => ∃ xo xc, e = .returned (.slice xo (n + 1) xc) ∧ HasB w' xo (n + 1) xc (ins t i b) ∧ Below w.heap.size w w' := by
  have HN := hid HH.out.len
  have HC := hid HH.out.cap
  have rt := run_to ao i n cap (by have := HC.out; omega)
  obtain ⟨ao2, hao2⟩ : ∃ x, (if cap = i then ao else ao.map (·.add (i * 4))) = x := ⟨_, rfl⟩
  have rf := run_from ao i n cap hi
  have hd := HH.out.drop i hi
  rw [hao2] at rf hd
  clear hao2
  go_enter Try.func54, Try.ntmps54
  go_wp2_with fail
  have HBW := hid (alloc_below w (.cells #[.int .i64 b.1.1, .int .i64 b.1.2, .int .i64 b.2.1, .bool b.2.2] 55))
  have HBX : Hid (SB w.heap.size b (w.alloc (.cells #[.int .i64 b.1.1, .int .i64 b.1.2, .int .i64 b.2.1, .bool b.2.2] 55))) := by
    have := atB_new w b 55
    exact ⟨this.c0, this.c1, this.c2, this.c3⟩
  generalize w.alloc (.cells #[.int .i64 b.1.1, .int .i64 b.1.2, .int .i64 b.2.1, .bool b.2.2] 55) = W at HBW HBX ⊢
  have HT := hid ((HH.out.take i hi).below HBW.out)
  have HD := hid (hd.below HBW.out)
  have HZ : Hid ((t.take i ++ [b]) ++ t.drop i = ins t i b) := by unfold Hid ins; simp
  have HLN : Hid (n + 1 = (ins t i b).length) := by unfold Hid; rw [ins_len, HN.out]
  have hS : SB w.heap.size b W := HBX.out
  clear hd
  go_region_held3 (SB w.heap.size b) (first | with_reducible assumption | with_reducible exact sb_drew hS | with_reducible exact sb_drew (sb_alloc hS _) | with_reducible exact sb_alloc (sb_drew hS) _ | with_reducible exact sb_drew (sb_alloc (sb_alloc hS _) _) | with_reducible exact sb_alloc (sb_drew (sb_alloc hS _)) _ | with_reducible exact sb_alloc hS _ | with_reducible exact sb_alloc (sb_alloc hS _) _ | exact sb_keep HBX.out b3 | exact sb_keep HBX.out b2 | exact sb_keep HBX.out (q_alloc b1 _) | exact sb_keep HBX.out b1 | go_keep)
    (first
      | (refine step_br _ (by rfl) (.tmp 7) (.tmp 10) (by rfl) W.heap.size (.slice (some ⟨W.heap.size, 0, none⟩) 0 0) 0 [] (by rfl) ((own0 W 55 4).drew) ao i cap (t.take i) (by rfl) HT.out.len HT.out.nil (HT.out.row.below ((alloc_below W _).drew)) i (by omega) (t.take i) (by rfl) (by omega) (by simp) ?_; intro ao1 cap1 w1 own1' grow1; have b1 := grow_below ((alloc_below W _).drew) grow1 (Nat.le_refl _))
      | (refine step_br _ (by rfl) (.tmp 7) (.tmp 10) (by rfl) W.heap.size (.slice (some ⟨W.heap.size, 0, none⟩) 0 0) 0 [] (by rfl) (((own0 W 55 4).alloc (.cells #[.int .i64 b.1.1, .int .i64 b.1.2, .int .i64 b.2.1, .bool b.2.2] 55)).drew) ao i cap (t.take i) (by rfl) HT.out.len HT.out.nil (HT.out.row.below ((q_alloc (alloc_below W _) _).drew)) i (by omega) (t.take i) (by rfl) (by omega) (by simp; omega) ?_; intro ao1 cap1 w1 own1' grow1; have b1 := grow_below ((q_alloc (alloc_below W _) _).drew) grow1 (Nat.le_refl _); have HX3 := hid (row_grown ((br_at1 b W).below (Below.refl _ _).drew) grow1 (by omega)))
      | (refine step_br _ (by rfl) (.tmp 7) (.tmp 10) (by rfl) W.heap.size (.slice (some ⟨W.heap.size + 1, 0, none⟩) 0 0) 0 [] (by rfl) ((own1 b W).drew) ao i cap (t.take i) (by rfl) HT.out.len HT.out.nil (HT.out.row.below ((q_alloc (alloc_below W _) _).drew)) i (by omega) (t.take i) (by rfl) (by omega) (by simp; omega) ?_; intro ao1 cap1 w1 own1' grow1; have b1 := grow_below ((q_alloc (alloc_below W _) _).drew) grow1 (by omega); have HX3 := hid (row_grown (((one_branch W b 55).below (alloc_below _ _)).below (Below.refl _ _).drew) grow1 (by omega)))
      | (refine step_br _ (by rfl) (.tmp 11) (.tmp 13) (by rfl) W.heap.size _ _ _ (by rfl) (own1'.alloc _) (some ⟨w1.heap.size, 0, none⟩) 1 1 [b] (by rfl) (by rfl) (fun h => by cases h) (one_branch w1 b 55) (i + 1) (by omega) (t.take i ++ [b]) (by rfl) (by omega) (q_alloc b1 _).size ?_; intro ao2' cap2 w2 own2 grow2; have b2 := (q_alloc b1 _).grown grow2 (q_alloc b1 _).size (fun k e => (own1'.lt k e).1))
      | (refine step_br _ (by rfl) (.tmp 11) (.tmp 13) (by rfl) W.heap.size _ _ _ (by rfl) own1' (some ⟨W.heap.size + 1, 0, none⟩) 1 1 [b] (by rfl) (by rfl) (fun h => by cases h) HX3.out (i + 1) (by omega) (t.take i ++ [b]) (by rfl) (by omega) b1.size ?_; intro ao2' cap2 w2 own2 grow2; have b2 := b1.grown grow2 b1.size (fun k e => (own1'.lt k e).1))
      | (refine step_br _ (by rfl) (.tmp 11) (.tmp 13) (by rfl) W.heap.size _ _ _ (by rfl) own1' (some ⟨W.heap.size, 0, none⟩) 1 1 [b] (by rfl) (by rfl) (fun h => by cases h) HX3.out (i + 1) (by omega) (t.take i ++ [b]) (by rfl) (by omega) b1.size ?_; intro ao2' cap2 w2 own2 grow2; have b2 := b1.grown grow2 b1.size (fun k e => (own1'.lt k e).1))
      | (refine step_br _ (by rfl) (.tmp 14) (.tmp 17) (by rfl) W.heap.size _ _ _ (by rfl) own2 ao2 (n - i) (cap - i) (t.drop i) (by rfl) HD.out.len HD.out.nil (HD.out.row.below b2) (n + 1) (by omega) (ins t i b) HZ.out (by omega) b2.size ?_; intro ao3 cap3 w3 own3 grow3; have b3 := b2.grown grow3 b2.size (fun k e => (own2.lt k e).1)))
  all_goals
    have H3 := hid (own_hasB own3 HLN.out)
    have B3 := hid (q_trans HBW.out b3)
    clear own1' grow1 b1 own2 grow2 b2 own3 grow3 b3
    go_wp2_with fail
    go_ret
    exact ⟨ao3, cap3, rfl, H3.out, B3.out⟩
end Go.Proofs.Ytdaakigofpehjaa.Tr
