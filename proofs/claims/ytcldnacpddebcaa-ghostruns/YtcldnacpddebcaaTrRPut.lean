/- What the document's put and out do. -/
import Derived.Test.YtcldnacpddebcaaTrRCnt
import Derived.Deep.RegionHeld3
namespace Go.Proofs.Ytcldnacpddebcaa.Tr
open Go.RowKit

theorem run_from (ao : Option Addr) (k n cap : Nat) (hk : k ≤ n) (W : World) :
    (Instr.slice 51 (.slice ao n cap) (some (.int .i64 k)) none none).run Try.prog W = .ok (.slice (if cap = k then ao else ao.map (·.add (k * 4))) (n - k) (cap - k)) W := by
  have hb := fun code => run_sliceBound (P := Try.prog) (w := W) .i64 (k : Int) n code (by omega) (by omega)
  simp [Instr.slice, Instr.sliceBounds, run_underlying Try.underlying51, hb, Try.sizeOf79]
theorem run_to (ao : Option Addr) (k n cap : Nat) (hk : k ≤ cap) (W : World) :
    (Instr.slice 51 (.slice ao n cap) none (some (.int .i64 k)) none).run Try.prog W = .ok (.slice ao k cap) W := by
  have hb := fun code => run_sliceBound (P := Try.prog) (w := W) .i64 (k : Int) cap code (by omega) (by omega)
  have ha : ao.map (fun a => a.add 0) = ao := by cases ao <;> simp [Addr.add]
  simp [Instr.slice, Instr.sliceBounds, run_underlying Try.underlying51, hb, Try.sizeOf79, ha]
theorem brs_drop (l : List Br) (k j : Nat) : (brs (l.drop k))[j]? = (brs l)[k * 4 + j]? := by
  by_cases hk : k ≤ l.length
  · have e : brs l = brs (l.take k) ++ brs (l.drop k) := by rw [← brs_app, List.take_append_drop]
    rw [e, List.getElem?_append_right (by rw [len_brs, List.length_take]; omega)]
    congr 1
    rw [len_brs, List.length_take, Nat.min_eq_left hk]
    omega
  · rw [List.drop_eq_nil_of_le (by omega), List.getElem?_eq_none (by simp [brs]), List.getElem?_eq_none (by rw [len_brs]; omega)]
theorem HasB.drop {w : World} {ao : Option Addr} {n cap : Nat} {l : List Br} (h : HasB w ao n cap l) (k : Nat) (hk : k ≤ n) : HasB w (if cap = k then ao else ao.map (·.add (k * 4))) (n - k) (cap - k) (l.drop k) := by
  have hl := h.len
  have hc := h.cap
  refine ⟨by simp; omega, ?_, by omega, ⟨fun j u hu => ?_⟩⟩
  · intro e
    split at e
    · omega
    · cases ao with
      | none => have := h.nil rfl; omega
      | some a => cases e
  · have hj := (List.getElem?_eq_some_iff.1 hu).1
    rw [len_brs, List.length_drop] at hj
    rw [brs_drop] at hu
    obtain ⟨a, rfl, hcell⟩ := h.row.cell _ u hu
    refine ⟨a.add (k * 4), by rw [if_neg (by omega)]; rfl, ?_⟩
    rw [add_add]
    exact hcell
theorem step_br (w : World) {ops : Array Oper} {o : Oper} {a : Act} {C : Act → World → Prop} {Q : Exit → Act → World → Prop} {E : Prop} (hgd : o.guard = none) (s x : Operand)
    (ho : o.op = .call { callee := .builtin .append, args := #[s, x], argTypes := #[51, 51] })
    (base : Nat) (v : Value) (n : Nat) (xs : List Br) (hs : a.eval s = v) (hown : w.ownsRow base 79 4 v n (brs xs))
    (ao : Option Addr) (m c : Nat) (ys : List Br) (hx : a.eval x = .slice ao m c) (hm : m = ys.length) (hc : ao = none → c = 0) (hy : Row w ao (brs ys))
    (N : Nat) (hN : n + m = N) (Z : List Br) (hZ : xs ++ ys = Z) (h63 : N ≤ 5000) (hbase : base ≤ w.heap.size)
    (h : ∀ ao' cap' w', w'.ownsRow base 79 4 (.slice ao' N cap') N (brs Z) → w.grownBy w' v.ownBlock → C (a.put o.dst (.slice ao' N cap')) w') :
    if Region.wanted o (yielded ops a.tmps) = true then Oper.wp Try.prog o a w C Q else E := by
  have hw : Region.wanted o (yielded ops a.tmps) = true := by simp [Region.wanted, hgd]
  rw [if_pos hw]
  subst hN hZ
  rw [brs_app] at h
  obtain ⟨i0, hi, hz0, hz1, hz2⟩ := info_of infoB
  have sl : ∀ {w' : World} {v' : Value} {k : Nat} {cs : List Value}, w'.ownsRow base 79 4 v' k cs → ∃ ao' cap', v' = .slice ao' k cap' := by
    intro w' v' k cs h
    rcases h.2 with ⟨rfl, rfl⟩ | ⟨g, cap, cur, rfl, _⟩
    · exact ⟨_, _, rfl⟩
    · exact ⟨_, _, rfl⟩
  cases ao with
  | none =>
    have h0 := row_none hy
    have hl := len_brs ys
    rw [h0] at hl
    have hm0 : m = 0 := by rw [hm]; simp at hl; omega
    subst hm0
    rw [hc rfl] at hx
    obtain ⟨ao', cap', rfl⟩ := sl hown
    have hrun := run_append_owned_none (P := Try.prog) (w := w) base 51 o.type 79 i0 4 Try.underlying51 hi _ n (brs xs) hown
    unfold Oper.wp
    simp [execOp, ho, resolve, invoke, builtin, hs, hx, hrun, Result.andThen]
    exact h ao' cap' w (by rw [h0]; simpa using hown) (World.grownBy.refl _ _)
  | some ad =>
    refine wp_append_own w s x 51 ho base 79 i0 _ 4 32 Try.underlying51 hi hz0 hz1 hz2 rfl (by decide) v n (brs xs) hs hown ad m c (brs ys) hx (by rw [len_brs, hm]) ?_ (brs_one _) (by unfold maxLen; omega) (by omega) hbase ?_
    · intro j u hu
      obtain ⟨a', e, hcell⟩ := hy.cell j u hu
      cases e
      exact hcell
    · intro v' w' h1 h2 _
      obtain ⟨ao', cap', rfl⟩ := sl h1
      exact h ao' cap' w' h1 h2
theorem row_grown {w w' : World} {b r n c : Nat} {cs : List Value} (h : Row w (some ⟨b, 0, none⟩) cs) (hg : w.grownBy w' (Value.ownBlock (.slice (some ⟨r, 0, none⟩) n c))) (hne : b ≠ r) : Row w' (some ⟨b, 0, none⟩) cs :=
  h.kept (kept_grown hg) (fun _ a e => by cases e; intro e2; exact hne (Option.some.inj e2))
theorem grow_below {w W w3 : World} {g n c : Nat} (hb : Below w.heap.size w W) (hg : W.grownBy w3 (Value.ownBlock (.slice (some ⟨g, 0, none⟩) n c))) (h : w.heap.size ≤ g) : Below w.heap.size w w3 :=
  hb.grown hg hb.size (fun k e => by cases e; exact h)
/-- A branch's box. -/
abbrev SB (c : Nat) (b : Br) (w : World) : Prop := w.cell? ⟨c, 0, none⟩ = some (.int .i64 b.1.1) ∧ w.cell? ⟨c, 1, none⟩ = some (.int .i64 b.1.2) ∧ w.cell? ⟨c, 2, none⟩ = some (.int .i64 b.2.1) ∧ w.cell? ⟨c, 3, none⟩ = some (.bool b.2.2)
theorem sb_keep {c : Nat} {b : Br} {w w' : World} (h : SB c b w) (q : Below w.heap.size w w') : SB c b w' :=
  ⟨(q.cell (World.block_lt_of_cell? w _ h.1)).trans h.1, (q.cell (World.block_lt_of_cell? w _ h.2.1)).trans h.2.1, (q.cell (World.block_lt_of_cell? w _ h.2.2.1)).trans h.2.2.1, (q.cell (World.block_lt_of_cell? w _ h.2.2.2)).trans h.2.2.2⟩
theorem sb_drew {c : Nat} {b : Br} {w : World} (h : SB c b w) : SB c b w.drew := h
theorem sb_alloc {c : Nat} {b : Br} {w : World} (h : SB c b w) (o : Obj) : SB c b (w.alloc o) := sb_keep h (alloc_below w o)
theorem own1 (x : Br) (w : World) : ((w.alloc (.cells #[.int .i64 x.1.1, .int .i64 x.1.2, .int .i64 x.2.1, .bool x.2.2] 79)).alloc (.cells #[] 79)).ownsRow w.heap.size 79 4 (.slice (some ⟨w.heap.size + 1, 0, none⟩) 0 0) 0 (brs []) := by
  have := World.ownsRow_made (base := w.heap.size) (e := 79) (size := 4) (w.alloc (.cells #[.int .i64 x.1.1, .int .i64 x.1.2, .int .i64 x.2.1, .bool x.2.2] 79)) #[] 0 (by simp) (by decide) (by simp)
  rw [brs_nil]
  simpa using this
theorem br_at1 (x : Br) (w : World) : Row ((w.alloc (.cells #[] 79)).alloc (.cells #[.int .i64 x.1.1, .int .i64 x.1.2, .int .i64 x.2.1, .bool x.2.2] 79)) (some ⟨w.heap.size + 1, 0, none⟩) (brs [x]) := by
  have := one_branch (w.alloc (.cells #[] 79)) x 79
  simpa using this
theorem own_hasB {w : World} {B n cap : Nat} {ao : Option Addr} {l : List Br} (h : w.ownsRow B 79 4 (.slice ao n cap) n (brs l)) (hl : n = l.length) : HasB w ao n cap l := MineB.has (B := B) ⟨hl, h⟩
end Go.Proofs.Ytcldnacpddebcaa.Tr
