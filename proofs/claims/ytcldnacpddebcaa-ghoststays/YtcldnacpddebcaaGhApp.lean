/- Lists of keys and of numbers cut, and put one behind the other. -/
import Derived.Test.YtcldnacpddebcaaGhRAbv
import Derived.Test.YtcldnacpddebcaaTrRPut
namespace Go.Proofs.Ytcldnacpddebcaa.Gh
open Go.RowKit
open Go.Proofs.Ytcldnacpddebcaa.Tr

theorem vals_app (l m : List Int) : vals (l ++ m) = vals l ++ vals m := by simp [vals]
theorem vals_nil : vals [] = [] := rfl
theorem hasP_take {w : World} {ao : Option Addr} {n cap : Nat} {l : List P} (h : HasP w ao n cap l) (k : Nat) (hk : k ≤ n) : HasP w ao k cap (l.take k) := by
  refine ⟨by have := h.len; simp; omega, h.nil, Nat.le_trans hk h.cap, ⟨fun j u hu => ?_⟩⟩
  refine h.row.cell j u ?_
  have e : prs l = prs (l.take k) ++ prs (l.drop k) := by rw [← prs_app, List.take_append_drop]
  rw [e, List.getElem?_append_left (List.getElem?_eq_some_iff.1 hu).1]
  exact hu
theorem run_fromK (ao : Option Addr) (k n cap : Nat) (hk : k ≤ n) (W : World) :
    (Instr.slice 22 (.slice ao n cap) (some (.int .i64 k)) none none).run Try.prog W = .ok (.slice (if cap = k then ao else ao.map (·.add (k * 2))) (n - k) (cap - k)) W := by
  have hb := fun code => run_sliceBound (P := Try.prog) (w := W) .i64 (k : Int) n code (by omega) (by omega)
  simp [Instr.slice, Instr.sliceBounds, run_underlying Try.underlying22, hb, Try.sizeOf27]
theorem run_toK (ao : Option Addr) (k n cap : Nat) (hk : k ≤ cap) (W : World) :
    (Instr.slice 22 (.slice ao n cap) none (some (.int .i64 k)) none).run Try.prog W = .ok (.slice ao k cap) W := by
  have hb := fun code => run_sliceBound (P := Try.prog) (w := W) .i64 (k : Int) cap code (by omega) (by omega)
  have ha : ao.map (fun a => a.add 0) = ao := by cases ao <;> simp [Addr.add]
  simp [Instr.slice, Instr.sliceBounds, run_underlying Try.underlying22, hb, Try.sizeOf27, ha]
theorem prs_drop (l : List P) (k j : Nat) : (prs (l.drop k))[j]? = (prs l)[k * 2 + j]? := by
  by_cases hk : k ≤ l.length
  · have e : prs l = prs (l.take k) ++ prs (l.drop k) := by rw [← prs_app, List.take_append_drop]
    rw [e, List.getElem?_append_right (by rw [len_prs, List.length_take]; omega)]
    congr 1
    rw [len_prs, List.length_take, Nat.min_eq_left hk]
    omega
  · rw [List.drop_eq_nil_of_le (by omega), List.getElem?_eq_none (by simp [prs]), List.getElem?_eq_none (by rw [len_prs]; omega)]
theorem hasP_drop {w : World} {ao : Option Addr} {n cap : Nat} {l : List P} (h : HasP w ao n cap l) (k : Nat) (hk : k ≤ n) : HasP w (if cap = k then ao else ao.map (·.add (k * 2))) (n - k) (cap - k) (l.drop k) := by
  have hl := h.len
  have hc := h.cap
  refine ⟨by simp; omega, ?_, by omega, ⟨fun j u hu => ?_⟩⟩
  · intro e
    split at e
    · omega
    · cases ao with
      | none => have := h.nil rfl; omega
      | some a => cases e
  · have hj := (List.getElem?_eq_some_iff.1 hu).1
    rw [len_prs, List.length_drop] at hj
    rw [prs_drop] at hu
    obtain ⟨a, rfl, hcell⟩ := h.row.cell _ u hu
    refine ⟨a.add (k * 2), by rw [if_neg (by omega)]; rfl, ?_⟩
    rw [add_add]
    exact hcell
theorem step_ks (w : World) {ops : Array Oper} {o : Oper} {a : Act} {C : Act → World → Prop} {Q : Exit → Act → World → Prop} {E : Prop} (hgd : o.guard = none) (s x : Operand)
    (ho : o.op = .call { callee := .builtin .append, args := #[s, x], argTypes := #[22, 22] })
    (base : Nat) (v : Value) (n : Nat) (xs : List P) (hs : a.eval s = v) (hown : w.ownsRow base 27 2 v n (prs xs))
    (ao : Option Addr) (m c : Nat) (ys : List P) (hx : a.eval x = .slice ao m c) (hm : m = ys.length) (hc : ao = none → c = 0) (hy : Row w ao (prs ys))
    (N : Nat) (hN : n + m = N) (Z : List P) (hZ : xs ++ ys = Z) (h63 : N ≤ 5000) (hbase : base ≤ w.heap.size)
    (h : ∀ ao' cap' w', w'.ownsRow base 27 2 (.slice ao' N cap') N (prs Z) → w.grownBy w' v.ownBlock → C (a.put o.dst (.slice ao' N cap')) w') :
    if Region.wanted o (yielded ops a.tmps) = true then Oper.wp Try.prog o a w C Q else E := by
  have hw : Region.wanted o (yielded ops a.tmps) = true := by simp [Region.wanted, hgd]
  rw [if_pos hw]
  subst hN hZ
  rw [prs_app] at h
  obtain ⟨i0, hi, hz0, hz1, hz2⟩ := info_of infoK
  have sl : ∀ {w' : World} {v' : Value} {k : Nat} {cs : List Value}, w'.ownsRow base 27 2 v' k cs → ∃ ao' cap', v' = .slice ao' k cap' := by
    intro w' v' k cs h
    rcases h.2 with ⟨rfl, rfl⟩ | ⟨g, cap, cur, rfl, _⟩
    · exact ⟨_, _, rfl⟩
    · exact ⟨_, _, rfl⟩
  cases ao with
  | none =>
    have h0 := row_none hy
    have hl := len_prs ys
    rw [h0] at hl
    have hm0 : m = 0 := by rw [hm]; simp at hl; omega
    subst hm0
    rw [hc rfl] at hx
    obtain ⟨ao', cap', rfl⟩ := sl hown
    have hrun := run_append_owned_none (P := Try.prog) (w := w) base 22 o.type 27 i0 2 Try.underlying22 hi _ n (prs xs) hown
    unfold Oper.wp
    simp [execOp, ho, resolve, invoke, builtin, hs, hx, hrun, Result.andThen]
    exact h ao' cap' w (by rw [h0]; simpa using hown) (World.grownBy.refl _ _)
  | some ad =>
    refine wp_append_own w s x 22 ho base 27 i0 _ 2 16 Try.underlying22 hi hz0 hz1 hz2 rfl (by decide) v n (prs xs) hs hown ad m c (prs ys) hx (by rw [len_prs, hm]) ?_ (prs_one _) (by unfold maxLen; omega) (by omega) hbase ?_
    · intro j u hu
      obtain ⟨a', e, hcell⟩ := hy.cell j u hu
      cases e
      exact hcell
    · intro v' w' h1 h2 _
      obtain ⟨ao', cap', rfl⟩ := sl h1
      exact h ao' cap' w' h1 h2
theorem own1K (x : P) (w : World) : ((w.alloc (.cells #[.int .i64 x.1, .int .i64 x.2] 27)).alloc (.cells #[] 27)).ownsRow w.heap.size 27 2 (.slice (some ⟨w.heap.size + 1, 0, none⟩) 0 0) 0 (prs []) := by
  have := World.ownsRow_made (base := w.heap.size) (e := 27) (size := 2) (w.alloc (.cells #[.int .i64 x.1, .int .i64 x.2] 27)) #[] 0 (by simp) (by decide) (by simp)
  rw [prs_nil]
  simpa using this
theorem ks_at1 (x : P) (w : World) : Row ((w.alloc (.cells #[] 27)).alloc (.cells #[.int .i64 x.1, .int .i64 x.2] 27)) (some ⟨w.heap.size + 1, 0, none⟩) (prs [x]) := by
  have := one_pair (w.alloc (.cells #[] 27)) x 27
  simpa using this
theorem own_hasP {w : World} {B n cap : Nat} {ao : Option Addr} {l : List P} (h : w.ownsRow B 27 2 (.slice ao n cap) n (prs l)) (hl : n = l.length) : HasP w ao n cap l := MineP.has (E := 27) (B := B) ⟨hl, h⟩
theorem has_take {w : World} {ao : Option Addr} {n cap : Nat} {l : List Int} (h : Has w ao n cap l) (k : Nat) (hk : k ≤ n) : Has w ao k cap (l.take k) := by
  refine ⟨by have := h.len; simp; omega, h.nil, Nat.le_trans hk h.le, ⟨fun j u hu => ?_⟩⟩
  refine h.row.cell j u ?_
  have e : vals l = vals (l.take k) ++ vals (l.drop k) := by rw [← vals_app, List.take_append_drop]
  rw [e, List.getElem?_append_left (List.getElem?_eq_some_iff.1 hu).1]
  exact hu
theorem run_fromI (ao : Option Addr) (k n cap : Nat) (hk : k ≤ n) (W : World) :
    (Instr.slice 23 (.slice ao n cap) (some (.int .i64 k)) none none).run Try.prog W = .ok (.slice (if cap = k then ao else ao.map (·.add (k * 1))) (n - k) (cap - k)) W := by
  have hb := fun code => run_sliceBound (P := Try.prog) (w := W) .i64 (k : Int) n code (by omega) (by omega)
  simp [Instr.slice, Instr.sliceBounds, run_underlying Try.underlying23, hb, Try.sizeOf3]
theorem run_toI (ao : Option Addr) (k n cap : Nat) (hk : k ≤ cap) (W : World) :
    (Instr.slice 23 (.slice ao n cap) none (some (.int .i64 k)) none).run Try.prog W = .ok (.slice ao k cap) W := by
  have hb := fun code => run_sliceBound (P := Try.prog) (w := W) .i64 (k : Int) cap code (by omega) (by omega)
  have ha : ao.map (fun a => a.add 0) = ao := by cases ao <;> simp [Addr.add]
  simp [Instr.slice, Instr.sliceBounds, run_underlying Try.underlying23, hb, Try.sizeOf3, ha]
theorem vals_drop (l : List Int) (k j : Nat) : (vals (l.drop k))[j]? = (vals l)[k * 1 + j]? := by
  by_cases hk : k ≤ l.length
  · have e : vals l = vals (l.take k) ++ vals (l.drop k) := by rw [← vals_app, List.take_append_drop]
    rw [e, List.getElem?_append_right (by rw [len_vals, List.length_take]; omega)]
    congr 1
    rw [len_vals, List.length_take, Nat.min_eq_left hk]
    omega
  · rw [List.drop_eq_nil_of_le (by omega), List.getElem?_eq_none (by simp [vals]), List.getElem?_eq_none (by rw [len_vals]; omega)]
theorem has_drop {w : World} {ao : Option Addr} {n cap : Nat} {l : List Int} (h : Has w ao n cap l) (k : Nat) (hk : k ≤ n) : Has w (if cap = k then ao else ao.map (·.add (k * 1))) (n - k) (cap - k) (l.drop k) := by
  have hl := h.len
  have hc := h.le
  refine ⟨by simp; omega, ?_, by omega, ⟨fun j u hu => ?_⟩⟩
  · intro e
    split at e
    · omega
    · cases ao with
      | none => have := h.nil rfl; omega
      | some a => cases e
  · have hj := (List.getElem?_eq_some_iff.1 hu).1
    rw [len_vals, List.length_drop] at hj
    rw [vals_drop] at hu
    obtain ⟨a, rfl, hcell⟩ := h.row.cell _ u hu
    refine ⟨a.add (k * 1), by rw [if_neg (by omega)]; rfl, ?_⟩
    rw [add_add]
    exact hcell
theorem step_is (w : World) {ops : Array Oper} {o : Oper} {a : Act} {C : Act → World → Prop} {Q : Exit → Act → World → Prop} {E : Prop} (hgd : o.guard = none) (s x : Operand)
    (ho : o.op = .call { callee := .builtin .append, args := #[s, x], argTypes := #[23, 23] })
    (base : Nat) (v : Value) (n : Nat) (xs : List Int) (hs : a.eval s = v) (hown : w.ownsRow base 3 1 v n (vals xs))
    (ao : Option Addr) (m c : Nat) (ys : List Int) (hx : a.eval x = .slice ao m c) (hm : m = ys.length) (hc : ao = none → c = 0) (hy : Row w ao (vals ys))
    (N : Nat) (hN : n + m = N) (Z : List Int) (hZ : xs ++ ys = Z) (h63 : N ≤ 5000) (hbase : base ≤ w.heap.size)
    (h : ∀ ao' cap' w', w'.ownsRow base 3 1 (.slice ao' N cap') N (vals Z) → w.grownBy w' v.ownBlock → C (a.put o.dst (.slice ao' N cap')) w') :
    if Region.wanted o (yielded ops a.tmps) = true then Oper.wp Try.prog o a w C Q else E := by
  have hw : Region.wanted o (yielded ops a.tmps) = true := by simp [Region.wanted, hgd]
  rw [if_pos hw]
  subst hN hZ
  rw [vals_app] at h
  obtain ⟨i0, hi, hz0, hz1, hz2⟩ := info_of infoN
  have sl : ∀ {w' : World} {v' : Value} {k : Nat} {cs : List Value}, w'.ownsRow base 3 1 v' k cs → ∃ ao' cap', v' = .slice ao' k cap' := by
    intro w' v' k cs h
    rcases h.2 with ⟨rfl, rfl⟩ | ⟨g, cap, cur, rfl, _⟩
    · exact ⟨_, _, rfl⟩
    · exact ⟨_, _, rfl⟩
  cases ao with
  | none =>
    have h0 := row_none hy
    have hl := len_vals ys
    rw [h0] at hl
    have hm0 : m = 0 := by rw [hm]; simp at hl; omega
    subst hm0
    rw [hc rfl] at hx
    obtain ⟨ao', cap', rfl⟩ := sl hown
    have hrun := run_append_owned_none (P := Try.prog) (w := w) base 23 o.type 3 i0 1 Try.underlying23 hi _ n (vals xs) hown
    unfold Oper.wp
    simp [execOp, ho, resolve, invoke, builtin, hs, hx, hrun, Result.andThen]
    exact h ao' cap' w (by rw [h0]; simpa using hown) (World.grownBy.refl _ _)
  | some ad =>
    refine wp_append_own w s x 23 ho base 3 i0 _ 1 8 Try.underlying23 hi hz0 hz1 hz2 rfl (by decide) v n (vals xs) hs hown ad m c (vals ys) hx (by rw [len_vals, hm, Nat.mul_one]) ?_ (vals_one _) (by unfold maxLen; omega) (by omega) hbase ?_
    · intro j u hu
      obtain ⟨a', e, hcell⟩ := hy.cell j u hu
      cases e
      exact hcell
    · intro v' w' h1 h2 _
      obtain ⟨ao', cap', rfl⟩ := sl h1
      exact h ao' cap' w' h1 h2
theorem own1I (x : Int) (w : World) : ((w.alloc (.cells #[.int .i64 x] 3)).alloc (.cells #[] 3)).ownsRow w.heap.size 3 1 (.slice (some ⟨w.heap.size + 1, 0, none⟩) 0 0) 0 (vals []) := by
  have := World.ownsRow_made (base := w.heap.size) (e := 3) (size := 1) (w.alloc (.cells #[.int .i64 x] 3)) #[] 0 (by simp) (by decide) (by simp)
  rw [vals_nil]
  simpa using this
theorem is_at1 (x : Int) (w : World) : Row ((w.alloc (.cells #[] 3)).alloc (.cells #[.int .i64 x] 3)) (some ⟨w.heap.size + 1, 0, none⟩) (vals [x]) := by
  have := one_int (w.alloc (.cells #[] 3)) x 3
  simpa using this
theorem own_hasI {w : World} {B n cap : Nat} {ao : Option Addr} {l : List Int} (h : w.ownsRow B 3 1 (.slice ao n cap) n (vals l)) (hl : n = l.length) : Has w ao n cap l := MineI.has (B := B) ⟨hl, h⟩
end Go.Proofs.Ytcldnacpddebcaa.Gh
