/- append onto a slice that has no room behind it: a row of one's own; and append of nothing. -/
import Derived.Test.YtcldnacpddebcaaPkB
import Derived.Deep.RegionHeld3
namespace Go.Proofs.Ytcldnacpddebcaa.Tr
open Go.RowKit

theorem run_full (w : World) (ty : TypeId) (ao : Option Addr) (n : Nat) (xs : List Br) (hn : n = xs.length) (hr : Row w ao (brs xs)) (bo : Option Addr) (m c : Nat) (ys : List Br) (hm : m = ys.length) (hp : 0 < m) (hy : Row w bo (brs ys)) (h63 : n + m ≤ 5000) :
    ∃ ao' cap' w', (Builtin.append_ #[51, 51] ty #[.slice ao n n, .slice bo m c]).run Try.prog w = .ok (.slice ao' (n + m) cap') w' ∧ w'.ownsRow w.heap.size 79 4 (.slice ao' (n + m) cap') (n + m) (brs (xs ++ ys)) ∧ Below w.heap.size w w' := by
  obtain ⟨i0, hi, hz0, hz1, hz2⟩ := info_of infoB
  have hly : (brs ys).length = m * i0.size := by rw [len_brs, hm, hz1]
  have hlx : (brs xs).length = n * i0.size := by rw [len_brs, hn, hz1]
  obtain ⟨ad, rfl⟩ : ∃ ad, bo = some ad := by
    obtain ⟨a, e, _⟩ := hy.lt (by rw [len_brs]; omega)
    exact ⟨a, e⟩
  have hnews : ∀ j u, (brs ys)[j]? = some u → w.cell? (ad.add j) = some u := fun j u hu => by
    obtain ⟨a', e, hcell⟩ := hy.cell j u hu
    cases e
    exact hcell
  have grown : ∀ (old : Nat), 
      (w.drew.alloc (.cells ((brs xs).toArray ++ (brs ys).toArray ++ Builtin.zeroCells (Value.cells (.agg #[.int .i64 0, .int .i64 0, .int .i64 0, .bool false])) (grownCap w (n + m) old 79 - (n + m))) 79)).ownsRow w.heap.size 79 4
        (.slice (some ⟨w.heap.size, 0, none⟩) (n + m) (grownCap w (n + m) old 79)) (n + m) (brs (xs ++ ys)) ∧
      Below w.heap.size w (w.drew.alloc (.cells ((brs xs).toArray ++ (brs ys).toArray ++ Builtin.zeroCells (Value.cells (.agg #[.int .i64 0, .int .i64 0, .int .i64 0, .bool false])) (grownCap w (n + m) old 79 - (n + m))) 79)) := by
    intro old
    have hge := grownCap_ge w (n + m) old 79
    have hcm : grownCap w (n + m) old 79 ≤ maxLen := grownCap_le_maxLen w (n + m) old 79 (by unfold maxLen; omega)
    refine ⟨⟨by rw [len_brs, List.length_append, hn, hm], .inr ⟨w.heap.size, _, _, rfl, Nat.le_refl _, heap_alloc_new w.drew _, hge, hcm, ?_, ?_⟩⟩, (Below.refl _ w).drew.alloc (Nat.le_refl _) _⟩
    · simp only [Array.size_append, List.size_toArray, size_zeroCells, len_brs]
      rw [show (Value.cells (.agg #[.int .i64 0, .int .i64 0, .int .i64 0, .bool false])).size = 4 from rfl]
      omega
    · simp only [Array.toList_append, List.append_assoc]
      rw [← List.append_assoc, ← brs_app, show (n + m) * 4 = (brs (xs ++ ys)).length by rw [len_brs, List.length_append, hn, hm]]
      exact List.take_left
  have g63 : ((n + m : Nat) : Int) ≤ 9223372036854775807 := by omega
  cases ao with
  | none =>
    have h0 := row_none hr
    have hx0 : xs = [] := by
      have hl := len_brs xs
      rw [h0] at hl
      exact List.eq_nil_of_length_eq_zero (by simp at hl; omega)
    subst hx0
    have hn0 : n = 0 := hn
    subst hn0
    have hr := run_append_nil (P := Try.prog) w 51 ty 79 i0 _ Try.underlying51 hi hz0 ad m c (brs ys) hly hnews hp (by omega) (by rw [hz2]; omega)
    have hg := grown 0
    simp only [Nat.zero_add, List.nil_append, brs_nil, Array.empty_append] at hg ⊢
    exact ⟨_, _, _, hr, hg.1, hg.2⟩
  | some b =>
    have holds : ∀ j u, (brs xs)[j]? = some u → w.cell? (b.add j) = some u := fun j u hu => by
      obtain ⟨a', e, hcell⟩ := hr.cell j u hu
      cases e
      exact hcell
    have hr := run_append_grow (P := Try.prog) w 51 ty 79 i0 _ Try.underlying51 hi hz0 b n n (brs xs) hlx holds ad m c (brs ys) hly hnews (by omega) g63 (growslice_fits (by omega) (by rw [hz2]; omega))
    exact ⟨_, _, _, hr, (grown n).1, (grown n).2⟩
/-- append ONTO A SLICE THAT HAS NO ROOM, at a step of a region. -/
theorem step_full (w : World) {ops : Array Oper} {o : Oper} {a : Act} {C : Act → World → Prop} {Q : Exit → Act → World → Prop} {E : Prop} (hgd : o.guard = none) (s x : Operand)
    (ho : o.op = .call { callee := .builtin .append, args := #[s, x], argTypes := #[51, 51] })
    (ao : Option Addr) (n : Nat) (xs : List Br) (hs : a.eval s = .slice ao n n) (hn : n = xs.length) (hr : Row w ao (brs xs))
    (bo : Option Addr) (m c : Nat) (ys : List Br) (hx : a.eval x = .slice bo m c) (hm : m = ys.length) (hp : 0 < m) (hy : Row w bo (brs ys))
    (N : Nat) (hN : n + m = N) (Z : List Br) (hZ : xs ++ ys = Z) (h63 : N ≤ 5000)
    (h : ∀ ao' cap' w', w'.ownsRow w.heap.size 79 4 (.slice ao' N cap') N (brs Z) → Below w.heap.size w w' → C (a.put o.dst (.slice ao' N cap')) w') :
    if Region.wanted o (yielded ops a.tmps) = true then Oper.wp Try.prog o a w C Q else E := by
  have hw : Region.wanted o (yielded ops a.tmps) = true := by simp [Region.wanted, hgd]
  rw [if_pos hw]
  subst hN hZ
  obtain ⟨ao', cap', w', hrun, h1, h2⟩ := run_full w o.type ao n xs hn hr bo m c ys hm hp hy h63
  unfold Oper.wp execOp
  simp only [ho, resolve, invoke, builtin, Sem.run_bind, Sem.run_pure, Result.andThen_ok, List.map_toArray, List.map_cons, List.map_nil, hs, hx, hrun]
  exact h ao' cap' w' h1 h2
theorem run_none (w : World) (ty : TypeId) (ao : Option Addr) (n cap : Nat) (hc : n ≤ cap) (bo : Option Addr) (c : Nat) :
    (Builtin.append_ #[51, 51] ty #[.slice ao n cap, .slice bo 0 c]).run Try.prog w = .ok (.slice ao n cap) w := by
  obtain ⟨i0, hi, hz0, hz1, hz2⟩ := info_of infoB
  cases ao <;> cases bo <;> simp [Builtin.append_, run_underlying Try.underlying51, sizeOf, typeInfo, hi, Builtin.lenOf, hc, Builtin.firstCells, loadCells, loadCellsFrom, storeCells]
/-- append OF NOTHING. -/
theorem step_none (w : World) {ops : Array Oper} {o : Oper} {a : Act} {C : Act → World → Prop} {Q : Exit → Act → World → Prop} {E : Prop} (hgd : o.guard = none) (s x : Operand)
    (ho : o.op = .call { callee := .builtin .append, args := #[s, x], argTypes := #[51, 51] })
    (ao : Option Addr) (n cap : Nat) (hs : a.eval s = .slice ao n cap) (hn : n ≤ cap) (bo : Option Addr) (c : Nat) (hx : a.eval x = .slice bo 0 c)
    (h : C (a.put o.dst (.slice ao n cap)) w) :
    if Region.wanted o (yielded ops a.tmps) = true then Oper.wp Try.prog o a w C Q else E := by
  have hw : Region.wanted o (yielded ops a.tmps) = true := by simp [Region.wanted, hgd]
  rw [if_pos hw]
  have hrun := run_none w o.type ao n cap hn bo c
  unfold Oper.wp execOp
  simp only [ho, resolve, invoke, builtin, Sem.run_bind, Sem.run_pure, Result.andThen_ok, List.map_toArray, List.map_cons, List.map_nil, hs, hx, hrun]
  exact h
end Go.Proofs.Ytcldnacpddebcaa.Tr
