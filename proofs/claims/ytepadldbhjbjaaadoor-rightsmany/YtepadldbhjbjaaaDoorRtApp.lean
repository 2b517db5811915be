/- append(own, l...) of numbers, nil or not; what is owned lies there. -/
import Derived.Test.YtepadldbhjbjaaaDoorRtW5
import Derived.Laws.AppendOwnNone
namespace Go.Proofs.YtepadldbhjbjaaaDoor.Rt
open Go.RowKit

theorem info3 : (Tryd.prog.info? 3).map (fun i => (i.zero, i.size, i.bytes)) = some (some (.int .i64 0), 1, 8) := by kernel_rfl
abbrev vals (l : List Int) : List Value := l.map (Value.int .i64)

theorem own_lies {w : World} {B n : Nat} {v : Value} {l : List Int} (h : w.ownsRow B 3 1 v n (vals l)) : ∃ ao cap, v = .slice ao n cap ∧ n = l.length ∧ n ≤ cap ∧ (ao = none → cap = 0) ∧ Lies w ao l := by
  have hl : n = l.length := by have := h.1; simpa using this.symm
  have hc := fun g hg => h.cells (g := g) hg
  rcases h.2 with ⟨rfl, rfl⟩ | ⟨g, cap, cur, rfl, _, _, hle, _, _, _⟩
  · exact ⟨none, 0, rfl, hl, Nat.le_refl _, fun _ => rfl, fun j hj => absurd hj (by omega)⟩
  · refine ⟨some ⟨g, 0, none⟩, cap, rfl, hl, hle, (fun h => by cases h), fun j hj => ⟨_, rfl, ?_⟩⟩
    exact hc g rfl j _ (by simp [vals, hj])

theorem Lies.below {w w' : World} {ao : Option Addr} {l : List Int} (h : Lies w ao l) (hb : Below w.heap.size w w') : Lies w' ao l := by
  intro j hj
  obtain ⟨a, e, hc⟩ := h j hj
  exact ⟨a, e, (hb.cell (World.block_lt_of_cell? w _ hc)).trans hc⟩

/-- append, AS A LAW FOR THE WALK: what is owned, and behind it what lies in the other slice. -/
theorem wpList_append_ints (w : World) {ops : Array Oper} {rest : List Oper} {o : Oper} {a : Act} {Q : Exit → Act → World → Prop} (hgd : o.guard = none) (s x : Operand)
    (ho : o.op = .call { callee := .builtin .append, args := #[s, x], argTypes := #[33, 33] })
    (base : Nat) (v : Value) (n : Nat) (xs : List Int) (hs : a.eval s = v) (hown : w.ownsRow base 3 1 v n (vals xs))
    (ao : Option Addr) (m c : Nat) (ys : List Int) (hx : a.eval x = .slice ao m c) (hm : m = ys.length) (hc : ao = none → c = 0) (hy : Lies w ao ys)
    (h63 : n + m ≤ 1000) (hbase : base ≤ w.heap.size)
    (h : ∀ v' w', w'.ownsRow base 3 1 v' (n + m) (vals (xs ++ ys)) → w.grownBy w' v.ownBlock → wpList Tryd.prog ops Q rest (a.put o.dst v') w') : wpList Tryd.prog ops Q (o :: rest) a w := by
  obtain ⟨i0, hi, hz0, hz1, hz2⟩ := info_parts info3
  cases ao with
  | none =>
    have hys : ys = [] := by
      cases ys with
      | nil => rfl
      | cons y r => obtain ⟨_, e, _⟩ := hy 0 (by simp); cases e
    subst hys
    have hm0 : m = 0 := hm
    subst hm0
    rw [hc rfl] at hx
    refine wpList_append_own_none hgd s x 33 ho base 3 i0 1 Tryd.underlying33 hi v n (vals xs) hs hown hx ?_
    exact h v w (by simpa using hown) (World.grownBy.refl _ _)
  | some ad =>
    refine wpList_append_own w hgd s x 33 ho base 3 i0 (.int .i64 0) 1 8 Tryd.underlying33 hi hz0 hz1 hz2 rfl (by decide) v n (vals xs) hs hown ad m c (vals ys) hx (by simp [hm]) ?_ (ints_oneCell _ _) (by unfold maxLen; omega) (by omega) hbase ?_
    · intro j u hu
      simp only [vals, List.getElem?_map, Option.map_eq_some_iff] at hu
      obtain ⟨z, hz, rfl⟩ := hu
      have hj := (List.getElem?_eq_some_iff.1 hz).1
      obtain ⟨a', e, hcell⟩ := hy j hj
      cases e
      rw [hcell]
      simp [List.getD, hz]
    · intro v' w' h1 h2 _
      refine h v' w' ?_ h2
      simpa [vals] using h1

theorem own0 (w : World) : (w.alloc (.cells #[] 3)).ownsRow w.heap.size 3 1 (.slice (some ⟨w.heap.size, 0, none⟩) 0 0) 0 (vals []) :=
  World.ownsRow_made w #[] 0 (Nat.le_refl _) (by decide) rfl
theorem app_below {w w1 : World} {n c : Nat} (h : (w.alloc (.cells #[] 3)).grownBy w1 (Value.ownBlock (.slice (some ⟨w.heap.size, 0, none⟩) n c))) : Below w.heap.size w w1 :=
  ((Below.refl _ w).alloc (Nat.le_refl _) _).grown h (by simp) (fun k e => by cases e; exact Nat.le_refl _)
theorem alloc_below (w : World) (o : Obj) : Below w.heap.size w (w.alloc o) := (Below.refl _ w).alloc (Nat.le_refl _) _
end Go.Proofs.YtepadldbhjbjaaaDoor.Rt
