/- append(own, l...) of numbers at a step of a region that draws its order; a slice of a list. -/
import Derived.Test.YtepadldbhjbjaaaDoorRtApp
import Derived.Deep.AppendLies
import Derived.Deep.Slices
namespace Go.Proofs.YtepadldbhjbjaaaDoor.Rt
open Go.RowKit

/-- append, AT Oper.wp: what is owned, and behind it what lies in the other slice; the new value is a slice. -/
theorem wp_append_ints (w : World) {o : Oper} {a : Act} {K : Act → World → Prop} {Q : Exit → Act → World → Prop} (s x : Operand)
    (ho : o.op = .call { callee := .builtin .append, args := #[s, x], argTypes := #[33, 33] })
    (base : Nat) (v : Value) (n : Nat) (xs : List Int) (hs : a.eval s = v) (hown : w.ownsRow base 3 1 v n (vals xs))
    (ad : Addr) (m c : Nat) (ys : List Int) (hx : a.eval x = .slice (some ad) m c) (hm : m = ys.length) (hy : Lies w (some ad) ys)
    (N : Nat) (hN : n + m = N) (Z : List Int) (hZ : xs ++ ys = Z) (h63 : N ≤ 1000) (hbase : base ≤ w.heap.size)
    (h : ∀ ao' cap' w', w'.ownsRow base 3 1 (.slice ao' N cap') N (vals Z) → w.grownBy w' v.ownBlock → K (a.put o.dst (.slice ao' N cap')) w') : o.wp Tryd.prog a w K Q := by
  subst hN
  subst hZ
  obtain ⟨i0, hi, hz0, hz1, hz2⟩ := info_parts info3
  refine wp_append_own w s x 33 ho base 3 i0 (.int .i64 0) 1 8 Tryd.underlying33 hi hz0 hz1 hz2 rfl (by decide) v n (vals xs) hs hown ad m c (vals ys) hx (by simp [hm]) ?_ (ints_oneCell _ _) (by unfold maxLen; omega) (by omega) hbase ?_
  · intro j u hu
    simp only [vals, List.getElem?_map, Option.map_eq_some_iff] at hu
    obtain ⟨z, hz, rfl⟩ := hu
    have hj := (List.getElem?_eq_some_iff.1 hz).1
    obtain ⟨a', e, hcell⟩ := hy j hj
    cases e
    rw [hcell]
    simp [List.getD, hz]
  · intro v' w' h1 h2 _
    have h3 : w'.ownsRow base 3 1 v' (n + m) (vals (xs ++ ys)) := by simpa [vals] using h1
    obtain ⟨ao', cap', rfl, _⟩ := own_lies h3
    exact h ao' cap' w' h3 h2

theorem step_append_ints (w : World) {ops : Array Oper} {o : Oper} {a : Act} {K : Act → World → Prop} {Q : Exit → Act → World → Prop} {E : Prop} (hgd : o.guard = none) (s x : Operand)
    (ho : o.op = .call { callee := .builtin .append, args := #[s, x], argTypes := #[33, 33] })
    (base : Nat) (v : Value) (n : Nat) (xs : List Int) (hs : a.eval s = v) (hown : w.ownsRow base 3 1 v n (vals xs))
    (ad : Addr) (m c : Nat) (ys : List Int) (hx : a.eval x = .slice (some ad) m c) (hm : m = ys.length) (hy : Lies w (some ad) ys)
    (N : Nat) (hN : n + m = N) (Z : List Int) (hZ : xs ++ ys = Z) (h63 : N ≤ 1000) (hbase : base ≤ w.heap.size)
    (h : ∀ ao' cap' w', w'.ownsRow base 3 1 (.slice ao' N cap') N (vals Z) → w.grownBy w' v.ownBlock → K (a.put o.dst (.slice ao' N cap')) w') :
    if Region.wanted o (yielded ops a.tmps) = true then Oper.wp Tryd.prog o a w K Q else E := by
  have hw : Region.wanted o (yielded ops a.tmps) = true := by simp [Region.wanted, hgd]
  rw [if_pos hw]
  exact wp_append_ints w s x ho base v n xs hs hown ad m c ys hx hm hy N hN Z hZ h63 hbase h

theorem own_lies2 {w : World} {B n cap : Nat} {ao : Option Addr} {l : List Int} (h : w.ownsRow B 3 1 (.slice ao n cap) n (vals l)) : n = l.length ∧ n ≤ cap ∧ (ao = none → cap = 0) ∧ Lies w ao l := by
  obtain ⟨ao', cap', e, h1, h2, h3, h4⟩ := own_lies h
  cases e
  exact ⟨h1, h2, h3, h4⟩
theorem one_lies (x : Int) (w : World) : Lies (w.alloc (.cells #[.int .i64 x] 3)) (some ⟨w.heap.size, 0, none⟩) [x] := by
  intro j hj
  refine ⟨_, rfl, ?_⟩
  obtain rfl : j = 0 := by simp at hj; omega
  simp [Addr.add]
theorem own1 (x : Int) (w : World) : ((w.alloc (.cells #[.int .i64 x] 3)).alloc (.cells #[] 3)).ownsRow w.heap.size 3 1 (.slice (some ⟨w.heap.size + 1, 0, none⟩) 0 0) 0 (vals []) := by
  have := World.ownsRow_made (base := w.heap.size) (e := 3) (size := 1) (w.alloc (.cells #[.int .i64 x] 3)) #[] 0 (by simp) (by decide) rfl
  simpa using this
/-- What lies elsewhere than in the row that grew lies there still. -/
theorem lies_grown {w w' : World} {r b n c : Nat} {l : List Int} (h : Lies w (some ⟨b, 0, none⟩) l) (hg : w.drew.grownBy w' (Value.ownBlock (.slice (some ⟨r, 0, none⟩) n c))) (hne : b ≠ r) : Lies w' (some ⟨b, 0, none⟩) l := by
  intro j hj
  obtain ⟨a, e, hc⟩ := h j hj
  cases e
  refine ⟨_, rfl, hg.cell (w := w.drew) hc ?_⟩
  intro e
  have hb : (Addr.add ⟨b, 0, none⟩ j).block = b := by unfold Addr.add; split <;> rfl
  rw [hb] at e
  exact hne (Option.some.inj e)
theorem lies_one1 (x : Int) (w : World) : Lies ((w.alloc (.cells #[] 3)).alloc (.cells #[.int .i64 x] 3)) (some ⟨w.heap.size + 1, 0, none⟩) [x] := by
  have := one_lies x (w.alloc (.cells #[] 3))
  simpa using this
theorem grow_below {w W w3 : World} {g n c : Nat} (hb : Below w.heap.size w W) (hg : W.grownBy w3 (Value.ownBlock (.slice (some ⟨g, 0, none⟩) n c))) (h : w.heap.size ≤ g) : Below w.heap.size w w3 :=
  hb.grown hg hb.size (fun k e => by cases e; exact h)
theorem lies_take {w : World} {a : Addr} {l : List Int} (h : Lies w (some a) l) (k : Nat) : Lies w (some a) (l.take k) := by
  intro j hj
  obtain ⟨a', e, hc⟩ := h j (by simp at hj; omega)
  cases e
  refine ⟨a, rfl, hc.trans ?_⟩
  have : j < k := by simp at hj; omega
  simp [List.getD, this]
theorem lies_drop {w : World} {a : Addr} {l : List Int} (h : Lies w (some a) l) (k : Nat) : Lies w (some (a.add k)) (l.drop k) := by
  intro j hj
  obtain ⟨a', e, hc⟩ := h (k + j) (by simp at hj; omega)
  cases e
  refine ⟨_, rfl, ?_⟩
  rw [Deep.add_add, hc]
  simp [List.getD]
end Go.Proofs.YtepadldbhjbjaaaDoor.Rt
