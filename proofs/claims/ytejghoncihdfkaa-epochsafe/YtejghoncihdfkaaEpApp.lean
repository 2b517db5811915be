/- append at a step of a row that draws its order: numbers, and those that wait. -/
import Derived.Test.YtejghoncihdfkaaEpRAdv
namespace Go.Proofs.Ytejghoncihdfkaa.Ep
open Go.RowKit

theorem step_ints (w : World) {ops : Array Oper} {o : Oper} {a : Act} {C : Act → World → Prop} {Q : Exit → Act → World → Prop} {E : Prop} (hw : Region.wanted o (yielded ops a.tmps) = true) (s x : Operand)
    (ho : o.op = .call { callee := .builtin .append, args := #[s, x], argTypes := #[30, 30] })
    (base : Nat) (v : Value) (n : Nat) (xs : List Int) (hs : a.eval s = v) (hown : w.ownsRow base 3 1 v n (vals xs))
    (ao : Option Addr) (m c : Nat) (ys : List Int) (hx : a.eval x = .slice ao m c) (hm : m = ys.length) (hc : ao = none → c = 0) (hy : Row w ao (vals ys))
    (N : Nat) (hN : n + m = N) (Z : List Int) (hZ : xs ++ ys = Z) (h63 : N ≤ 5000) (hbase : base ≤ w.heap.size)
    (h : ∀ ao' cap' w', w'.ownsRow base 3 1 (.slice ao' N cap') N (vals Z) → w.grownBy w' v.ownBlock → C (a.put o.dst (.slice ao' N cap')) w') :
    if Region.wanted o (yielded ops a.tmps) = true then Oper.wp Try.prog o a w C Q else E := by
  rw [if_pos hw]
  subst hN hZ
  rw [show vals (xs ++ ys) = vals xs ++ vals ys by simp] at h
  obtain ⟨i0, hi, hz0, hz1, hz2⟩ := info_of infoN
  have sl : ∀ {w' : World} {v' : Value} {k : Nat} {cs : List Value}, w'.ownsRow base 3 1 v' k cs → ∃ ao' cap', v' = .slice ao' k cap' := by
    intro w' v' k cs h
    rcases h.2 with ⟨rfl, rfl⟩ | ⟨g, cap, cur, rfl, _⟩
    · exact ⟨_, _, rfl⟩
    · exact ⟨_, _, rfl⟩
  cases ao with
  | none =>
    have h0 := row_none hy
    have hl := len_vals ys
    rw [h0] at hl
    have hm0 : m = 0 := by rw [hm]; simp at hl; omega
    subst hm0
    rw [hc rfl] at hx
    obtain ⟨ao', cap', rfl⟩ := sl hown
    have hrun := run_append_owned_none (P := Try.prog) (w := w) base 30 o.type 3 i0 1 Try.underlying30 hi _ n (vals xs) hown
    unfold Oper.wp
    simp [execOp, ho, resolve, invoke, builtin, hs, hx, hrun, Result.andThen]
    exact h ao' cap' w (by rw [h0]; simpa using hown) (World.grownBy.refl _ _)
  | some ad =>
    refine wp_append_own w s x 30 ho base 3 i0 _ 1 8 Try.underlying30 hi hz0 hz1 hz2 rfl (by decide) v n (vals xs) hs hown ad m c (vals ys) hx (by rw [len_vals, hm]; omega) ?_ (vals_one _) (by unfold maxLen; omega) (by omega) hbase ?_
    · intro j u hu
      obtain ⟨a', e, hcell⟩ := hy.cell j u hu
      cases e
      exact hcell
    · intro v' w' h1 h2 _
      obtain ⟨ao', cap', rfl⟩ := sl h1
      exact h ao' cap' w' h1 h2
theorem step_wts (w : World) {ops : Array Oper} {o : Oper} {a : Act} {C : Act → World → Prop} {Q : Exit → Act → World → Prop} {E : Prop} (hw : Region.wanted o (yielded ops a.tmps) = true) (s x : Operand)
    (ho : o.op = .call { callee := .builtin .append, args := #[s, x], argTypes := #[49, 49] })
    (base : Nat) (v : Value) (n : Nat) (xs : List W) (hs : a.eval s = v) (hown : w.ownsRow base 51 2 v n (wts xs))
    (ao : Option Addr) (m c : Nat) (ys : List W) (hx : a.eval x = .slice ao m c) (hm : m = ys.length) (hc : ao = none → c = 0) (hy : Row w ao (wts ys))
    (N : Nat) (hN : n + m = N) (Z : List W) (hZ : xs ++ ys = Z) (h63 : N ≤ 5000) (hbase : base ≤ w.heap.size)
    (h : ∀ ao' cap' w', w'.ownsRow base 51 2 (.slice ao' N cap') N (wts Z) → w.grownBy w' v.ownBlock → C (a.put o.dst (.slice ao' N cap')) w') :
    if Region.wanted o (yielded ops a.tmps) = true then Oper.wp Try.prog o a w C Q else E := by
  rw [if_pos hw]
  subst hN hZ
  rw [wts_app] at h
  obtain ⟨i0, hi, hz0, hz1, hz2⟩ := info_of infoW
  have sl : ∀ {w' : World} {v' : Value} {k : Nat} {cs : List Value}, w'.ownsRow base 51 2 v' k cs → ∃ ao' cap', v' = .slice ao' k cap' := by
    intro w' v' k cs h
    rcases h.2 with ⟨rfl, rfl⟩ | ⟨g, cap, cur, rfl, _⟩
    · exact ⟨_, _, rfl⟩
    · exact ⟨_, _, rfl⟩
  cases ao with
  | none =>
    have h0 := row_none hy
    have hl := len_wts ys
    rw [h0] at hl
    have hm0 : m = 0 := by rw [hm]; simp at hl; omega
    subst hm0
    rw [hc rfl] at hx
    obtain ⟨ao', cap', rfl⟩ := sl hown
    have hrun := run_append_owned_none (P := Try.prog) (w := w) base 49 o.type 51 i0 2 Try.underlying49 hi _ n (wts xs) hown
    unfold Oper.wp
    simp [execOp, ho, resolve, invoke, builtin, hs, hx, hrun, Result.andThen]
    exact h ao' cap' w (by rw [h0]; simpa using hown) (World.grownBy.refl _ _)
  | some ad =>
    refine wp_append_own w s x 49 ho base 51 i0 _ 2 16 Try.underlying49 hi hz0 hz1 hz2 rfl (by decide) v n (wts xs) hs hown ad m c (wts ys) hx (by rw [len_wts, hm]) ?_ (wts_one _) (by unfold maxLen; omega) (by omega) hbase ?_
    · intro j u hu
      obtain ⟨a', e, hcell⟩ := hy.cell j u hu
      cases e
      exact hcell
    · intro v' w' h1 h2 _
      obtain ⟨ao', cap', rfl⟩ := sl h1
      exact h ao' cap' w' h1 h2
theorem grow_below {w W w3 : World} {g n c : Nat} (hb : Below w.heap.size w W) (hg : W.grownBy w3 (Value.ownBlock (.slice (some ⟨g, 0, none⟩) n c))) (h : w.heap.size ≤ g) : Below w.heap.size w w3 :=
  hb.grown hg hb.size (fun k e => by cases e; exact h)
theorem own1 (x : W) (w : World) : ((w.alloc (.cells #[.int .i64 x.1, .int .i64 x.2] 51)).alloc (.cells #[] 51)).ownsRow w.heap.size 51 2 (.slice (some ⟨w.heap.size + 1, 0, none⟩) 0 0) 0 (wts []) := by
  have := World.ownsRow_made (base := w.heap.size) (e := 51) (size := 2) (w.alloc (.cells #[.int .i64 x.1, .int .i64 x.2] 51)) #[] 0 (by simp) (by decide) (by simp)
  rw [wts_nil]
  simpa using this
theorem row_grown {w w' : World} {b r n c : Nat} {cs : List Value} (h : Row w (some ⟨b, 0, none⟩) cs) (hg : w.grownBy w' (Value.ownBlock (.slice (some ⟨r, 0, none⟩) n c))) (hne : b ≠ r) : Row w' (some ⟨b, 0, none⟩) cs :=
  h.kept (kept_grown hg) (fun _ a e => by cases e; intro e2; exact hne (Option.some.inj e2))
theorem waste_at1 (x : W) (w : World) : Row ((w.alloc (.cells #[] 51)).alloc (.cells #[.int .i64 x.1, .int .i64 x.2] 51)) (some ⟨w.heap.size + 1, 0, none⟩) (wts [x]) := by
  have := one_waste (w.alloc (.cells #[] 51)) x 51
  simpa using this
theorem own_hasW {w : World} {B n cap : Nat} {ao : Option Addr} {l : List W} (h : w.ownsRow B 51 2 (.slice ao n cap) n (wts l)) (hl : n = l.length) : HasW w ao n cap l := MineW.has (B := B) ⟨hl, h⟩
theorem own_hasI {w : World} {B n cap : Nat} {e : TypeId} {ao : Option Addr} {l : List Int} (h : w.ownsRow B e 1 (.slice ao n cap) n (vals l)) : Has w ao n cap l := (own_mine h).has
end Go.Proofs.Ytejghoncihdfkaa.Ep
