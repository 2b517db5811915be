/- append at a step of a row: steps, keys. -/
import Derived.Test.YtilannincbcgkaaDoorAdRPut
namespace Go.Proofs.YtilannincbcgkaaDoor.Ad
open Go.RowKit

theorem step_steps (w : World) {ops : Array Oper} {o : Oper} {a : Act} {C : Act → World → Prop} {Q : Exit → Act → World → Prop} {E : Prop} (hw : Region.wanted o (yielded ops a.tmps) = true) (s x : Operand)
    (ho : o.op = .call { callee := .builtin .append, args := #[s, x], argTypes := #[63, 63] })
    (base : Nat) (v : Value) (n : Nat) (xs : List P) (hs : a.eval s = v) (hown : w.ownsRow base 70 2 v n (prs xs))
    (ao : Option Addr) (m c : Nat) (ys : List P) (hx : a.eval x = .slice ao m c) (hm : m = ys.length) (hc : ao = none → c = 0) (hy : Row w ao (prs ys))
    (N : Nat) (hN : n + m = N) (Z : List P) (hZ : xs ++ ys = Z) (h63 : N ≤ 5000) (hbase : base ≤ w.heap.size)
    (h : ∀ ao' cap' w', w'.ownsRow base 70 2 (.slice ao' N cap') N (prs Z) → w.grownBy w' v.ownBlock → C (a.put o.dst (.slice ao' N cap')) w') :
    if Region.wanted o (yielded ops a.tmps) = true then Oper.wp Tryd.prog o a w C Q else E := by
  rw [if_pos hw]
  subst hN hZ
  rw [prs_app] at h
  obtain ⟨i0, hi, hz0, hz1, hz2⟩ := info_of infoS
  have sl : ∀ {w' : World} {v' : Value} {k : Nat} {cs : List Value}, w'.ownsRow base 70 2 v' k cs → ∃ ao' cap', v' = .slice ao' k cap' := by
    intro w' v' k cs h
    rcases h.2 with ⟨rfl, rfl⟩ | ⟨g, cap, cur, rfl, _⟩
    · exact ⟨_, _, rfl⟩
    · exact ⟨_, _, rfl⟩
  cases ao with
  | none =>
    have h0 := row_none hy
    have hl := len_prs ys
    rw [h0] at hl
    have hm0 : m = 0 := by rw [hm]; simp at hl; omega
    subst hm0
    rw [hc rfl] at hx
    obtain ⟨ao', cap', rfl⟩ := sl hown
    have hrun := run_append_owned_none (P := Tryd.prog) (w := w) base 63 o.type 70 i0 2 Tryd.underlying63 hi _ n (prs xs) hown
    unfold Oper.wp
    simp [execOp, ho, resolve, invoke, builtin, hs, hx, hrun, Result.andThen]
    exact h ao' cap' w (by rw [h0]; simpa using hown) (World.grownBy.refl _ _)
  | some ad =>
    refine wp_append_own w s x 63 ho base 70 i0 _ 2 16 Tryd.underlying63 hi hz0 hz1 hz2 rfl (by decide) v n (prs xs) hs hown ad m c (prs ys) hx (by rw [len_prs, hm]) ?_ (prs_one _) (by unfold maxLen; omega) (by omega) hbase ?_
    · intro j u hu
      obtain ⟨a', e, hcell⟩ := hy.cell j u hu
      cases e
      exact hcell
    · intro v' w' h1 h2 _
      obtain ⟨ao', cap', rfl⟩ := sl h1
      exact h ao' cap' w' h1 h2
theorem own_hasP {w : World} {B n cap : Nat} {E : TypeId} {ao : Option Addr} {l : List P} (h : w.ownsRow B E 2 (.slice ao n cap) n (prs l)) (hl : n = l.length) : HasP w ao n cap l := MineP.has (B := B) ⟨hl, h⟩
end Go.Proofs.YtilannincbcgkaaDoor.Ad
