/- What the document's insert does. -/
import Derived.Test.YthonibklaijejabOrMerge
import Derived.Deep.RegionHeld3
namespace Go.Proofs.Ythonibklaijejab.Or
open Go.RowKit

/-- append AT A STEP OF A REGION THAT DRAWS ITS ORDER. -/
theorem step_append_keys (w : World) {ops : Array Oper} {o : Oper} {a : Act} {C : Act → World → Prop} {Q : Exit → Act → World → Prop} {E : Prop} (hgd : o.guard = none) (s x : Operand)
    (ho : o.op = .call { callee := .builtin .append, args := #[s, x], argTypes := #[32, 32] })
    (base : Nat) (v : Value) (n : Nat) (xs : List K) (hs : a.eval s = v) (hown : w.ownsRow base 23 2 v n (keys xs))
    (ao : Option Addr) (m c : Nat) (ys : List K) (hx : a.eval x = .slice ao m c) (hm : m = ys.length) (hc : ao = none → c = 0) (hy : Row w ao (keys ys))
    (N : Nat) (hN : n + m = N) (Z : List K) (hZ : xs ++ ys = Z) (h63 : N ≤ 5000) (hbase : base ≤ w.heap.size)
    (h : ∀ ao' cap' w', w'.ownsRow base 23 2 (.slice ao' N cap') N (keys Z) → w.grownBy w' v.ownBlock → C (a.put o.dst (.slice ao' N cap')) w') :
    if Region.wanted o (yielded ops a.tmps) = true then Oper.wp Try.prog o a w C Q else E := by
  have hw : Region.wanted o (yielded ops a.tmps) = true := by simp [Region.wanted, hgd]
  rw [if_pos hw]
  subst hN hZ
  rw [keys_app] at h
  obtain ⟨i0, hi, hz0, hz1, hz2⟩ := info_of infoK
  have sl : ∀ {w' : World} {v' : Value} {k : Nat} {cs : List Value}, w'.ownsRow base 23 2 v' k cs → ∃ ao' cap', v' = .slice ao' k cap' := by
    intro w' v' k cs h
    rcases h.2 with ⟨rfl, rfl⟩ | ⟨g, cap, cur, rfl, _⟩
    · exact ⟨_, _, rfl⟩
    · exact ⟨_, _, rfl⟩
  cases ao with
  | none =>
    have h0 := row_none hy
    have hl := len_keys ys
    rw [h0] at hl
    have hm0 : m = 0 := by rw [hm]; simp at hl; omega
    subst hm0
    rw [hc rfl] at hx
    obtain ⟨ao', cap', rfl⟩ := sl hown
    have hrun := run_append_owned_none (P := Try.prog) (w := w) base 32 o.type 23 i0 2 Try.underlying32 hi _ n (keys xs) hown
    unfold Oper.wp
    simp [execOp, ho, resolve, invoke, builtin, hs, hx, hrun, Result.andThen]
    exact h ao' cap' w (by rw [h0]; simpa using hown) (World.grownBy.refl _ _)
  | some ad =>
    refine wp_append_own w s x 32 ho base 23 i0 _ 2 16 Try.underlying32 hi hz0 hz1 hz2 rfl (by decide) v n (keys xs) hs hown ad m c (keys ys) hx (by rw [len_keys, hm]) ?_ (keys_one _) (by unfold maxLen; omega) (by omega) hbase ?_
    · intro j u hu
      obtain ⟨a', e, hcell⟩ := hy.cell j u hu
      cases e
      exact hcell
    · intro v' w' h1 h2 _
      obtain ⟨ao', cap', rfl⟩ := sl h1
      exact h ao' cap' w' h1 h2
/-- A key's box is as it was. -/
theorem box_keep {W w' : World} {b : Nat} {k : K} (h : W.cell? ⟨b, 0, none⟩ = some (.int .i64 k.1) ∧ W.cell? ⟨b, 1, none⟩ = some (.int .i64 k.2)) (hb : Below W.heap.size W w') : w'.cell? ⟨b, 0, none⟩ = some (.int .i64 k.1) ∧ w'.cell? ⟨b, 1, none⟩ = some (.int .i64 k.2) :=
  ⟨(hb.cell (World.block_lt_of_cell? W _ h.1)).trans h.1, (hb.cell (World.block_lt_of_cell? W _ h.2)).trans h.2⟩

theorem own1 (x : K) (w : World) : ((w.alloc (.cells #[.int .i64 x.1, .int .i64 x.2] 23)).alloc (.cells #[] 23)).ownsRow w.heap.size 23 2 (.slice (some ⟨w.heap.size + 1, 0, none⟩) 0 0) 0 (keys []) := by
  have := World.ownsRow_made (base := w.heap.size) (e := 23) (size := 2) (w.alloc (.cells #[.int .i64 x.1, .int .i64 x.2] 23)) #[] 0 (by simp) (by decide) (by simp)
  rw [keys_nil]
  simpa using this
theorem row_grown {w w' : World} {b r n c : Nat} {cs : List Value} (h : Row w (some ⟨b, 0, none⟩) cs) (hg : w.grownBy w' (Value.ownBlock (.slice (some ⟨r, 0, none⟩) n c))) (hne : b ≠ r) : Row w' (some ⟨b, 0, none⟩) cs :=
  h.kept (kept_grown hg) (fun _ a e => by cases e; intro e2; exact hne (Option.some.inj e2))
theorem grow_below {w W w3 : World} {g n c : Nat} (hb : Below w.heap.size w W) (hg : W.grownBy w3 (Value.ownBlock (.slice (some ⟨g, 0, none⟩) n c))) (h : w.heap.size ≤ g) : Below w.heap.size w w3 :=
  hb.grown hg hb.size (fun k e => by cases e; exact h)
theorem key_at1 (x : K) (w : World) : Row ((w.alloc (.cells #[] 23)).alloc (.cells #[.int .i64 x.1, .int .i64 x.2] 23)) (some ⟨w.heap.size + 1, 0, none⟩) (keys [x]) := by
  have := one_key (w.alloc (.cells #[] 23)) x 23
  simpa using this
theorem own_has {w : World} {B n cap : Nat} {ao : Option Addr} {l : List K} (h : w.ownsRow B 23 2 (.slice ao n cap) n (keys l)) (hl : n = l.length) : Has w ao n cap l := Mine.has (B := B) ⟨hl, h⟩

end Go.Proofs.Ythonibklaijejab.Or
