/- append at a step of a row that draws its order, behind a guard or not. -/
import Derived.Test.YteohoipkdjhllaaCaTells
import Derived.Test.YteohoipkdjhllaaCaRMany
namespace Go.Proofs.Yteohoipkdjhllaa.Ca
open Go.RowKit

theorem step_ints (w : World) {ops : Array Oper} {o : Oper} {a : Act} {C : Act → World → Prop} {Q : Exit → Act → World → Prop} {E : Prop} (hw : Region.wanted o (yielded ops a.tmps) = true) (s x : Operand)
    (ho : o.op = .call { callee := .builtin .append, args := #[s, x], argTypes := #[36, 36] })
    (base : Nat) (v : Value) (n : Nat) (xs : List Int) (hs : a.eval s = v) (hown : w.ownsRow base 3 1 v n (vals xs))
    (ao : Option Addr) (m c : Nat) (ys : List Int) (hx : a.eval x = .slice ao m c) (hm : m = ys.length) (hc : ao = none → c = 0) (hy : Row w ao (vals ys))
    (N : Nat) (hN : n + m = N) (Z : List Int) (hZ : xs ++ ys = Z) (h63 : N ≤ 5000) (hbase : base ≤ w.heap.size)
    (h : ∀ ao' cap' w', w'.ownsRow base 3 1 (.slice ao' N cap') N (vals Z) → w.grownBy w' v.ownBlock → C (a.put o.dst (.slice ao' N cap')) w') :
    if Region.wanted o (yielded ops a.tmps) = true then Oper.wp Try.prog o a w C Q else E := by
  rw [if_pos hw]
  subst hN hZ
  rw [show vals (xs ++ ys) = vals xs ++ vals ys by simp] at h
  obtain ⟨i0, hi, hz0, hz1, hz2⟩ := info_of infoN
  have sl : ∀ {w' : World} {v' : Value} {k : Nat} {cs : List Value}, w'.ownsRow base 3 1 v' k cs → ∃ ao' cap', v' = .slice ao' k cap' := by
    intro w' v' k cs h
    rcases h.2 with ⟨rfl, rfl⟩ | ⟨g, cap, cur, rfl, _⟩
    · exact ⟨_, _, rfl⟩
    · exact ⟨_, _, rfl⟩
  cases ao with
  | none =>
    have h0 := row_none hy
    have hl := len_vals ys
    rw [h0] at hl
    have hm0 : m = 0 := by rw [hm]; simp at hl; omega
    subst hm0
    rw [hc rfl] at hx
    obtain ⟨ao', cap', rfl⟩ := sl hown
    have hrun := run_append_owned_none (P := Try.prog) (w := w) base 36 o.type 3 i0 1 Try.underlying36 hi _ n (vals xs) hown
    unfold Oper.wp
    simp [execOp, ho, resolve, invoke, builtin, hs, hx, hrun, Result.andThen]
    exact h ao' cap' w (by rw [h0]; simpa using hown) (World.grownBy.refl _ _)
  | some ad =>
    refine wp_append_own w s x 36 ho base 3 i0 _ 1 8 Try.underlying36 hi hz0 hz1 hz2 rfl (by decide) v n (vals xs) hs hown ad m c (vals ys) hx (by rw [len_vals, hm]; omega) ?_ (vals_one _) (by unfold maxLen; omega) (by omega) hbase ?_
    · intro j u hu
      obtain ⟨a', e, hcell⟩ := hy.cell j u hu
      cases e
      exact hcell
    · intro v' w' h1 h2 _
      obtain ⟨ao', cap', rfl⟩ := sl h1
      exact h ao' cap' w' h1 h2
theorem step_exts (w : World) {ops : Array Oper} {o : Oper} {a : Act} {C : Act → World → Prop} {Q : Exit → Act → World → Prop} {E : Prop} (hw : Region.wanted o (yielded ops a.tmps) = true) (s x : Operand)
    (ho : o.op = .call { callee := .builtin .append, args := #[s, x], argTypes := #[37, 37] })
    (base : Nat) (v : Value) (n : Nat) (xs : List X) (hs : a.eval s = v) (hown : w.ownsRow base 23 2 v n (exts xs))
    (ao : Option Addr) (m c : Nat) (ys : List X) (hx : a.eval x = .slice ao m c) (hm : m = ys.length) (hc : ao = none → c = 0) (hy : Row w ao (exts ys))
    (N : Nat) (hN : n + m = N) (Z : List X) (hZ : xs ++ ys = Z) (h63 : N ≤ 5000) (hbase : base ≤ w.heap.size)
    (h : ∀ ao' cap' w', w'.ownsRow base 23 2 (.slice ao' N cap') N (exts Z) → w.grownBy w' v.ownBlock → C (a.put o.dst (.slice ao' N cap')) w') :
    if Region.wanted o (yielded ops a.tmps) = true then Oper.wp Try.prog o a w C Q else E := by
  rw [if_pos hw]
  subst hN hZ
  rw [exts_app] at h
  obtain ⟨i0, hi, hz0, hz1, hz2⟩ := info_of infoX
  have sl : ∀ {w' : World} {v' : Value} {k : Nat} {cs : List Value}, w'.ownsRow base 23 2 v' k cs → ∃ ao' cap', v' = .slice ao' k cap' := by
    intro w' v' k cs h
    rcases h.2 with ⟨rfl, rfl⟩ | ⟨g, cap, cur, rfl, _⟩
    · exact ⟨_, _, rfl⟩
    · exact ⟨_, _, rfl⟩
  cases ao with
  | none =>
    have h0 := row_none hy
    have hl := len_exts ys
    rw [h0] at hl
    have hm0 : m = 0 := by rw [hm]; simp at hl; omega
    subst hm0
    rw [hc rfl] at hx
    obtain ⟨ao', cap', rfl⟩ := sl hown
    have hrun := run_append_owned_none (P := Try.prog) (w := w) base 37 o.type 23 i0 2 Try.underlying37 hi _ n (exts xs) hown
    unfold Oper.wp
    simp [execOp, ho, resolve, invoke, builtin, hs, hx, hrun, Result.andThen]
    exact h ao' cap' w (by rw [h0]; simpa using hown) (World.grownBy.refl _ _)
  | some ad =>
    refine wp_append_own w s x 37 ho base 23 i0 _ 2 16 Try.underlying37 hi hz0 hz1 hz2 rfl (by decide) v n (exts xs) hs hown ad m c (exts ys) hx (by rw [len_exts, hm]) ?_ (exts_one _) (by unfold maxLen; omega) (by omega) hbase ?_
    · intro j u hu
      obtain ⟨a', e, hcell⟩ := hy.cell j u hu
      cases e
      exact hcell
    · intro v' w' h1 h2 _
      obtain ⟨ao', cap', rfl⟩ := sl h1
      exact h ao' cap' w' h1 h2
theorem grow_below {w W w3 : World} {g n c : Nat} (hb : Below w.heap.size w W) (hg : W.grownBy w3 (Value.ownBlock (.slice (some ⟨g, 0, none⟩) n c))) (h : w.heap.size ≤ g) : Below w.heap.size w w3 :=
  hb.grown hg hb.size (fun k e => by cases e; exact h)
theorem own_hasX {w : World} {B n cap : Nat} {ao : Option Addr} {l : List X} (h : w.ownsRow B 23 2 (.slice ao n cap) n (exts l)) (hl : n = l.length) : HasX w ao n cap l := MineX.has (B := B) ⟨hl, h⟩
theorem own_hasI {w : World} {B n cap : Nat} {ao : Option Addr} {l : List Int} (h : w.ownsRow B 3 1 (.slice ao n cap) n (vals l)) : Has w ao n cap l := (own_mine h).has
section
variable {w : World}
theorem is_many {x : X} {v : Int} {ao : Option Addr} {n cap : Nat} {l : List Int} {L : List X} {u e : Int} (hs : n ≤ 1000) (h : Has w ao n cap l) (h1 : mnL x v l = L) (h2 : mnW x v l = u) (h3 : mnE x v l = e) :
    Calls Try.prog 23 #[(.agg #[.int .i64 x.1, .int .i64 x.2]), .int .i64 v, .slice ao n cap] w fun r w' => ∃ ao' cap', r = .returned (.tuple #[.slice ao' L.length cap', .int .i64 u, .int .i64 e]) ∧ HasX w' ao' L.length cap' L ∧ Below w.heap.size w w' := by
  subst h1 h2 h3
  exact many_any x v ao n cap l w hs h
theorem is_rmany {x : X} {v : Int} {ao : Option Addr} {n cap : Nat} {l : List Int} {L : List X} {u e : Int} (hs : n ≤ 1000) (h : Has w ao n cap l) (h1 : mnL x v l = L) (h2 : mnW x v l = u) (h3 : mnE x v l = e) :
    Calls Try.prog 24 #[(.agg #[.int .i64 x.1, .int .i64 x.2]), .int .i64 v, .slice ao n cap] w fun r w' => ∃ ao' cap', r = .returned (.tuple #[.slice ao' L.length cap', .int .i64 u, .int .i64 e]) ∧ HasX w' ao' L.length cap' L ∧ Below w.heap.size w w' := by
  subst h1 h2 h3
  exact rmany_any x v ao n cap l w hs h
end
end Go.Proofs.Yteohoipkdjhllaa.Ca
