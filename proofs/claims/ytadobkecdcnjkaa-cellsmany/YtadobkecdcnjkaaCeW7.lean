/- What Recs does. -/
import Derived.Test.YtadobkecdcnjkaaCeW6
namespace Go.Proofs.Ytadobkecdcnjkaa.Ce
open Go.RowKit

/-- A record lies at an address. -/
structure AtR (w : World) (a : Addr) (r : Rc) : Prop where
  c0 : w.cell? a = some (.int .i64 r.o.k)
  c1 : w.cell? ⟨a.block, a.off + 1, none⟩ = some (.int .i64 r.o.c)
  c2 : w.cell? ⟨a.block, a.off + 2, none⟩ = some (.int .i64 r.o.a)
  c3 : w.cell? ⟨a.block, a.off + 3, none⟩ = some (.int .i64 r.o.v)
  c4 : w.cell? ⟨a.block, a.off + 4, none⟩ = some (.int .i64 r.o.w)
  c5 : w.cell? ⟨a.block, a.off + 5, none⟩ = some (.int .i64 r.got)
  c6 : w.cell? ⟨a.block, a.off + 6, none⟩ = some (.bool r.ok)
theorem add_add (a : Addr) (i j : Nat) : (a.add i).add j = a.add (i + j) := by
  unfold Addr.add
  by_cases h1 : i = 0 <;> by_cases h2 : j = 0 <;> simp [h1, h2, Nat.add_assoc]
theorem add_off (a : Addr) (i : Nat) (h : i ≠ 0) : (⟨a.block, a.off + i, none⟩ : Addr) = a.add i := by simp [Addr.add, h]
theorem atR_of {w : World} {ao : Option Addr} {l : List Rc} (h : Row w ao (recs l)) (k : Nat) (hk : k < l.length) : ∃ a, ao = some a ∧ AtR w (a.add (k * 7)) (l.getD k Rc.zero) := by
  have g := fun (i : Nat) (hi : i < 7) (u : Value) (hu : (rcC (l.getD k Rc.zero))[i]? = some u) => h.cell (k * 7 + i) u ((recs_at l k i hi hk).trans hu)
  obtain ⟨a, rfl, h0⟩ := g 0 (by omega) _ rfl
  refine ⟨a, rfl, h0, ?_, ?_, ?_, ?_, ?_, ?_⟩
  all_goals rw [add_off _ _ (by decide), add_add]
  · obtain ⟨_, e, h⟩ := g 1 (by omega) _ rfl; cases e; exact h
  · obtain ⟨_, e, h⟩ := g 2 (by omega) _ rfl; cases e; exact h
  · obtain ⟨_, e, h⟩ := g 3 (by omega) _ rfl; cases e; exact h
  · obtain ⟨_, e, h⟩ := g 4 (by omega) _ rfl; cases e; exact h
  · obtain ⟨_, e, h⟩ := g 5 (by omega) _ rfl; cases e; exact h
  · obtain ⟨_, e, h⟩ := g 6 (by omega) _ rfl; cases e; exact h

set_option maxRecDepth 100000 in
set_option maxHeartbeats 1000000 in
theorem recs_same (ao bo : Option Addr) (n cap cap' : Nat) (la lb : List Rc) (w : World) (hs : n ≤ 5000) (HA : Hid (n = la.length)) (HB : Hid (n = lb.length)) (RA : Hid (Row w ao (recs la))) (RB : Hid (Row w bo (recs lb))) (hab : Hid (la = lb)) :
    Calls Try.prog 22 #[.slice ao n cap, .slice bo n cap'] w fun e w' => e = .returned (.bool true) ∧ ∃ nd, w' = w.drewN nd := by
  go_enter Try.func22, Try.ntmps22
  go_wp2
  go_loopw [5] (fun i wr => ∃ k : Nat, k ≤ n ∧ i = .int .i64 k ∧ ∃ nd, wr = w.drewN nd) (fun i _ => n - (intOf i).toNat)
  case atStart => exact ⟨0, Nat.zero_le _, rfl, 0, rfl⟩
  case round =>
    obtain ⟨k, hk, rfl, nd, rfl⟩ := hrel
    by_cases hlt : k < n
    · have i1 : (0 : Int) ≤ (k : Int) := by omega
      have i2 : (k : Int) < (n : Int) := by omega
      obtain ⟨a, rfl, ca⟩ := atR_of RA.out k (by have := HA.out; omega)
      obtain ⟨b, rfl, cb⟩ := atR_of RB.out k (by have := HB.out; omega)
      rw [← hab.out] at cb
      obtain ⟨r, hr⟩ : ∃ r, la.getD k Rc.zero = r := ⟨_, rfl⟩
      rw [hr] at ca cb
      clear hr
      obtain ⟨a0, a1, a2, a3, a4, a5, a6⟩ := ca
      obtain ⟨b0, b1, b2, b3, b4, b5, b6⟩ := cb
      have he := eq7 r r
      rw [eqRc_iff.2 rfl] at he
      go_wp2
      go_quiet (fail)
      go_wp2
      go_roundw
      case rel => exact ⟨k + 1, by omega, by go_num, _, rfl⟩
      case measure => simp [intOf]; omega
    · obtain rfl : k = n := by omega
      go_wp2
      go_ret
      exact ⟨rfl, _, rfl⟩
/-- Recs OF TWO LISTS THAT ARE THE SAME. -/
theorem recs_any (ao bo : Option Addr) (n cap cap' : Nat) (l : List Rc) (w : World) (hs : n ≤ 5000) (hA : n = l.length) (rA : Row w ao (recs l)) (rB : Row w bo (recs l)) :
    Calls Try.prog 22 #[.slice ao n cap, .slice bo n cap'] w fun e w' => e = .returned (.bool true) ∧ ∃ nd, w' = w.drewN nd :=
  recs_same ao bo n cap cap' l l w hs hA hA rA rB rfl
end Go.Proofs.Ytadobkecdcnjkaa.Ce
