/- What small does. -/
import Derived.Test.YtnagpedkmfmniaaArW6
import Derived.Test.YtnagpedkmfmniaaArState
namespace Go.Proofs.Ytnagpedkmfmniaa.Ar
open Go.RowKit Go.Proofs.Ytnagpedkmfmniaa.Ha

/-- What small asks. -/
structure SmB (a : Ar) : Prop where
  t : a.ts.length ≤ 70
  f : a.fr.length ≤ 70
  e : ∀ i, i < a.fr.length → (a.fr.getD i []).length ≤ 300
  r : RefB a 1000000000
/-- The answer, and what it tells. -/
def SmR (e : Ending) (a : Ar) : Prop := ∃ b, e = .returned (.bool b) ∧ (b = true → SmB a)
theorem SmB.sm {a : Ar} (h : SmB a) : Sm a := by
  refine ⟨by have := h.t; omega, by have := h.f; omega, fun i => ?_⟩
  by_cases hi : i < a.fr.length
  · have := h.e i hi; omega
  · rw [show a.fr.getD i [] = [] by simp [List.getD, List.getElem?_eq_none (Nat.le_of_not_lt hi)]]; simp
set_option maxRecDepth 100000 in
set_option maxHeartbeats 2000000 in
theorem small_any (x : Wh) (a : Ar) (w : World) (HH : Hid (HasA w x a)) :
    Calls Try.prog 9 #[(.agg #[.slice x.t.o x.t.n x.t.c, .slice x.f.o x.f.n x.f.c])] w fun e w' => SmR e a ∧ Below w.heap.size w w' := by
  have HTN := hid HH.out.tn
  have HFN := hid HH.out.fn
  by_cases h1 : x.t.n ≤ 70
  · by_cases h2 : x.f.n ≤ 70
    · obtain ⟨⟨xo, tn, tc⟩, ⟨fo, fn, fc⟩⟩ := x
      have HTN : Hid (tn = a.ts.length) := HTN
      have HFN : Hid (fn = a.fr.length) := HFN
      have h1 : tn ≤ 70 := h1
      have h2 : fn ≤ 70 := h2
      have i0 : (tn : Int) ≤ 70 := by omega
      have i00 : (fn : Int) ≤ 70 := by omega
      have HB := hid (bx_new w ⟨⟨xo, tn, tc⟩, ⟨fo, fn, fc⟩⟩)
      go_enter Try.func9, Try.ntmps9
      go_wp2
      generalize w.alloc _ = W at HB ⊢
      obtain ⟨c0, c1, cf⟩ := HB.out.box
      go_loop [3, 4] (fun n i => ∃ (k : Nat) (N : Int), k ≤ fn ∧ i = .int .i64 k ∧ n = .int .i64 N ∧ 0 ≤ N ∧ N ≤ 1000 * k ∧ Hid (N ≤ 300 → ∀ j, j < k → (a.fr.getD j []).length ≤ 300)) (fun n i => fn - (intOf i).toNat)
      case atStart => exact ⟨0, 0, Nat.zero_le _, rfl, rfl, by omega, by omega, fun _ j hj => absurd hj (by omega)⟩
      case round =>
        obtain ⟨k, N, hk, rfl, rfl, hN0, hN1, HQ⟩ := hrel
        by_cases hlt : k < fn
        · have i1 : (0 : Int) ≤ (k : Int) := by omega
          have i2 : (k : Int) < (fn : Int) := by omega
          obtain ⟨fa, o1, m1, x1, e, ca, hA⟩ := (HH.out.below HB.out.low).list k (by have := HFN.out; omega)
          have e : fo = some fa := e
          subst e
          have HM := hid hA.len
          clear hA
          go_wp2
          refine ⟨⟨k + 1, _, by omega, by go_num, rfl, ?_, ?_, ?_⟩, by simp [intOf]; omega⟩
          · split <;> omega
          · split <;> omega
          · intro hN j hj
            have hm := HM.out
            by_cases e : j = k
            · subst e
              split at hN <;> omega
            · exact HQ.out (by split at hN <;> omega) j (by omega)
        · obtain rfl : k = fn := by omega
          go_wp2
          go_loop [5] (fun i => ∃ q : Nat, q ≤ tn ∧ i = .int .i64 q ∧ Hid (∀ j, j < q → (a.ts.getD j Th.zero).refs ≤ 1000000000)) (fun i => tn - (intOf i).toNat)
          case atStart => exact ⟨0, Nat.zero_le _, rfl, fun j hj => absurd hj (by omega)⟩
          case round =>
            obtain ⟨q, hq, rfl, HR⟩ := hrel
            by_cases hlt : q < tn
            · have i1 : (0 : Int) ≤ (q : Int) := by omega
              have i2 : (q : Int) < (tn : Int) := by omega
              obtain ⟨ta, e, hAt⟩ := (HH.out.below HB.out.low).t.at_ q hlt
              have e : xo = some ta := e
              subst e
              have t2 := hAt.c2
              obtain ⟨r, hr⟩ : ∃ r, (a.ts.getD q Th.zero).refs = r := ⟨_, rfl⟩
              rw [hr] at t2
              have HRR := hid hr
              clear hAt hr
              by_cases h3 : r ≤ 1000000000
              · have HR2 : Hid (∀ j, j < q + 1 → (a.ts.getD j Th.zero).refs ≤ 1000000000) := by
                  intro j hj
                  by_cases e : j = q
                  · subst e; rw [HRR.out]; exact h3
                  · exact HR.out j (by omega)
                go_wp2
                go_round
                case rel => exact ⟨q + 1, by omega, by go_num, HR2⟩
                case measure => simp [intOf]; omega
              · go_wp2
                go_ret
                exact ⟨⟨_, rfl, fun e => by cases e⟩, HB.out.low⟩
            · obtain rfl : q = tn := by omega
              go_wp2
              go_ret
              refine ⟨⟨_, rfl, fun e => ?_⟩, HB.out.low⟩
              have hN : N ≤ 300 := of_decide_eq_true e
              exact ⟨by have := HTN.out; omega, by have := HFN.out; omega, fun i hi => HQ.out hN i (by have := HFN.out; omega), fun j hj => HR.out j (by have := HTN.out; omega)⟩
    · have i2 : (70 : Int) < (x.f.n : Int) := by omega
      have i1 : (x.t.n : Int) ≤ 70 := by omega
      go_enter Try.func9, Try.ntmps9
      go_wp2
      go_ret
      exact ⟨⟨_, rfl, fun e => by cases e⟩, alloc_below _ _⟩
  · have i1 : (70 : Int) < (x.t.n : Int) := by omega
    go_enter Try.func9, Try.ntmps9
    go_wp2
    go_ret
    exact ⟨⟨_, rfl, fun e => by cases e⟩, alloc_below _ _⟩
end Go.Proofs.Ytnagpedkmfmniaa.Ar
