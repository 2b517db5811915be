/- The statements' own small helpers, and what is asked of the program's functions (its contracts, as one structure). -/
import Derived.Test.YtejghoncihdfkaaEpModel
namespace Go.Proofs.Ytejghoncihdfkaa.Ep
open Go.RowKit

theorem num_any (x : Int) (w : World) :
    Calls Try.prog 17 #[.int .i64 x] w fun e w' => e = .returned (.int .i64 x) ∧ w' = w := by
  go_enter Try.func17, Try.ntmps17
  go_wp2
  go_ret
  exact ⟨rfl, rfl⟩
set_option maxRecDepth 100000 in
set_option maxHeartbeats 1000000 in
/-- Ints: THE SAME LIST TWICE. -/
theorem ints_yes (ao bo : Option Addr) (n cap cap' : Nat) (l : List Int) (w : World) (hs : n ≤ 5000) (HA : Hid (Has w ao n cap l)) (HB : Hid (Has w bo n cap' l)) :
    Calls Try.prog 16 #[.slice ao n cap, .slice bo n cap'] w fun e w' => e = .returned (.bool true) ∧ Below w.heap.size w w' := by
  go_enter Try.func16, Try.ntmps16
  go_wp2
  go_loopw [5] (fun i wr => ∃ k : Nat, k ≤ n ∧ i = .int .i64 k ∧ ∃ nd, wr = w.drewN nd) (fun i _ => n - (intOf i).toNat)
  case atStart => exact ⟨0, Nat.zero_le _, rfl, 0, rfl⟩
  case round =>
    obtain ⟨k, hk, rfl, nd, rfl⟩ := hrel
    by_cases hlt : k < n
    · have i1 : (0 : Int) ≤ (k : Int) := by omega
      have i2 : (k : Int) < (n : Int) := by omega
      obtain ⟨a, rfl, ca⟩ := HA.out.cell k hlt
      obtain ⟨b, rfl, cb⟩ := HB.out.cell k hlt
      obtain ⟨x, hx⟩ : ∃ x, l.getD k 0 = x := ⟨_, rfl⟩
      rw [hx] at ca cb
      clear hx
      go_wp2
      go_quiet (fail)
      go_wp2
      go_roundw
      case rel => exact ⟨k + 1, by omega, by go_num, _, rfl⟩
      case measure => simp [intOf]; omega
    · obtain rfl : k = n := by omega
      go_wp2
      go_ret
      exact ⟨rfl, drewN_below _ _⟩
/-- small's answer, and what it tells. -/
def SmR (r : Ending) (e : E) : Prop := ∃ b, r = .returned (.bool b) ∧ (b = true → Sm e)
set_option maxRecDepth 100000 in
set_option maxHeartbeats 2000000 in
theorem small_any (y : WE) (e : E) (Av : Nat → Prop) (w : World) (HE : Hid (HasE w Av y e)) :
    Calls Try.prog 9 #[(.agg #[.int .i64 e.now, .slice y.p.o y.p.n y.p.c, .slice y.l.o y.l.n y.l.c])] w fun r w' => SmR r e ∧ Below w.heap.size w w' := by
  obtain ⟨⟨po, P, pc⟩, ⟨lo, L, lc⟩⟩ := y
  have HP : Hid (P = e.pins.length) := HE.out.pn
  have HL : Hid (L = e.lim.length) := HE.out.ln
  have HLi := hid (fun (W : World) (h : HasE W Av ⟨⟨po, P, pc⟩, ⟨lo, L, lc⟩⟩ e) (k : Nat) (hk : k < L) => h.list k (by have := HL.out; omega))
  generalize e.now = n
  by_cases h1 : P ≤ 70
  · by_cases h2 : L ≤ 70
    · have i0 : (P : Int) ≤ 70 := by omega
      have i00 : (L : Int) ≤ 70 := by omega
      have HB : Hid (InE (w.alloc (.cells #[.int .i64 n, .slice po P pc, .slice lo L lc] 25)) w.heap.size n ⟨⟨po, P, pc⟩, ⟨lo, L, lc⟩⟩) := inE_new w n ⟨⟨po, P, pc⟩, ⟨lo, L, lc⟩⟩ 25
      have HW : Hid (Below w.heap.size w (w.alloc (.cells #[.int .i64 n, .slice po P pc, .slice lo L lc] 25))) := alloc_below _ _
      go_enter Try.func9, Try.ntmps9
      go_wp2
      generalize w.alloc _ = W at HB HW ⊢
      obtain ⟨c0, c1, c2, cf⟩ := HB.out
      go_loop [3] (fun i => ∃ k : Nat, k ≤ L ∧ i = .int .i64 k ∧ Hid (∀ j, j < k → (e.lim.getD j []).length ≤ 30)) (fun i => L - (intOf i).toNat)
      case atStart => exact ⟨0, Nat.zero_le _, rfl, fun j hj => absurd hj (by omega)⟩
      case round =>
        obtain ⟨k, hk, rfl, HQ⟩ := hrel
        by_cases hlt : k < L
        · have i1 : (0 : Int) ≤ (k : Int) := by omega
          have i2 : (k : Int) < (L : Int) := by omega
          obtain ⟨b, o1, m1, x1, eb, ca, hx, _⟩ := HLi.out W (HE.out.below HW.out) k hlt
          obtain rfl : lo = some b := eb
          have HM := hid hx.len
          clear hx
          by_cases h3 : m1 ≤ 30
          · have HQ2 : Hid (∀ j, j < k + 1 → (e.lim.getD j []).length ≤ 30) := by
              intro j hj
              by_cases e1 : j = k
              · subst e1; have := HM.out; omega
              · exact HQ.out j (by omega)
            have i3 : (m1 : Int) ≤ 30 := by omega
            go_wp2
            go_round
            case rel => exact ⟨k + 1, by omega, by go_num, HQ2⟩
            case measure => simp [intOf]; omega
          · have i3 : (30 : Int) < (m1 : Int) := by omega
            go_wp2
            go_ret
            exact ⟨⟨_, rfl, fun e => by cases e⟩, HW.out⟩
        · obtain rfl : k = L := by omega
          go_wp2
          go_ret
          exact ⟨⟨_, rfl, fun _ => ⟨by have := HP.out; omega, by have := HL.out; omega, fun c hc => HQ.out c (by have := HL.out; omega)⟩⟩, HW.out⟩
    · have i2 : (70 : Int) < (L : Int) := by omega
      have i1 : (P : Int) ≤ 70 := by omega
      go_enter Try.func9, Try.ntmps9
      go_wp2
      go_ret
      exact ⟨⟨_, rfl, fun e => by cases e⟩, alloc_below _ _⟩
  · have i1 : (70 : Int) < (P : Int) := by omega
    go_enter Try.func9, Try.ntmps9
    go_wp2
    go_ret
    exact ⟨⟨_, rfl, fun e => by cases e⟩, alloc_below _ _⟩
/-- Check's answer, and what it tells. -/
def ChR (r : Ending) (e : E) : Prop := ∃ k : Int, r = .returned (.int .i64 k) ∧ decide (k = 0) = okE e
/-- WHAT IS ASKED OF THE PROGRAM'S FUNCTIONS. -/
structure Con : Prop where
  new : ∀ (n : Int) (Av : Nat → Prop) (w : World) (_ : Hid (∀ i, Av i → i < w.heap.size)),
    Calls Try.prog 13 #[.int .i64 n] w fun r w' => ∃ z : WE, r = .returned (.tuple #[(.agg #[.int .i64 (newA n).now, .slice z.p.o z.p.n z.p.c, .slice z.l.o z.l.n z.l.c]), .int .i64 (newE n)]) ∧ HasE w' Av z (newA n) ∧ Below w.heap.size w w'
  check : ∀ (y : WE) (e : E) (Av : Nat → Prop) (w : World) (_ : Hid (Sm e)) (_ : Hid (HasE w Av y e)),
    Calls Try.prog 18 #[(.agg #[.int .i64 e.now, .slice y.p.o y.p.n y.p.c, .slice y.l.o y.l.n y.l.c])] w fun r w' => ChR r e ∧ Below w.heap.size w w'
  same : ∀ (y z : WE) (e f : E) (Av Av' : Nat → Prop) (w : World) (_ : Hid (Sm e)) (_ : Hid (Sm f)) (_ : Hid (HasE w Av y e)) (_ : Hid (HasE w Av' z f)),
    Calls Try.prog 20 #[(.agg #[.int .i64 e.now, .slice y.p.o y.p.n y.p.c, .slice y.l.o y.l.n y.l.c]), (.agg #[.int .i64 f.now, .slice z.p.o z.p.n z.p.c, .slice z.l.o z.l.n z.l.c])] w fun r w' => r = .returned (.bool (sameB e f)) ∧ Below w.heap.size w w'
  pin : ∀ (y : WE) (e : E) (c : Int) (Av : Nat → Prop) (w : World) (_ : Hid (∀ i, Av i → i < w.heap.size)) (_ : Hid (Sm e)) (_ : Hid (HasE w Av y e)),
    Calls Try.prog 25 #[(.agg #[.int .i64 e.now, .slice y.p.o y.p.n y.p.c, .slice y.l.o y.l.n y.l.c]), .int .i64 c] w fun r w' => ∃ z : WE, r = .returned (.tuple #[(.agg #[.int .i64 e.now, .slice z.p.o z.p.n z.p.c, .slice z.l.o z.l.n z.l.c]), .int .i64 (pinE e c)]) ∧ HasE w' Av z (pinA e c) ∧ Below w.heap.size w w'
  un : ∀ (y : WE) (e : E) (c : Int) (Av : Nat → Prop) (w : World) (_ : Hid (∀ i, Av i → i < w.heap.size)) (_ : Hid (Sm e)) (_ : Hid (HasE w Av y e)),
    Calls Try.prog 21 #[(.agg #[.int .i64 e.now, .slice y.p.o y.p.n y.p.c, .slice y.l.o y.l.n y.l.c]), .int .i64 c] w fun r w' => ∃ z : WE, r = .returned (.tuple #[(.agg #[.int .i64 e.now, .slice z.p.o z.p.n z.p.c, .slice z.l.o z.l.n z.l.c]), .int .i64 (unE e c)]) ∧ HasE w' Av z (unA e c) ∧ Below w.heap.size w w'
  re : ∀ (y : WE) (e : E) (c ob : Int) (Av : Nat → Prop) (w : World) (_ : Hid (∀ i, Av i → i < w.heap.size)) (_ : Hid (Sm e)) (_ : Hid (HasE w Av y e)),
    Calls Try.prog 24 #[(.agg #[.int .i64 e.now, .slice y.p.o y.p.n y.p.c, .slice y.l.o y.l.n y.l.c]), .int .i64 c, .int .i64 ob] w fun r w' => ∃ z : WE, r = .returned (.tuple #[(.agg #[.int .i64 e.now, .slice z.p.o z.p.n z.p.c, .slice z.l.o z.l.n z.l.c]), .int .i64 (reE e c ob)]) ∧ HasE w' Av z (reA e c ob) ∧ Below w.heap.size w w'
  ad : ∀ (y : WE) (e : E) (Av : Nat → Prop) (w : World) (_ : Hid (∀ i, Av i → i < w.heap.size)) (_ : Hid (Sm e)) (_ : Hid (HasE w Av y e)),
    Calls Try.prog 22 #[(.agg #[.int .i64 e.now, .slice y.p.o y.p.n y.p.c, .slice y.l.o y.l.n y.l.c])] w fun r w' => ∃ z : WE, r = .returned (.tuple #[(.agg #[.int .i64 (adA e).now, .slice z.p.o z.p.n z.p.c, .slice z.l.o z.l.n z.l.c]), .bool (adB e)]) ∧ HasE w' Av z (adA e) ∧ Below w.heap.size w w'
  rp : ∀ (y : WE) (e : E) (c : Int) (Av : Nat → Prop) (w : World) (_ : Hid (∀ i, Av i → i < w.heap.size)) (_ : Hid (Sm e)) (_ : Hid (HasE w Av y e)),
    Calls Try.prog 23 #[(.agg #[.int .i64 e.now, .slice y.p.o y.p.n y.p.c, .slice y.l.o y.l.n y.l.c]), .int .i64 c] w fun r w' => ∃ (z : WE) (o : Option Addr) (cp : Nat), r = .returned (.tuple #[(.agg #[.int .i64 e.now, .slice z.p.o z.p.n z.p.c, .slice z.l.o z.l.n z.l.c]), .slice o (rpL e c).length cp]) ∧ HasE w' Av z (rpA e c) ∧ Has w' o (rpL e c).length cp (rpL e c) ∧ Off Av o (vals (rpL e c)) ∧ Below w.heap.size w w'
end Go.Proofs.Ytejghoncihdfkaa.Ep
