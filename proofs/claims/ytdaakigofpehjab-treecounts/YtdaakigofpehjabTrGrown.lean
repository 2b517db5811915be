/- Acts in memory; what grown does. -/
import Derived.Test.YtdaakigofpehjabTrDoes
namespace Go.Proofs.Ytdaakigofpehjab.Tr
open Go.RowKit

def aC (z : Ac) : List Value := [.int .i64 z.kind, .int .i64 z.a.1, .int .i64 z.a.2, .int .i64 z.b.1, .int .i64 z.b.2, .bool z.on]
abbrev zA : Ac := ⟨0, (0, 0), (0, 0), false⟩
def acs (l : List Ac) : List Value := l.flatMap aC
theorem len_acs (l : List Ac) : (acs l).length = l.length * 6 := by
  induction l with
  | nil => rfl
  | cons o r ih => simp only [acs, List.flatMap_cons, List.length_append, List.length_cons] at ih ⊢; rw [ih]; simp [aC]; omega
theorem acs_at (l : List Ac) (j i : Nat) (hi : i < 6) (h : j < l.length) : (acs l)[j * 6 + i]? = (aC (l.getD j zA))[i]? := by
  induction l generalizing j with
  | nil => simp at h
  | cons o r ih =>
    cases j with
    | zero => simp only [acs, List.flatMap_cons]; rw [List.getElem?_append_left (by simp [aC]; omega)]; simp
    | succ j =>
      have := ih j (by simpa using h)
      simp only [acs, List.flatMap_cons] at this ⊢
      rw [List.getElem?_append_right (by simp [aC]; omega)]
      rw [show (j + 1) * 6 + i - (aC o).length = j * 6 + i by simp [aC]; omega, this]
      simp
/-- A list of acts that lies somewhere. -/
structure HasC (w : World) (ao : Option Addr) (n cap : Nat) (l : List Ac) : Prop where
  len : n = l.length
  row : Row w ao (acs l)
theorem HasC.below {w w' : World} {ao : Option Addr} {n cap : Nat} {l : List Ac} (h : HasC w ao n cap l) (hb : Below w.heap.size w w') : HasC w' ao n cap l := ⟨h.len, h.row.below hb⟩
theorem HasC.at {w : World} {ao : Option Addr} {n cap : Nat} {l : List Ac} (h : HasC w ao n cap l) (k : Nat) (hk : k < n) : ∃ a, ao = some a ∧ AtC w (a.add (k * 6)) (l.getD k zA) := by
  have hl := h.len
  have g := fun (i : Nat) (hi : i < 6) (u : Value) (hu : (aC (l.getD k zA))[i]? = some u) => h.row.cell (k * 6 + i) u ((acs_at l k i hi (by omega)).trans hu)
  obtain ⟨a, rfl, h0⟩ := g 0 (by omega) _ rfl
  refine ⟨a, rfl, h0, ?_, ?_, ?_, ?_, ?_⟩
  all_goals rw [add_off _ _ (by decide), add_add]
  · obtain ⟨_, e, h⟩ := g 1 (by omega) _ rfl
    cases e
    exact h
  · obtain ⟨_, e, h⟩ := g 2 (by omega) _ rfl
    cases e
    exact h
  · obtain ⟨_, e, h⟩ := g 3 (by omega) _ rfl
    cases e
    exact h
  · obtain ⟨_, e, h⟩ := g 4 (by omega) _ rfl
    cases e
    exact h
  · obtain ⟨_, e, h⟩ := g 5 (by omega) _ rfl
    cases e
    exact h
theorem ctake_snoc (l : List Ac) (k : Nat) (h : k < l.length) : l.take (k + 1) = l.take k ++ [l.getD k zA] := by
  rw [List.take_add_one]
  simp [List.getD, h]
theorem gr_len (l : List Ac) : (gr l).length ≤ 512 := (gr_tree l).len
set_option maxRecDepth 100000 in
set_option maxHeartbeats 2000000 in
theorem grown_any (ao : Option Addr) (n cap : Nat) (l : List Ac) (w : World) (hs : n ≤ 1000) (HH : Hid (HasC w ao n cap l)) :
    Calls Try.prog 6 #[.slice ao n cap] w fun e w' => ∃ xo xn xc, e = .returned (.slice xo xn xc) ∧ HasB w' xo xn xc (gr l) ∧ Below w.heap.size w w' := by
  have HN := hid HH.out.len
  go_enter Try.func6, Try.ntmps6
  go_wp2_with fail
  go_loopw [3, 4] (fun s i wr => ∃ (q : Nat) (to : Option Addr) (tn tc : Nat), q ≤ n ∧ i = .int .i64 q ∧ s = .slice to tn tc ∧ Hid (HasB wr to tn tc (gr (l.take q))) ∧ Hid (Below w.heap.size w wr)) (fun _ i _ => n - (intOf i).toNat)
  case atStart => exact ⟨0, none, 0, 0, Nat.zero_le _, rfl, rfl, by rw [List.take_zero]; exact hasB_nil _, Below.refl _ _⟩
  case round =>
    obtain ⟨q, to, tn, tc, hq, rfl, rfl, HT, HB⟩ := hrel
    by_cases hlt : q < n
    · have i1 : (0 : Int) ≤ (q : Int) := by omega
      have i2 : (q : Int) < (n : Int) := by omega
      obtain ⟨a, rfl, ca⟩ := (HH.out.below HB.out).at q hlt
      obtain ⟨z, hz⟩ : ∃ z, l.getD q zA = z := ⟨_, rfl⟩
      have HZ : Hid (gr (l.take (q + 1)) = doA (gr (l.take q)) z) := by unfold Hid; rw [ctake_snoc l q (by have := HN.out; omega), gr_snoc, hz]
      rw [hz] at ca
      clear hz
      obtain ⟨c0, c1, c2, c3, c4, c5⟩ := ca
      have hl : tn ≤ 1000 := by have h1 := HT.out.len; have h2 := gr_len (l.take q); omega
      go_wp2_with fail
      refine (does_any to tn tc _ z wr hl HT).mono ?_
      rintro e w2 ⟨xo, xn, xc, rfl, h2, b2⟩
      have H2 := hid h2
      have B2 := hid (q_trans HB.out b2)
      clear h2 b2 c0 c1 c2 c3 c4 c5
      go_wp2_with fail
      go_roundw
      case rel => exact ⟨q + 1, xo, xn, xc, by omega, by go_num, rfl, by rw [HZ.out]; exact H2, B2⟩
      case measure => simp [intOf]; omega
    · obtain rfl : q = n := by omega
      go_wp2_with fail
      go_ret
      refine ⟨to, tn, tc, rfl, ?_, HB.out⟩
      have h := HT.out
      rwa [List.take_of_length_le (by have := HN.out; omega)] at h
end Go.Proofs.Ytdaakigofpehjab.Tr
