/- What the program's Same, slices.Clone, there, unused, room, valid, cmp.Or do. -/
import Derived.Test.YtcldnacpddebcabTrW2
import Derived.Test.YtcldnacpddebcabPkB
import Derived.Lib.SliceRun
namespace Go.Proofs.Ytcldnacpddebcab.Tr
open Go.RowKit

def thE (t : List Br) (k : P) : Int := if hasK t k then 0 else 7
def unE (t : List Br) (k : P) : Int := if hasK t k then 8 else 0
def rmE (n : Nat) : Int := if 512 ≤ n then 6 else 0
/-- Whether keys may be, and t a tree. -/
def oks (l : List P) : Bool := l.all okK
def vdE (t : List Br) (l : List P) : Int := if oks l then ckE t else 2
theorem oks_no {l : List P} {q : Nat} (hq : q < l.length) (h : okK (l.getD q (0, 0)) = false) : oks l = false := by
  rw [oks, List.all_eq_false]
  exact ⟨_, List.getElem_mem hq, by rw [← getD_lt hq, h]; simp⟩
theorem oks_yes {l : List P} (h : ∀ q, q < l.length → okK (l.getD q (0, 0)) = true) : oks l = true := by
  rw [oks, List.all_eq_true]
  intro x hx
  obtain ⟨i, hi, rfl⟩ := List.getElem_of_mem hx
  rw [← getD_lt hi]
  exact h i hi
/-- The first one that is not 0. -/
def orV : List Int → Int
  | [] => 0
  | x :: r => if x = 0 then orV r else x
theorem orV_zero : ∀ {l : List Int}, (∀ j, j < l.length → l.getD j 0 = 0) → orV l = 0
  | [], _ => rfl
  | x :: r, h => by
    have h0 : x = 0 := h 0 (by simp)
    rw [orV, if_pos h0]
    exact orV_zero fun j hj => h (j + 1) (by simpa using hj)
theorem orV_at : ∀ {l : List Int} {q : Nat}, q < l.length → (∀ j, j < q → l.getD j 0 = 0) → l.getD q 0 ≠ 0 → orV l = l.getD q 0
  | [], q, h, _, _ => absurd h (by simp)
  | x :: r, 0, _, _, h => by
    rw [orV, if_neg (by exact h)]
    rfl
  | x :: r, q + 1, hq, hz, h => by
    rw [orV, if_pos (show x = 0 from hz 0 (by omega))]
    exact orV_at (q := q) (by simpa using hq) (fun j hj => hz (j + 1) (by omega)) h
set_option maxRecDepth 100000 in
set_option maxHeartbeats 1000000 in
theorem or_any (ao : Option Addr) (n cap : Nat) (l : List Int) (w : World) (hs : n ≤ 1000) (HH : Hid (Has w ao n cap l)) :
    Calls Try.prog 19 #[.slice ao n cap] w fun e w' => e = .returned (.int .i64 (orV l)) ∧ w' = w := by
  have HN := hid HH.out.len
  go_enter Try.func19, Try.ntmps19
  go_wp2_with fail
  go_loopw [8] (fun i wr => ∃ q : Nat, q ≤ n ∧ i = .int .i64 q ∧ Hid (∀ j, j < q → l.getD j 0 = 0) ∧ wr = w) (fun i _ => n - (intOf i).toNat)
  case atStart => exact ⟨0, Nat.zero_le _, rfl, fun c hc => absurd hc (by omega), rfl⟩
  case round =>
    obtain ⟨q, hq, rfl, HU, rfl⟩ := hrel
    by_cases hlt : q < n
    · have i1 : (0 : Int) ≤ (q : Int) := by omega
      have i2 : (q : Int) < (n : Int) := by omega
      obtain ⟨a, rfl, ca⟩ := HH.out.cell q hlt
      obtain ⟨x, hx⟩ : ∃ x, l.getD q 0 = x := ⟨_, rfl⟩
      have HX := hid hx
      rw [hx] at ca
      clear hx
      by_cases hz : x = 0
      · have HZ := hid hz
        have hz2 : (x != 0) = false := by simp [hz]
        clear hz
        go_wp2_with fail
        go_roundw
        case rel =>
          refine ⟨q + 1, by omega, by go_num, fun j hj => ?_, trivial⟩
          rcases Nat.lt_or_ge j q with y | y
          · exact HU.out j y
          · obtain rfl : j = q := by omega
            rw [HX.out]
            exact HZ.out
        case measure => simp [intOf]; omega
      · have HE := hid (orV_at (l := l) (q := q) (by have := HN.out; omega) HU.out (by rw [HX.out]; exact hz))
        have hz2 : (x != 0) = true := by simp [hz]
        clear hz
        go_wp2_with fail
        go_ret
        exact ⟨ret_int (by rw [HE.out, HX.out]), rfl⟩
    · obtain rfl : q = n := by omega
      have HE := hid (orV_zero (l := l) (fun j hj => HU.out j (by have := HN.out; omega)))
      go_wp2_with fail
      go_ret
      exact ⟨ret_int HE.out.symm, rfl⟩
end Go.Proofs.Ytcldnacpddebcab.Tr
