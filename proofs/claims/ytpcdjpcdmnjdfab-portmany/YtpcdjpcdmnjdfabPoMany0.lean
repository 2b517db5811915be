/- PortMany, what it knows: those who wait are the cores from a on, n of them, in their order. Without any program. -/
import Derived.Test.YtpcdjpcdmnjdfabPoW8
namespace Go.Proofs.Ytpcdjpcdmnjdfab.Po

abbrev wq (c : Int) : Wt := ⟨c, c, 0, false, 0, 0, 0, false⟩
def mL (a n : Nat) : List Wt := (List.range' a n).map fun c : Nat => wq (c : Int)
def mP (own : Int) (a n : Nat) : Pt := ⟨if n = 0 then 0 else own, 0, mL a n⟩
theorem mL_len (a n : Nat) : (mL a n).length = n := by simp [mL]
theorem mL_at (a n i : Nat) (h : i < n) : (mL a n).getD i z0 = wq ((a + i : Nat) : Int) := by
  simp [mL, List.getD, h]
theorem mL_cc (a n i : Nat) (h : i < n) : Cc (mL a n) i = ((a + i : Nat) : Int) := by
  show ((mL a n).getD i z0).c = _
  rw [mL_at a n i h]
theorem mL_ok (a n : Nat) (h : a + n ≤ 64) : OkL (mL a n) := fun i hi => by
  rw [mL_len] at hi
  refine ⟨?_, fun j hj => ?_⟩
  · rw [mL_cc a n i hi]
    exact okC_iff.2 (by omega)
  · rw [mL_cc a n i hi, mL_cc a n j (by omega)]
    omega
theorem mP_ok {own : Int} (ho : own = 1 ∨ own = 2) (a n : Nat) (h : a + n ≤ 64) : okP (mP own a n) = true := by
  refine okP_iff.2 ⟨ftB_iff.2 ?_, mL_ok a n h⟩
  by_cases h0 : n = 0
  · exact .inl ⟨by simp [mP, h0], by show (mL a n).length = 0; rw [mL_len]; exact h0⟩
  · exact .inr ⟨by simp only [mP, if_neg h0]; exact ho, by show 0 < (mL a n).length; rw [mL_len]; omega, rfl⟩
theorem mP_free {own : Int} (ho : own = 1 ∨ own = 2) (a n c : Nat) (h : a + n ≤ 64) (hc : c < 64) (hn : a + n ≤ c) : rfE (mP own a n) (c : Int) = 0 := by
  refine rf_ok (mP_ok ho a n h) (okC_iff.2 (by omega)) (fd_none.2 fun j hj => ?_)
  have hj : j < (mL a n).length := hj
  rw [mL_len] at hj
  show Cc (mL a n) j ≠ _
  rw [mL_cc a n j hj]
  omega
theorem mL_snoc (a n : Nat) : mL a n ++ [wq ((a + n : Nat) : Int)] = mL a (n + 1) := by
  simp [mL, List.range'_concat]
theorem mL_drop (a n : Nat) : (mL a n).eraseIdx 0 = mL (a + 1) (n - 1) := by
  cases n with
  | zero => simp [mL]
  | succ k => simp [mL, List.range'_succ]
/-- One more comes, and waits. -/
theorem many_come {own meets : Int} (ho : (own = 1 ∧ meets = 2) ∨ (own = 2 ∧ meets = 1)) (c : Nat) (hc : c < 64) :
    cmP (mP own 0 c) (wq (c : Int)) own meets = mP own 0 (c + 1) ∧ cmX (mP own 0 c) (wq (c : Int)) meets = z0 ∧ cmB (mP own 0 c) (wq (c : Int)) meets = false ∧ rfE (mP own 0 c) (c : Int) = 0 := by
  have h0 : rfE (mP own 0 c) (wq (c : Int)).c = 0 := mP_free (by omega) 0 c c (by omega) hc (by omega)
  have hk : ¬ (mP own 0 c).k = meets := by
    show ¬ (if c = 0 then (0 : Int) else own) = meets
    split <;> omega
  have f := cm_wait (own := own) h0 hk
  refine ⟨?_, f.2.1, f.2.2, h0⟩
  rw [f.1]
  have e := mL_snoc 0 c
  rw [Nat.zero_add] at e
  show (⟨own, 0, mL 0 c ++ [wq (c : Int)]⟩ : Pt) = ⟨if c + 1 = 0 then 0 else own, 0, mL 0 (c + 1)⟩
  rw [e, if_neg (by omega)]
/-- The first of those who wait is met. -/
theorem many_meet {own meets : Int} (ho : (own = 1 ∧ meets = 2) ∨ (own = 2 ∧ meets = 1)) (a n : Nat) (hn : 0 < n) (h : a + n ≤ 63) :
    cmP (mP own a n) (wq 63) meets own = mP own (a + 1) (n - 1) ∧ cmX (mP own a n) (wq 63) own = wq (a : Int) ∧ cmB (mP own a n) (wq 63) own = true ∧ rfE (mP own a n) 63 = 0 := by
  have h0 : rfE (mP own a n) (wq 63).c = 0 := mP_free (by omega) a n 63 (by omega) (by omega) (by omega)
  have hk : (mP own a n).k = own := by
    show (if n = 0 then (0 : Int) else own) = own
    rw [if_neg (by omega)]
  have f := cm_meet (own := meets) h0 hk
  refine ⟨?_, ?_, f.2.2, h0⟩
  · rw [f.1]
    show (⟨if ((mL a n).eraseIdx 0).length = 0 then 0 else (if n = 0 then (0 : Int) else own), 0, (mL a n).eraseIdx 0⟩ : Pt) = ⟨if n - 1 = 0 then 0 else own, 0, mL (a + 1) (n - 1)⟩
    rw [mL_drop, mL_len, if_neg (by omega : ¬ n = 0)]
  · rw [f.2.1]
    exact mL_at a n 0 hn
end Go.Proofs.Ytpcdjpcdmnjdfab.Po
