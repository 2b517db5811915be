/- The order of rights: plain facts, by all cases. -/
import Derived.Test.YtilannincbcgkaaDoorRtMath
namespace Go.Proofs.YtilannincbcgkaaDoor.Rt

theorem wiB_iff {a b : Int} : wiB a b = true ↔ isR a = true ∧ isR b = true ∧ bits .andNot .i64 a b = 0 := by simp [wiB, and_assoc]
theorem wiB_fin : ∀ a b : Fin 16, wiB a.val b.val = (a.val &&& b.val == a.val) := by decide +kernel
theorem wiB_self (a : Int) : wiB a a = isR a := by
  cases h : isR a with
  | false => simp [wiB, h]
  | true =>
    obtain ⟨n, hn, rfl⟩ := isR_nat h
    have := wiB_fin ⟨n, hn⟩ ⟨n, hn⟩
    simpa using this
theorem wiB_nat {a b : Int} (h : wiB a b = true) : ∃ m n : Nat, m < 16 ∧ n < 16 ∧ a = m ∧ b = n := by
  obtain ⟨h1, h2, _⟩ := wiB_iff.1 h
  obtain ⟨m, hm, rfl⟩ := isR_nat h1
  obtain ⟨n, hn, rfl⟩ := isR_nat h2
  exact ⟨m, n, hm, hn, rfl, rfl⟩
theorem anti_fin : ∀ a b : Fin 16, wiB a.val b.val = true → wiB b.val a.val = true → a = b := by decide +kernel
theorem le_fin : ∀ a b : Fin 16, wiB a.val b.val = true → a.val ≤ b.val := by decide +kernel
theorem trans_fin : ∀ a b c : Fin 16, wiB a.val b.val = true → wiB b.val c.val = true → wiB a.val c.val = true := by decide +kernel
theorem wiB_anti {a b : Int} (h : wiB a b = true) (k : wiB b a = true) : a = b := by
  obtain ⟨m, n, hm, hn, rfl, rfl⟩ := wiB_nat h
  have := anti_fin ⟨m, hm⟩ ⟨n, hn⟩ h k
  simp at this
  omega
theorem wiB_le {a b : Int} (h : wiB a b = true) : a ≤ b := by
  obtain ⟨m, n, hm, hn, rfl, rfl⟩ := wiB_nat h
  have := le_fin ⟨m, hm⟩ ⟨n, hn⟩ h
  simp at this
  omega
theorem wiB_trans {a b c : Int} (h : wiB a b = true) (k : wiB b c = true) : wiB a c = true := by
  obtain ⟨m, n, hm, hn, rfl, rfl⟩ := wiB_nat h
  obtain ⟨m', n', hm', hn', e, rfl⟩ := wiB_nat k
  exact trans_fin ⟨m, hm⟩ ⟨n, hn⟩ ⟨n', hn'⟩ h k

/-! What meets and what is joined, of two. -/
theorem two_meet (a b : Int) : meetT [a, b] = if isR a && isR b then bits .and .i64 (bits .and .i64 15 a) b else 0 := by simp [meetT, meetF]
theorem two_join (a b : Int) : joinT [a, b] = if isR a && isR b then bits .or .i64 (bits .or .i64 0 a) b else 0 := by simp [joinT, joinF]
theorem two_E (a b : Int) : listE [a, b] = if isR a && isR b then 0 else 20 := by simp [listE]
theorem order_fin : ∀ a b : Fin 16, isR (bits .and .i64 (bits .and .i64 15 a.val) b.val) = true ∧ isR (bits .or .i64 (bits .or .i64 0 a.val) b.val) = true ∧ wiB (bits .and .i64 (bits .and .i64 15 a.val) b.val) a.val = true ∧ wiB (bits .and .i64 (bits .and .i64 15 a.val) b.val) b.val = true ∧ wiB a.val (bits .or .i64 (bits .or .i64 0 a.val) b.val) = true ∧ wiB b.val (bits .or .i64 (bits .or .i64 0 a.val) b.val) = true := by decide +kernel
theorem both_fin : ∀ a b c : Fin 16, (wiB c.val a.val && wiB c.val b.val) = wiB c.val (bits .and .i64 (bits .and .i64 15 a.val) b.val) := by decide +kernel
theorem join_fin : ∀ a b c : Fin 16, wiB a.val c.val = true → wiB b.val c.val = true → wiB (bits .or .i64 (bits .or .i64 0 a.val) b.val) c.val = true := by decide +kernel
theorem less_fin : ∀ a b : Fin 16, meetT [lessT a.val b.val, b.val] = 0 ∧ joinT [lessT a.val b.val, meetT [(a.val : Int), (b.val : Int)]] = a.val ∧ wiB (lessT a.val b.val) a.val = true ∧ listE [lessT a.val b.val, b.val] = 0 ∧ listE [lessT a.val b.val, meetT [(a.val : Int), (b.val : Int)]] = 0 ∧ listE [(a.val : Int), (b.val : Int)] = 0 ∧ lessE a.val b.val = 0 := by decide +kernel
end Go.Proofs.YtilannincbcgkaaDoor.Rt
