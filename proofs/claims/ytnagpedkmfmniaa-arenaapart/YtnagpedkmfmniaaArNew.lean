/- A new arena. -/
import Derived.Test.YtnagpedkmfmniaaArState
namespace Go.Proofs.Ytnagpedkmfmniaa.Ar

/-- The places of a core, of a new arena: those that leave it as the rest. -/
def newL (n m c : Nat) : List Int := ((List.range n).filter (fun p => decide (p % m = c))).map (fun p => ((p : Nat) : Int))
def newF (n m : Nat) : List (List Int) := (List.range m).map (newL n m)
def newA (n m : Nat) : Ar := ⟨List.replicate n (Th.none 0), newF n m⟩
theorem newL_zero (m c : Nat) : newL 0 m c = [] := rfl
theorem newL_yes {n m c : Nat} (h : n % m = c) : newL (n + 1) m c = newL n m c ++ [(n : Int)] := by
  unfold newL
  rw [List.range_succ, List.filter_append, List.map_append]
  simp [h]
theorem newL_no {n m c : Nat} (h : n % m ≠ c) : newL (n + 1) m c = newL n m c := by
  unfold newL
  rw [List.range_succ, List.filter_append, List.map_append]
  simp [h]
theorem mem_newL {n m c : Nat} {q : Int} : q ∈ newL n m c ↔ ∃ p : Nat, q = (p : Int) ∧ p < n ∧ p % m = c := by
  unfold newL
  simp only [List.mem_map, List.mem_filter, List.mem_range, decide_eq_true_eq]
  constructor
  · rintro ⟨p, ⟨h1, h2⟩, rfl⟩; exact ⟨p, rfl, h1, h2⟩
  · rintro ⟨p, rfl, h1, h2⟩; exact ⟨p, ⟨h1, h2⟩, rfl⟩
theorem len_newF (n m : Nat) : (newF n m).length = m := by simp [newF]
theorem newF_at (n m c : Nat) (h : c < m) : (newF n m).getD c [] = newL n m c := by simp [newF, List.getD, h]
theorem len_newL (n m c : Nat) : (newL n m c).length ≤ n := by
  unfold newL
  rw [List.length_map]
  have := List.length_filter_le (fun p => decide (p % m = c)) (List.range n)
  simpa using this
/-- From a place of the core to its next one. -/
theorem newL_skip {m c : Nat} (n d : Nat) (h : ∀ i, i < d → (n + i) % m ≠ c) : newL (n + d) m c = newL n m c := by
  induction d with
  | zero => rfl
  | succ d ih => rw [← Nat.add_assoc, newL_no (h d (by omega))]; exact ih (fun i hi => h i (by omega))
theorem mod_ne {m n i : Nat} (h0 : 0 < i) (h1 : i < m) : (n + i) % m ≠ n % m := by
  intro e
  have h2 : n % m < m := Nat.mod_lt _ (by omega)
  have h3 := Nat.div_add_mod n m
  have e2 : n + i = m * (n / m) + (n % m + i) := by omega
  rw [e2, Nat.mul_add_mod] at e
  by_cases h4 : n % m + i < m
  · rw [Nat.mod_eq_of_lt h4] at e; omega
  · have e3 : n % m + i = (n % m + i - m) + m := by omega
    rw [e3, Nat.add_mod_right, Nat.mod_eq_of_lt (by omega)] at e
    omega
theorem newL_stride {n m c : Nat} (hm : 0 < m) (h : n % m = c) : newL (n + m) m c = newL n m c ++ [(n : Int)] := by
  rw [← newL_yes h, show n + m = (n + 1) + (m - 1) by omega]
  refine newL_skip (n + 1) (m - 1) (fun i hi => ?_)
  rw [← h, Nat.add_assoc]
  exact mod_ne (by omega) (by omega)
theorem newL_first {m c : Nat} (h : c < m) : newL c m c = [] := by
  have := newL_skip (m := m) (c := c) 0 c (fun i hi => by rw [Nat.zero_add, Nat.mod_eq_of_lt (by omega)]; omega)
  rwa [Nat.zero_add] at this
theorem newL_last {n p m c : Nat} (h : p % m = c) (h1 : n ≤ p) (h2 : p < n + m) : newL p m c = newL n m c := by
  have := newL_skip (m := m) (c := c) n (p - n) (fun i hi => by
    intro e
    have hne := mod_ne (m := m) (n := n + i) (i := p - n - i) (by omega) (by omega)
    rw [show n + i + (p - n - i) = p by omega, h, e] at hne
    exact hne rfl)
  rwa [show n + (p - n) = p by omega] at this
theorem newL_count (n m c : Nat) (q : Nat) : (newL n m c).count (q : Int) = if q < n ∧ q % m = c then 1 else 0 := by
  induction n with
  | zero => simp [newL_zero]
  | succ n ih =>
    by_cases h : n % m = c
    · rw [newL_yes h, List.count_append, ih, List.count_singleton]
      by_cases e : q = n
      · subst e
        rw [if_neg (by omega), if_pos (by simp), if_pos ⟨by omega, h⟩]
      · rw [if_neg (c := ((n : Int) == (q : Int)) = true) (by simp; omega), Nat.add_zero]
        by_cases h2 : q < n ∧ q % m = c
        · rw [if_pos h2, if_pos ⟨by omega, h2.2⟩]
        · rw [if_neg h2, if_neg (by omega)]
    · rw [newL_no h, ih]
      by_cases h2 : q < n ∧ q % m = c
      · rw [if_pos h2, if_pos ⟨by omega, h2.2⟩]
      · rw [if_neg h2, if_neg]
        rintro ⟨h3, h4⟩
        by_cases e : q = n
        · subst e; exact h h4
        · exact h2 ⟨by omega, h4⟩
theorem cnt_part (n m : Nat) (q : Nat) (hq : q < n) (k : Nat) : cnt ((List.range k).map (newL n m)) (q : Int) = if q % m < k then 1 else 0 := by
  induction k with
  | zero => simp [cnt]
  | succ k ih =>
    have e : cnt ((List.range (k + 1)).map (newL n m)) (q : Int) = cnt ((List.range k).map (newL n m)) (q : Int) + (newL n m k).count (q : Int) := by
      rw [List.range_succ, List.map_append]
      simp [cnt]
    rw [e, ih, newL_count]
    by_cases h : q % m < k
    · rw [if_pos h, if_neg (by omega), if_pos (by omega)]
    · by_cases h2 : q % m = k
      · rw [if_neg h, if_pos ⟨hq, h2⟩, if_pos (by omega)]
      · rw [if_neg h, if_neg (fun x => h2 x.2), if_neg (by omega)]
theorem cnt_new (n m : Nat) (hm : 0 < m) (q : Nat) (hq : q < n) : cnt (newF n m) (q : Int) = 1 := by
  unfold newF
  rw [cnt_part n m q hq m, if_pos (Nat.mod_lt _ hm)]
theorem mem_new {n m : Nat} {q : Int} (h : q ∈ (newF n m).flatten) : ∃ p : Nat, q = (p : Int) ∧ p < n := by
  rw [List.mem_flatten] at h
  obtain ⟨l, hl, hq⟩ := h
  unfold newF at hl
  simp only [List.mem_map, List.mem_range] at hl
  obtain ⟨c, _, rfl⟩ := hl
  obtain ⟨p, e, h1, _⟩ := mem_newL.1 hq
  exact ⟨p, e, h1⟩
theorem new_at (n : Nat) (k : Nat) (h : k < n) : (List.replicate n (Th.none 0)).getD k Th.zero = Th.none 0 := by simp [List.getD, h]
theorem ok_none : OkT (Th.none 0) := ⟨by decide, by decide, by decide, by decide, fun _ => rfl, by decide, fun _ => rfl⟩
theorem new_ok (n m : Nat) (h0 : 1 ≤ n) (h1 : n ≤ 64) (h2 : 1 ≤ m) (h3 : m ≤ 64) : Ok (newA n m) := by
  refine ⟨by simpa [newA] using h0, by simpa [newA] using h1, by show 1 ≤ (newF n m).length; rw [len_newF]; exact h2, by show (newF n m).length ≤ 64; rw [len_newF]; exact h3, fun k hk => ?_, fun q hq => ?_⟩
  · rw [show (newA n m).ts.getD k Th.zero = Th.none 0 from new_at n k (by simpa [newA] using hk)]
    exact ok_none
  · obtain ⟨p, rfl, hp⟩ := mem_new hq
    have e : at_ (newA n m).ts (p : Int) = Th.none 0 := new_at n p hp
    refine ⟨by omega, ?_, by rw [e]; rfl, by rw [e]; decide, cnt_new n m (by omega) p hp⟩
    show (p : Int) < ((List.replicate n (Th.none 0)).length : Nat)
    rw [List.length_replicate]
    omega
theorem new_refB (n m : Nat) : RefB (newA n m) 1 := by
  intro k hk
  rw [show (newA n m).ts.getD k Th.zero = Th.none 0 from new_at n k (by simpa [newA] using hk)]
  decide
end Go.Proofs.Ytnagpedkmfmniaa.Ar
