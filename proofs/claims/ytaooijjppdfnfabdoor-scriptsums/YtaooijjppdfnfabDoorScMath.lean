/- Scripts as lists of numbers: their texts, how a text is read, how long a piece is in which a core is missing. No program in this text. -/
import Derived.Lib.AtoiAll
import Derived.Lib.ItoaNum
namespace Go.Proofs.YtaooijjppdfnfabDoor.Sc

/-! ### What a script is -/
def okL (l : List Int) (n : Int) : Bool := decide (1 ≤ n) && decide (n ≤ 64) && l.all fun x => decide (0 ≤ x) && decide (x < n)
def chk (l : List Int) (n : Int) : Int := if okL l n then 0 else 2
theorem okL_iff {l : List Int} {n : Int} : okL l n = true ↔ 1 ≤ n ∧ n ≤ 64 ∧ ∀ x ∈ l, 0 ≤ x ∧ x < n := by
  simp [okL, and_assoc]
theorem okL_mono {l : List Int} {n m : Int} (h : okL l n = true) (hm : n ≤ m) (h64 : m ≤ 64) : okL l m = true := by
  rw [okL_iff] at h ⊢
  exact ⟨by omega, h64, fun x hx => by have := h.2.2 x hx; omega⟩
theorem okL_append {l m : List Int} {n : Int} (h : okL l n = true) (k : okL m n = true) : okL (l ++ m) n = true := by
  rw [okL_iff] at h k ⊢
  exact ⟨h.1, h.2.1, fun x hx => (List.mem_append.1 hx).elim (h.2.2 x) (k.2.2 x)⟩
theorem chk_zero {l : List Int} {n : Int} : chk l n = 0 ↔ okL l n = true := by
  unfold chk; split <;> simp_all

/-! ### Its text -/
def dig (x : Int) : List UInt8 := Lib.decDigits x.toNat
def flat (l : List Int) : List UInt8 := (l.map fun x => 32 :: dig x).flatten
def putS (l : List Int) : List UInt8 := (flat l).drop 1
def putT (l : List Int) : List UInt8 := if okL l 64 then putS l else []
theorem flat_cons (x : Int) (r : List Int) : flat (x :: r) = 32 :: (dig x ++ flat r) := by simp [flat]
theorem flat_snoc (l : List Int) (x : Int) : flat (l ++ [x]) = flat l ++ 32 :: dig x := by simp [flat]
theorem flat_ne {l : List Int} (h : l ≠ []) : flat l = 32 :: putS l := by
  cases l with
  | nil => exact absurd rfl h
  | cons x r => simp [putS, flat_cons]
theorem putS_nil : putS [] = [] := rfl
theorem putS_one (x : Int) : putS [x] = dig x := by simp [putS, flat]
theorem putS_cons (x : Int) {r : List Int} (h : r ≠ []) : putS (x :: r) = dig x ++ 32 :: putS r := by
  rw [← flat_ne h]; simp [putS, flat_cons]
theorem putS_snoc {l : List Int} (x : Int) (h : l ≠ []) : putS (l ++ [x]) = putS l ++ 32 :: dig x := by
  have h0 : flat l ≠ [] := by rw [flat_ne h]; simp
  unfold putS
  rw [flat_snoc, List.drop_append_of_le_length (by cases hf : flat l with | nil => exact absurd hf h0 | cons => simp)]
theorem dig_small (i : Nat) (h : i < 64) : dig i = if i < 10 then [UInt8.ofNat (48 + i)] else [UInt8.ofNat (48 + i / 10), UInt8.ofNat (48 + i % 10)] := by
  unfold dig
  simp only [Int.toNat_natCast]
  split
  · rename_i h1; exact Lib.decDigits_one h1
  · rename_i h1; exact Lib.decDigits_two h1 (by omega)
theorem dig_len (x : Int) (h0 : 0 ≤ x) (h : x < 64) : (dig x).length ≤ 2 ∧ dig x ≠ [] := by
  obtain ⟨i, rfl⟩ := Int.eq_ofNat_of_zero_le h0
  rw [dig_small i (by omega)]
  split <;> simp
theorem flat_len (l : List Int) (h : ∀ x ∈ l, 0 ≤ x ∧ x < 64) : (flat l).length ≤ 3 * l.length := by
  induction l with
  | nil => simp [flat]
  | cons x r ih =>
    have h1 := h x (by simp)
    have h2 := ih fun y hy => h y (by simp [hy])
    have h3 := (dig_len x h1.1 h1.2).1
    rw [flat_cons]; simp; omega
theorem putS_len (l : List Int) (h : ∀ x ∈ l, 0 ≤ x ∧ x < 64) : (putS l).length ≤ 3 * l.length := by
  have := flat_len l h
  unfold putS; simp; omega
theorem putS_ne {l : List Int} (h : ∀ x ∈ l, 0 ≤ x ∧ x < 64) (h0 : l ≠ []) : putS l ≠ [] := by
  cases l with
  | nil => exact absurd rfl h0
  | cons x r =>
    have h1 := h x (by simp)
    have h2 := (dig_len x h1.1 h1.2).2
    cases r with
    | nil => rw [putS_one]; exact h2
    | cons y s => rw [putS_cons x (by simp)]; simp

/-! ### How a text is read: the program's way -/
/-- What lies between the blanks. -/
def pieces : List UInt8 → List (List UInt8)
  | [] => [[]]
  | c :: r => if c = 32 then [] :: pieces r else
    match pieces r with
    | [] => [[c]]
    | p :: ps => (c :: p) :: ps
theorem pieces_ne (l : List UInt8) : pieces l ≠ [] := by
  cases l with
  | nil => simp [pieces]
  | cons c r => unfold pieces; split; · simp
                · split <;> simp
theorem pieces_none {l : List UInt8} (h : ∀ c ∈ l, c ≠ 32) : pieces l = [l] := by
  induction l with
  | nil => rfl
  | cons c r ih =>
    rw [pieces, if_neg (h c (by simp)), ih fun d hd => h d (by simp [hd])]
theorem pieces_blank {p : List UInt8} (q : List UInt8) (h : ∀ c ∈ p, c ≠ 32) : pieces (p ++ 32 :: q) = p :: pieces q := by
  induction p with
  | nil => simp [pieces]
  | cons c r ih =>
    rw [List.cons_append, pieces, if_neg (h c (by simp)), ih fun d hd => h d (by simp [hd])]
theorem pieces_len (l : List UInt8) : (pieces l).length ≤ l.length + 1 := by
  induction l with
  | nil => simp [pieces]
  | cons c r ih =>
    unfold pieces
    split
    · simp; omega
    · split
      · simp
      · rename_i p ps h; rw [h] at ih; simp at ih ⊢; omega
/-- A number, as strconv.Atoi reads it. -/
def numA (p : List UInt8) : Option Int := match Lib.atoiAll p with
  | .ok v => some v
  | _ => none
def allA : List (List UInt8) → Option (List Int)
  | [] => some []
  | p :: ps => match numA p with
    | none => none
    | some v => match allA ps with
      | none => none
      | some l => some (v :: l)
def parP (s : List UInt8) : Option (List Int) := if s = [] then some [] else
  match allA (pieces s) with
  | none => none
  | some l => if putT l = s then some l else none
theorem dig_blank (x : Int) (h0 : 0 ≤ x) (h : x < 64) : ∀ c ∈ dig x, c ≠ 32 := by
  obtain ⟨i, rfl⟩ := Int.eq_ofNat_of_zero_le h0
  have key : ∀ i : Fin 64, ∀ c ∈ dig (i : Nat), c ≠ 32 := by decide +kernel
  exact key ⟨i, by omega⟩
theorem num_dig (x : Int) (h0 : 0 ≤ x) (h : x < 64) : numA (dig x) = some x := by
  obtain ⟨i, rfl⟩ := Int.eq_ofNat_of_zero_le h0
  have key : ∀ i : Fin 64, numA (dig (i : Nat)) = some ((i : Nat) : Int) := by decide +kernel
  exact key ⟨i, by omega⟩
theorem pieces_put {l : List Int} (h : ∀ x ∈ l, 0 ≤ x ∧ x < 64) (h0 : l ≠ []) : pieces (putS l) = l.map dig := by
  induction l with
  | nil => exact absurd rfl h0
  | cons x r ih =>
    have h1 := h x (by simp)
    have hb := dig_blank x h1.1 h1.2
    cases r with
    | nil => rw [putS_one, pieces_none hb]; rfl
    | cons y s =>
      rw [putS_cons x (by simp), pieces_blank _ hb, ih (fun z hz => h z (by simp [hz])) (by simp)]
      rfl
theorem all_dig {l : List Int} (h : ∀ x ∈ l, 0 ≤ x ∧ x < 64) : allA (l.map dig) = some l := by
  induction l with
  | nil => rfl
  | cons x r ih =>
    have h1 := h x (by simp)
    rw [List.map_cons, allA, num_dig x h1.1 h1.2, ih fun z hz => h z (by simp [hz])]
theorem scr {l : List Int} (h : okL l 64 = true) : ∀ x ∈ l, 0 ≤ x ∧ x < 64 := (okL_iff.1 h).2.2
theorem parP_is {s : List UInt8} {l : List Int} : parP s = some l ↔ okL l 64 = true ∧ putS l = s := by
  unfold parP
  by_cases hs : s = []
  · subst hs
    rw [if_pos rfl]
    constructor
    · intro h; cases h; exact ⟨rfl, rfl⟩
    · rintro ⟨h1, h2⟩
      by_cases h0 : l = []
      · rw [h0]
      · exact absurd h2 (putS_ne (scr h1) h0)
  · rw [if_neg hs]
    constructor
    · intro h
      split at h
      · cases h
      · split at h
        · rename_i m hm hp
          cases h
          unfold putT at hp
          split at hp
          · rename_i ho; exact ⟨ho, hp⟩
          · exact absurd hp.symm hs
        · cases h
    · rintro ⟨h1, h2⟩
      have h0 : l ≠ [] := by intro e; subst e; exact hs h2.symm
      rw [← h2, pieces_put (scr h1) h0, all_dig (scr h1)]
      simp [putT, h1]
theorem put_one {l m : List Int} (hl : okL l 64 = true) (hm : okL m 64 = true) (h : putS l = putS m) : l = m := by
  have h1 := parP_is.2 ⟨hl, rfl⟩
  have h2 := parP_is.2 ⟨hm, rfl⟩
  rw [h, h2] at h1
  injection h1 with h1
  exact h1.symm

/-! ### The document's way -/
def rscan : List UInt8 → Int → Bool → List Int → Option (List Int)
  | [], n, any, l => if any then some (l ++ [n]) else none
  | c :: r, n, any, l => if c = 32 then (if any then rscan r 0 false (l ++ [n]) else none) else
    if c < 48 ∨ 57 < c ∨ 100 < n then none else rscan r (10 * n + ((c.toNat : Int) - 48)) true l
def parR (s : List UInt8) : Option (List Int) := if s = [] then some [] else
  match rscan s 0 false [] with
  | none => none
  | some l => if putT l = s then some l else none
theorem not3 {p q r : Prop} (h : ¬ p) (k : ¬ q) (g : ¬ r) : ¬ (p ∨ q ∨ r) := fun e => e.elim h fun e => e.elim k g
theorem rscan_dig (x : Int) (h0 : 0 ≤ x) (h : x < 64) (q : List UInt8) (l : List Int) : rscan (dig x ++ 32 :: q) 0 false l = rscan q 0 false (l ++ [x]) := by
  obtain ⟨i, rfl⟩ := Int.eq_ofNat_of_zero_le h0
  have hi : i < 64 := by omega
  rw [dig_small i hi]
  have key1 : ∀ i : Fin 10, ¬ UInt8.ofNat (48 + i) = 32 ∧ ¬ UInt8.ofNat (48 + i) < 48 ∧ ¬ 57 < UInt8.ofNat (48 + i) ∧ (UInt8.ofNat (48 + i)).toNat = 48 + i := by decide +kernel
  split
  · rename_i h1
    obtain ⟨a1, a2, a3, a4⟩ := key1 ⟨i, h1⟩
    simp only [] at a1 a2 a3 a4
    rw [List.cons_append, rscan, if_neg a1, if_neg (not3 a2 a3 (by omega)), a4, List.nil_append, rscan, if_pos rfl, if_pos rfl]
    congr 2; push_cast; simp; omega
  · rename_i h1
    obtain ⟨a1, a2, a3, a4⟩ := key1 ⟨i / 10, by omega⟩
    obtain ⟨b1, b2, b3, b4⟩ := key1 ⟨i % 10, by omega⟩
    simp only [] at a1 a2 a3 a4 b1 b2 b3 b4
    rw [List.cons_append, rscan, if_neg a1, if_neg (not3 a2 a3 (by omega)), a4, List.cons_append, rscan, if_neg b1, if_neg (not3 b2 b3 (by omega)), b4, List.nil_append, rscan, if_pos rfl, if_pos rfl]
    congr 2; push_cast; simp; omega
theorem rscan_last (x : Int) (h0 : 0 ≤ x) (h : x < 64) (l : List Int) : rscan (dig x) 0 false l = some (l ++ [x]) := by
  obtain ⟨i, rfl⟩ := Int.eq_ofNat_of_zero_le h0
  have hi : i < 64 := by omega
  rw [dig_small i hi]
  have key1 : ∀ i : Fin 10, ¬ UInt8.ofNat (48 + i) = 32 ∧ ¬ UInt8.ofNat (48 + i) < 48 ∧ ¬ 57 < UInt8.ofNat (48 + i) ∧ (UInt8.ofNat (48 + i)).toNat = 48 + i := by decide +kernel
  split
  · rename_i h1
    obtain ⟨a1, a2, a3, a4⟩ := key1 ⟨i, h1⟩
    simp only [] at a1 a2 a3 a4
    rw [rscan, if_neg a1, if_neg (not3 a2 a3 (by omega)), a4, rscan, if_pos rfl]
    congr 2; push_cast; simp; omega
  · rename_i h1
    obtain ⟨a1, a2, a3, a4⟩ := key1 ⟨i / 10, by omega⟩
    obtain ⟨b1, b2, b3, b4⟩ := key1 ⟨i % 10, by omega⟩
    simp only [] at a1 a2 a3 a4 b1 b2 b3 b4
    rw [rscan, if_neg a1, if_neg (not3 a2 a3 (by omega)), a4, rscan, if_neg b1, if_neg (not3 b2 b3 (by omega)), b4, rscan, if_pos rfl]
    congr 2; push_cast; simp; omega
theorem rscan_put {l : List Int} (h : ∀ x ∈ l, 0 ≤ x ∧ x < 64) (h0 : l ≠ []) (pre : List Int) : rscan (putS l) 0 false pre = some (pre ++ l) := by
  induction l generalizing pre with
  | nil => exact absurd rfl h0
  | cons x r ih =>
    have h1 := h x (by simp)
    cases r with
    | nil => rw [putS_one, rscan_last x h1.1 h1.2]
    | cons y s =>
      rw [putS_cons x (by simp), rscan_dig x h1.1 h1.2, ih (fun z hz => h z (by simp [hz])) (by simp)]
      simp
theorem parR_is {s : List UInt8} {l : List Int} : parR s = some l ↔ okL l 64 = true ∧ putS l = s := by
  unfold parR
  by_cases hs : s = []
  · subst hs
    rw [if_pos rfl]
    constructor
    · intro h; cases h; exact ⟨rfl, rfl⟩
    · rintro ⟨h1, h2⟩
      by_cases h0 : l = []
      · rw [h0]
      · exact absurd h2 (putS_ne (scr h1) h0)
  · rw [if_neg hs]
    constructor
    · intro h
      split at h
      · cases h
      · split at h
        · rename_i m hm hp
          cases h
          unfold putT at hp
          split at hp
          · rename_i ho; exact ⟨ho, hp⟩
          · exact absurd hp.symm hs
        · cases h
    · rintro ⟨h1, h2⟩
      have h0 : l ≠ [] := by intro e; subst e; exact hs h2.symm
      rw [← h2, rscan_put (scr h1) h0]
      simp [putT, h1]
theorem par_same (s : List UInt8) : parR s = parP s := by
  cases h : parP s with
  | none =>
    cases k : parR s with
    | none => rfl
    | some l => have := parP_is.2 (parR_is.1 k); rw [h] at this; cases this
  | some l => exact parR_is.2 (parP_is.1 h)
theorem rscan_len (s : List UInt8) (n : Int) (any : Bool) (l r : List Int) (h : rscan s n any l = some r) : r.length ≤ l.length + s.length + 1 := by
  induction s generalizing n any l with
  | nil => unfold rscan at h; split at h; · cases h; simp
           · cases h
  | cons c s ih =>
    unfold rscan at h
    split at h
    · split at h
      · have := ih _ _ _ h; simp at this ⊢; omega
      · cases h
    · split at h
      · cases h
      · have := ih _ _ _ h; simp at this ⊢; omega
theorem allA_len {ps : List (List UInt8)} {l : List Int} (h : allA ps = some l) : l.length = ps.length := by
  induction ps generalizing l with
  | nil => simp [allA] at h; subst h; rfl
  | cons p r ih =>
    unfold allA at h
    split at h
    · cases h
    · split at h
      · cases h
      · rename_i m hm; cases h; simp [ih hm]
end Go.Proofs.YtaooijjppdfnfabDoor.Sc
