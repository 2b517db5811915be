/- Plain facts on addresses, their words, nodes and what is found: no program. -/
import Derived.Test.YtilannincbcgkaaDoorCpMath
import Derived.Test.YtilannincbcgkaaDoorPutMc
namespace Go.Proofs.YtilannincbcgkaaDoor.Ad
open Cp (K noneB someB okB)
open Rt (isR isR_iff wiB)

/-- A STEP (guard, index), A KEY (object, slot). -/
abbrev P := Int × Int
theorem getD_get (l : List P) (j : Nat) (hj : j < l.length) : l.getD j (0, 0) = l[j] := by simp [List.getD, hj]
def okS (s : P) : Bool := decide (0 ≤ s.1 ∧ s.1 ≤ 7 ∧ 0 ≤ s.2 ∧ s.2 ≤ 7)
theorem okS_iff {s : P} : okS s = true ↔ (0 ≤ s.1 ∧ s.1 ≤ 7 ∧ 0 ≤ s.2 ∧ s.2 ≤ 7) := by simp [okS]
theorem okS_not {s : P} : okS s = false ↔ ¬ (0 ≤ s.1 ∧ s.1 ≤ 7 ∧ 0 ≤ s.2 ∧ s.2 ≤ 7) := by simp [okS]
/-- WHAT AN ADDRESS IS. -/
def okA (l : List P) : Bool := decide (1 ≤ l.length ∧ l.length ≤ 4) && l.all okS
def chkA (l : List P) : Int := if okA l then 0 else 120
theorem okA_iff {l : List P} : okA l = true ↔ (1 ≤ l.length ∧ l.length ≤ 4 ∧ ∀ s ∈ l, okS s = true) := by
  simp [okA, and_assoc]
theorem okA_all {l : List P} (h : okA l = true) : ∀ s ∈ l, okS s = true := (okA_iff.1 h).2.2
theorem okA_pos {l : List P} (h : okA l = true) : 1 ≤ l.length := (okA_iff.1 h).1
theorem okA_le {l : List P} (h : okA l = true) : l.length ≤ 4 := (okA_iff.1 h).2.1
theorem okA_not {l : List P} {j : Nat} (hj : j < l.length) (h : okS (l.getD j (0, 0)) = false) : okA l = false := by
  cases hb : okA l with
  | false => rfl
  | true =>
    have := okA_all hb (l.getD j (0, 0)) (by rw [getD_get _ _ hj]; exact List.getElem_mem hj)
    rw [h] at this; cases this
theorem okA_of {l : List P} (h1 : 1 ≤ l.length) (h2 : l.length ≤ 4) (h : ∀ j, j < l.length → okS (l.getD j (0, 0)) = true) : okA l = true :=
  okA_iff.2 ⟨h1, h2, fun s hs => by
    obtain ⟨j, hj, rfl⟩ := List.mem_iff_getElem.1 hs
    have := h j hj
    rwa [getD_get _ _ hj] at this⟩
theorem okA_len {l : List P} (h : ¬ (1 ≤ l.length ∧ l.length ≤ 4)) : okA l = false := by simp [okA, h]

/-! ### The word -/
/-- THE WORD, STEP BY STEP, AS THE DOCUMENT PUTS IT: from the word x on, the step at i and those behind it. -/
def wf (x i : Nat) : List P → Nat
  | [] => x
  | s :: r => wf (putN (putN x (3 + 6 * i) 3 s.1.toNat) (6 + 6 * i) 3 s.2.toNat) (i + 1) r
def wrd (l : List P) : Nat := wf l.length 0 l
/-- The same as a number. -/
def enc : List P → Nat
  | [] => 0
  | s :: r => s.1.toNat + 8 * s.2.toNat + 64 * enc r
/-- What is read of a number, n steps. -/
def dec : Nat → Nat → List P
  | 0, _ => []
  | n + 1, v => (((v % 8 : Nat) : Int), ((v / 8 % 8 : Nat) : Int)) :: dec n (v / 64)

theorem dec_len (n v : Nat) : (dec n v).length = n := by
  induction n generalizing v with
  | zero => rfl
  | succ n ih => simp [dec, ih]
theorem dec_ok (n v : Nat) : ∀ s ∈ dec n v, okS s = true := by
  induction n generalizing v with
  | zero => intro s hs; cases hs
  | succ n ih =>
    intro s hs
    simp only [dec, List.mem_cons] at hs
    rcases hs with rfl | hs
    · exact okS_iff.2 ⟨by omega, by omega, by omega, by omega⟩
    · exact ih _ s hs
theorem enc_dec (n v : Nat) (h : v < 64 ^ n) : enc (dec n v) = v := by
  induction n generalizing v with
  | zero => simp at h; simp [dec, enc, h]
  | succ n ih =>
    have : v / 64 < 64 ^ n := by rw [Nat.div_lt_iff_lt_mul (by omega)]; rwa [Nat.pow_succ] at h
    simp only [dec, enc, ih _ this]
    omega
theorem dec_enc (l : List P) (h : ∀ s ∈ l, okS s = true) : dec l.length (enc l) = l := by
  induction l with
  | nil => rfl
  | cons s r ih =>
    have hs := okS_iff.1 (h s (by simp))
    have e := ih fun x hx => h x (by simp [hx])
    simp only [List.length_cons, dec, enc]
    have e1 : (s.1.toNat + 8 * s.2.toNat + 64 * enc r) / 64 = enc r := by omega
    rw [e1, e]
    congr 1
    apply Prod.ext <;> simp only <;> omega
theorem enc_lt (l : List P) (h : ∀ s ∈ l, okS s = true) : enc l < 64 ^ l.length := by
  induction l with
  | nil => simp [enc]
  | cons s r ih =>
    have hs := okS_iff.1 (h s (by simp))
    have e := ih fun x hx => h x (by simp [hx])
    simp only [List.length_cons, enc, Nat.pow_succ]
    omega

theorem put_add (x a v : Nat) (hx : x < 2 ^ a) (hv : v ≤ 7) (h : a + 3 ≤ 64) : putN x a 3 v = x + v * 2 ^ a := by
  have hp : 2 ^ a ≤ 2 ^ 61 := Nat.pow_le_pow_right (by omega) (by omega)
  have e : x + v * 2 ^ a = 2 ^ a * v + x := by rw [Nat.mul_comm, Nat.add_comm]
  apply Nat.eq_of_testBit_eq
  intro i
  rw [put_bit x a 3 v i (by omega) (by omega) h, e, Nat.testBit_two_pow_mul_add _ hx]
  by_cases h1 : i < a
  · have : ¬ (a ≤ i ∧ i < a + 3) := by omega
    simp [h1, this]
  · by_cases h2 : i < a + 3
    · have : a ≤ i ∧ i < a + 3 := by omega
      simp [h1, this]
    · have : ¬ (a ≤ i ∧ i < a + 3) := by omega
      simp only [h1, this, if_false]
      rw [Nat.testBit_lt_two_pow (Nat.lt_of_lt_of_le hx (Nat.pow_le_pow_right (by omega) (by omega)))]
      symm
      apply Nat.testBit_lt_two_pow
      exact Nat.lt_of_lt_of_le (show v < 2 ^ 3 by omega) (Nat.pow_le_pow_right (by omega) (by omega))
theorem pow_six (i : Nat) : 2 ^ (3 + 6 * (i + 1)) = 64 * 2 ^ (3 + 6 * i) := by
  rw [show 3 + 6 * (i + 1) = 6 + (3 + 6 * i) by omega, Nat.pow_add]
theorem pow_three (i : Nat) : 2 ^ (6 + 6 * i) = 8 * 2 ^ (3 + 6 * i) := by
  rw [show 6 + 6 * i = 3 + (3 + 6 * i) by omega, Nat.pow_add]
/-- One step put: no carry. -/
theorem put_step (x i : Nat) (s : P) (hx : x < 2 ^ (3 + 6 * i)) (hs : okS s = true) (hi : i < 4) :
    putN (putN x (3 + 6 * i) 3 s.1.toNat) (6 + 6 * i) 3 s.2.toNat = x + (s.1.toNat + 8 * s.2.toNat) * 2 ^ (3 + 6 * i) ∧
    x + (s.1.toNat + 8 * s.2.toNat) * 2 ^ (3 + 6 * i) < 2 ^ (3 + 6 * (i + 1)) ∧ putN x (3 + 6 * i) 3 s.1.toNat < 18446744073709551616 := by
  have h := okS_iff.1 hs
  have h1 := put_add x (3 + 6 * i) s.1.toNat hx (by omega) (by omega)
  have hp := pow_three i
  have hq := pow_six i
  have hg : s.1.toNat ≤ 7 := by omega
  have hj : s.2.toNat ≤ 7 := by omega
  have m1 : s.1.toNat * 2 ^ (3 + 6 * i) ≤ 7 * 2 ^ (3 + 6 * i) := Nat.mul_le_mul_right _ hg
  have m2 : s.2.toNat * 2 ^ (3 + 6 * i) ≤ 7 * 2 ^ (3 + 6 * i) := Nat.mul_le_mul_right _ hj
  have hw : 2 ^ (3 + 6 * i) ≤ 2 ^ 21 := Nat.pow_le_pow_right (by omega) (by omega)
  have e2 : s.2.toNat * (8 * 2 ^ (3 + 6 * i)) = 8 * (s.2.toNat * 2 ^ (3 + 6 * i)) := by rw [Nat.mul_left_comm]
  have e3 : (s.1.toNat + 8 * s.2.toNat) * 2 ^ (3 + 6 * i) = s.1.toNat * 2 ^ (3 + 6 * i) + 8 * (s.2.toNat * 2 ^ (3 + 6 * i)) := by rw [Nat.add_mul, Nat.mul_assoc]
  rw [h1]
  have h2 := put_add (x + s.1.toNat * 2 ^ (3 + 6 * i)) (6 + 6 * i) s.2.toNat (by rw [hp]; omega) hj (by omega)
  rw [h2, hp, e2, e3, hq]
  exact ⟨by omega, by omega, by omega⟩
theorem wf_enc (x i : Nat) (l : List P) (hx : x < 2 ^ (3 + 6 * i)) (hs : ∀ s ∈ l, okS s = true) (hi : i + l.length ≤ 4) : wf x i l = x + enc l * 2 ^ (3 + 6 * i) := by
  induction l generalizing x i with
  | nil => simp [wf, enc]
  | cons s r ih =>
    simp only [List.length_cons] at hi
    obtain ⟨h1, h2, _⟩ := put_step x i s hx (hs s (by simp)) (by omega)
    simp only [wf, enc]
    rw [h1, ih _ _ h2 (fun y hy => hs y (by simp [hy])) (by omega), pow_six]
    rw [Nat.add_mul _ (64 * enc r), Nat.mul_left_comm (enc r), ← Nat.mul_assoc 64, Nat.add_assoc]
theorem wrd_enc {l : List P} (h : okA l = true) : wrd l = l.length + 8 * enc l := by
  have := okA_le h
  rw [wrd, wf_enc _ _ _ (by simp; omega) (okA_all h) (by omega), Nat.mul_comm]
theorem wrd_lt {l : List P} (h : okA l = true) : wrd l < 2 ^ 27 := by
  have h1 := okA_le h
  have h2 := enc_lt l (okA_all h)
  have h3 : 64 ^ l.length ≤ 64 ^ 4 := Nat.pow_le_pow_right (by omega) h1
  rw [wrd_enc h]
  omega
/-- The word of the first steps: what the loop has. -/
theorem wf_app (x i : Nat) (l m : List P) : wf x i (l ++ m) = wf (wf x i l) (i + l.length) m := by
  induction l generalizing x i with
  | nil => rfl
  | cons s r ih => simp only [List.cons_append, wf, ih, List.length_cons, Nat.add_assoc, Nat.add_comm 1]

/-! ### Parse -/
def parL (x : Nat) : List P := dec (min (x % 8) 4) (x / 8)
/-- WHAT A WORD SAYS. -/
def parB (x : Nat) : Bool := okA (parL x) && (wrd (parL x) == x)
def parA (x : Nat) : List P := if parB x then parL x else []
def parE (x : Nat) : Int := if parB x then 0 else 120
def putA (l : List P) : Nat := if okA l then wrd l else 0
theorem par_put {l : List P} (h : okA l = true) : parL (wrd l) = l := by
  have h1 := okA_le h
  rw [parL, wrd_enc h, show (l.length + 8 * enc l) % 8 = l.length by omega, show (l.length + 8 * enc l) / 8 = enc l by omega, Nat.min_eq_left h1]
  exact dec_enc l (okA_all h)
/-- THERE AND BACK. -/
theorem back {l : List P} (h : okA l = true) : parB (wrd l) = true ∧ parA (wrd l) = l ∧ parE (wrd l) = 0 := by
  have hb : parB (wrd l) = true := by simp [parB, par_put h, h]
  exact ⟨hb, by simp [parA, hb, par_put h], by simp [parE, hb]⟩
theorem wrd_inj {l m : List P} (hl : okA l = true) (hm : okA m = true) : wrd l = wrd m ↔ l = m :=
  ⟨fun h => by rw [← par_put hl, ← par_put hm, h], fun h => by rw [h]⟩
theorem forth {x : Nat} (h : parB x = true) : okA (parA x) = true ∧ wrd (parA x) = x := by
  have : parA x = parL x := by simp [parA, h]
  rw [this]
  simp only [parB, Bool.and_eq_true, beq_iff_eq] at h
  exact h
theorem par_no {x : Nat} (h : parB x = false) : parA x = [] ∧ parE x = 120 := by simp [parA, parE, h]
theorem par_yes {x : Nat} (h : parB x = true) : parA x = parL x ∧ parE x = 0 := by simp [parA, parE, h]

/-- Each field as the document gets it. -/
theorem dec_get (n v j : Nat) (hj : j < n) : (dec n v).getD j (0, 0) = (((v / 64 ^ j % 8 : Nat) : Int), ((v / 64 ^ j / 8 % 8 : Nat) : Int)) := by
  induction n generalizing v j with
  | zero => omega
  | succ n ih =>
    cases j with
    | zero => simp [dec]
    | succ j =>
      simp only [dec, List.getD_cons_succ]
      rw [ih _ _ (by omega), Nat.div_div_eq_div_mul, Nat.pow_succ, Nat.mul_comm 64]
theorem get_guard (x j : Nat) : getN x (3 + 6 * j) 3 = x / 8 / 64 ^ j % 8 := by
  unfold getN
  rw [Nat.div_div_eq_div_mul, show 2 ^ (3 + 6 * j) = 8 * 64 ^ j by rw [Nat.pow_add, Nat.pow_mul]]
theorem get_index (x j : Nat) : getN x (6 + 6 * j) 3 = x / 8 / 64 ^ j / 8 % 8 := by
  unfold getN
  rw [Nat.div_div_eq_div_mul, Nat.div_div_eq_div_mul, show 2 ^ (6 + 6 * j) = 8 * 64 ^ j * 8 by rw [show 6 + 6 * j = 3 + 6 * j + 3 by omega, Nat.pow_add, Nat.pow_add, Nat.pow_mul], ← Nat.mul_assoc]
theorem dec_take (n v j : Nat) (hj : j ≤ n) : (dec n v).take j = dec j v := by
  induction n generalizing v j with
  | zero => have : j = 0 := by omega
            subst this; rfl
  | succ n ih =>
    cases j with
    | zero => rfl
    | succ j => simp only [dec, List.take_succ_cons]; rw [ih _ _ (by omega)]
theorem dec_snoc (n v : Nat) : dec (n + 1) v = dec n v ++ [(((v / 64 ^ n % 8 : Nat) : Int), ((v / 64 ^ n / 8 % 8 : Nat) : Int))] := by
  induction n generalizing v with
  | zero => simp [dec]
  | succ n ih =>
    rw [dec, ih, dec, List.cons_append, Nat.div_div_eq_div_mul, Nat.pow_succ, Nat.mul_comm 64]
/-- One step more is read. -/
theorem par_more (x n : Nat) : dec (n + 1) (x / 8) = dec n (x / 8) ++ [((getN x (3 + 6 * n) 3 : Int), (getN x (6 + 6 * n) 3 : Int))] := by
  rw [dec_snoc, get_guard, get_index]

/-! ### What is in a slot, and what is found -/
/-- Whether there is such a slot. -/
def slB (t : List (List K)) (k : P) : Bool := decide (0 ≤ k.1 ∧ k.1 < t.length ∧ (t.getD k.1.toNat []).length = 8 ∧ 0 ≤ k.2 ∧ k.2 < 8)
def slC (t : List (List K)) (k : P) : K := (t.getD k.1.toNat []).getD k.2.toNat K.zero
def getC (t : List (List K)) (k : P) : K := if slB t k then slC t k else K.zero
theorem slB_iff {t : List (List K)} {k : P} : slB t k = true ↔ (0 ≤ k.1 ∧ k.1 < t.length ∧ (t.getD k.1.toNat []).length = 8 ∧ 0 ≤ k.2 ∧ k.2 < 8) := by simp [slB]
theorem slB_not {t : List (List K)} {k : P} : slB t k = false ↔ ¬ (0 ≤ k.1 ∧ k.1 < t.length ∧ (t.getD k.1.toNat []).length = 8 ∧ 0 ≤ k.2 ∧ k.2 < 8) := by simp [slB]

/-- Whether it lets one do this. -/
def mayB (c : K) (r : Int) : Bool := someB c && Rt.wiB r c.r
/-- Whether a step goes from the capability c. -/
def goB (t : List (List K)) (c : K) (s : P) : Bool := c.t == 2 && (mayB c 1 && (c.b == s.1 && slB t (c.o, s.2)))
/-- THE WAY: whether it goes; the places. -/
def wayB (t : List (List K)) (c : K) : List P → Bool
  | [] => true
  | s :: r => goB t c s && wayB t (slC t (c.o, s.2)) r
def wayL (t : List (List K)) (c : K) : List P → List P
  | [] => []
  | s :: r => (c.o, s.2) :: wayL t (slC t (c.o, s.2)) r
/-- Where one stands behind the way. -/
def wayC (t : List (List K)) (c : K) : List P → K
  | [] => c
  | s :: r => wayC t (slC t (c.o, s.2)) r
def fndB (t : List (List K)) (c : K) (l : List P) : Bool := okA l && wayB t c l
def fndL (t : List (List K)) (c : K) (l : List P) : List P := if fndB t c l then wayL t c l else []
def fndK (t : List (List K)) (c : K) (l : List P) : P := (fndL t c l).getLastD (0, 0)
def fndE (t : List (List K)) (c : K) (l : List P) : Int := if fndB t c l then 0 else 120

theorem wayL_len (t : List (List K)) (c : K) (l : List P) : (wayL t c l).length = l.length := by
  induction l generalizing c with
  | nil => rfl
  | cons s r ih => simp [wayL, ih]
theorem wayB_app (t : List (List K)) (c : K) (l m : List P) : wayB t c (l ++ m) = (wayB t c l && wayB t (wayC t c l) m) := by
  induction l generalizing c with
  | nil => simp [wayB, wayC]
  | cons s r ih => simp [wayB, wayC, ih, Bool.and_assoc]
theorem wayL_app (t : List (List K)) (c : K) (l m : List P) : wayL t c (l ++ m) = wayL t c l ++ wayL t (wayC t c l) m := by
  induction l generalizing c with
  | nil => simp [wayL, wayC]
  | cons s r ih => simp [wayL, wayC, ih]
theorem wayC_app (t : List (List K)) (c : K) (l m : List P) : wayC t c (l ++ m) = wayC t (wayC t c l) m := by
  induction l generalizing c with
  | nil => simp [wayC]
  | cons s r ih => simp [wayC, ih]
/-- One stands at what the last place has. -/
theorem wayC_last (t : List (List K)) (c : K) (l : List P) (h : 1 ≤ l.length) : wayC t c l = slC t ((wayL t c l).getLastD (0, 0)) := by
  induction l generalizing c with
  | nil => simp at h
  | cons s r ih =>
    cases r with
    | nil => simp [wayC, wayL]
    | cons s' r' =>
      rw [wayC, ih _ (by simp)]
      simp [wayL]
theorem fnd_no {t : List (List K)} {c : K} {l : List P} (h : fndB t c l = false) : fndL t c l = [] ∧ fndK t c l = (0, 0) ∧ fndE t c l = 120 := by
  simp [fndL, fndK, fndE, h]
theorem fnd_yes {t : List (List K)} {c : K} {l : List P} (h : fndB t c l = true) : fndL t c l = wayL t c l ∧ fndK t c l = (wayL t c l).getLastD (0, 0) ∧ fndE t c l = 0 := by
  simp [fndL, fndK, fndE, h]
theorem fndB_iff {t : List (List K)} {c : K} {l : List P} : fndB t c l = true ↔ okA l = true ∧ wayB t c l = true := by simp [fndB]

/-- THE FRONT (P12.5). -/
theorem front {t : List (List K)} {c : K} {l : List P} {s : P} (h : fndB t c (l ++ [s]) = true) (hl : 1 ≤ l.length) :
    fndB t c l = true ∧ goB t (wayC t c l) s = true ∧ wayL t c (l ++ [s]) = wayL t c l ++ [((wayC t c l).o, s.2)] := by
  obtain ⟨h1, h2⟩ := fndB_iff.1 h
  rw [wayB_app, Bool.and_eq_true] at h2
  have h3 : goB t (wayC t c l) s = true := by simpa [wayB] using h2.2
  refine ⟨fndB_iff.2 ⟨okA_iff.2 ⟨hl, ?_, fun x hx => okA_all h1 x (by simp [hx])⟩, h2.1⟩, h3, ?_⟩
  · have := okA_le h1; simp at this; omega
  · rw [wayL_app]; rfl
/-- Each place on a way that goes is a slot. -/
theorem way_slots {t : List (List K)} {c : K} {l : List P} (h : wayB t c l = true) : ∀ k ∈ wayL t c l, slB t k = true := by
  induction l generalizing c with
  | nil => intro k hk; cases hk
  | cons s r ih =>
    simp only [wayB, Bool.and_eq_true] at h
    intro k hk
    simp only [wayL, List.mem_cons] at hk
    rcases hk with rfl | hk
    · have := h.1
      simp only [goB, Bool.and_eq_true] at this
      exact this.2.2.2
    · exact ih h.2 k hk

theorem wi_fin1 : ∀ b : Fin 16, wiB 1 b.val = true → (b.val : Int).tmod 2 = 1 := by decide +kernel
theorem wi_fin2 : ∀ b : Fin 16, wiB 1 b.val = true → wiB 1 ((b.val : Int) - 1) = false := by decide +kernel
theorem may_odd {c : K} (h : mayB c 1 = true) : c.r.tmod 2 = 1 := by
  simp only [mayB, Bool.and_eq_true] at h
  have hr : isR c.r = true := by
    have := h.2
    simp only [wiB, Bool.and_eq_true] at this
    exact this.1.2
  have hb := isR_iff.1 hr
  have e : c.r = ((⟨c.r.toNat, by omega⟩ : Fin 16).val : Int) := by simp only; omega
  rw [e] at h ⊢
  exact wi_fin1 _ h.2
theorem may_less {c : K} (h : mayB c 1 = true) : mayB { c with r := c.r - 1 } 1 = false := by
  simp only [mayB, Bool.and_eq_true] at h
  have hr : isR c.r = true := by
    have := h.2
    simp only [wiB, Bool.and_eq_true] at this
    exact this.1.2
  have hb := isR_iff.1 hr
  have e : c.r = ((⟨c.r.toNat, by omega⟩ : Fin 16).val : Int) := by simp only; omega
  simp only [mayB, Bool.and_eq_false_iff]
  right
  rw [e] at h ⊢
  exact wi_fin2 _ h.2

/-- ANOTHER CAPABILITY IN A SLOT (P12.5). -/
def setC (t : List (List K)) (k : P) (c : K) : List (List K) := t.set k.1.toNat ((t.getD k.1.toNat []).set k.2.toNat c)
theorem set_len (t : List (List K)) (k : P) (c : K) : (setC t k c).length = t.length := by simp [setC]
theorem set_row (t : List (List K)) (k : P) (c : K) (o : Nat) : ((setC t k c).getD o []).length = (t.getD o []).length := by
  unfold setC
  by_cases h : k.1.toNat = o
  · subst h
    by_cases hl : k.1.toNat < t.length
    · simp [List.getD, hl]
    · rw [List.set_eq_of_length_le (by omega)]
  · simp [List.getD, h]
theorem set_sl (t : List (List K)) (k : P) (c : K) (x : P) : slB (setC t k c) x = slB t x := by
  unfold slB
  rw [set_len, set_row]
theorem set_other {t : List (List K)} {k x : P} {c : K} (hk : slB t k = true) (hx : slB t x = true) (h : x ≠ k) : slC (setC t k c) x = slC t x := by
  have h1 := slB_iff.1 hk
  have h2 := slB_iff.1 hx
  unfold slC setC
  by_cases e : k.1.toNat = x.1.toNat
  · have e1 : k.1 = x.1 := by omega
    have e2 : k.2.toNat ≠ x.2.toNat := by
      intro e2
      exact h (Prod.ext e1.symm (by omega))
    rw [← e]
    have hl : k.1.toNat < t.length := by omega
    simp [List.getD, hl, e2]
  · simp [List.getD, e]
theorem set_go (t : List (List K)) (k : P) (c d : K) (s : P) : goB (setC t k c) d s = goB t d s := by unfold goB; rw [set_sl]
theorem others {t : List (List K)} {k : P} {c d : K} {l : List P} (hk : slB t k = true) (hw : wayB t d l = true) (hn : k ∉ (wayL t d l).dropLast) :
    wayB (setC t k c) d l = true ∧ wayL (setC t k c) d l = wayL t d l := by
  induction l generalizing d with
  | nil => exact ⟨rfl, rfl⟩
  | cons s r ih =>
    simp only [wayB, Bool.and_eq_true] at hw
    cases r with
    | nil => simp [wayB, wayL, set_go, hw.1]
    | cons s' r' =>
      have hx : slB t (d.o, s.2) = true := by
        have := hw.1
        simp only [goB, Bool.and_eq_true] at this
        exact this.2.2.2
      have hne : (d.o, s.2) ≠ k := by
        intro e
        apply hn
        rw [wayL, List.dropLast_cons_of_ne_nil (by simp [wayL]), ← e]
        exact List.mem_cons_self
      have e := set_other (c := c) hk hx hne
      have := ih (d := slC t (d.o, s.2)) hw.2 (by
        intro hm
        apply hn
        rw [wayL, List.dropLast_cons_of_ne_nil (by simp [wayL])]
        exact List.mem_cons_of_mem _ hm)
      constructor
      · rw [wayB, set_go, hw.1, e, this.1]; rfl
      · rw [wayL, e, this.2]; rfl

/-- ANOTHER GUARD LEADS NOWHERE. -/
theorem guards {t : List (List K)} {c : K} {l : List P} {j : Nat} {g : Int} (h : wayB t c l = true) (hj : j < l.length) :
    wayB t c (l.set j (g, (l.getD j (0, 0)).2)) = true ↔ g = (l.getD j (0, 0)).1 := by
  induction l generalizing c j with
  | nil => simp at hj
  | cons s r ih =>
    simp only [wayB, Bool.and_eq_true] at h
    cases j with
    | zero =>
      simp only [List.set_cons_zero, List.getD_cons_zero, wayB, Bool.and_eq_true, h.2, and_true]
      have := h.1
      simp only [goB, Bool.and_eq_true, beq_iff_eq] at this ⊢
      constructor
      · intro q; rw [← q.2.2.1, this.2.2.1]
      · rintro rfl; exact this
    | succ j =>
      simp only [List.set_cons_succ, List.getD_cons_succ, wayB, Bool.and_eq_true, h.1, true_and]
      exact ih h.2 (by simpa using hj)
theorem guards_all {t : List (List K)} {c : K} {l : List P} {j : Nat} {g : Int} (h : fndB t c l = true) (hj : j < l.length) :
    fndB t c (l.set j (g, (l.getD j (0, 0)).2)) = decide (g = (l.getD j (0, 0)).1) := by
  obtain ⟨h1, h2⟩ := fndB_iff.1 h
  by_cases e : g = (l.getD j (0, 0)).1
  · subst e
    have : l.set j ((l.getD j (0, 0)).1, (l.getD j (0, 0)).2) = l := by
      rw [getD_get _ _ hj]
      exact List.set_getElem_self hj
    rw [this, h]; simp
  · have : ¬ wayB t c (l.set j (g, (l.getD j (0, 0)).2)) = true := fun q => e ((guards h2 hj).1 q)
    have h3 := Bool.eq_false_iff.2 this
    rw [fndB, h3, Bool.and_false, decide_eq_false e]
theorem less_no {t : List (List K)} {c : K} {l : List P} (h : fndB t c l = true) : fndB t { c with r := c.r - 1 } l = false := by
  obtain ⟨h1, h2⟩ := fndB_iff.1 h
  cases l with
  | nil => have := okA_pos h1; simp at this
  | cons s r =>
    simp only [wayB, goB, Bool.and_eq_true] at h2
    have := may_less h2.1.2.1
    simp [fndB, wayB, goB, this]
end Go.Proofs.YtilannincbcgkaaDoor.Ad
