/- Pieces of memory: sizes, what is aligned, what is carved, what is within, meets, is apart; no program. -/
import Derived.Laws.BitsAllLaws
import Derived.Laws.Bits128
namespace Go.Proofs.Yteohoipkdjhllaa.Ca

/-- An extent: its start, its size. -/
abbrev X := Int × Int
/-- Whether a number is a size. -/
def pw (n : Int) : Bool := (List.range 21).any (fun k => decide (n = ((2 ^ k : Nat) : Int)))
theorem pw_iff {n : Int} : pw n = true ↔ ∃ k : Nat, k ≤ 20 ∧ n = ((2 ^ k : Nat) : Int) := by
  simp only [pw, List.any_eq_true, List.mem_range, decide_eq_true_eq]
  constructor
  · rintro ⟨k, h, e⟩; exact ⟨k, by omega, e⟩
  · rintro ⟨k, h, e⟩; exact ⟨k, by omega, e⟩
theorem pw_not {n : Int} : pw n = false ↔ ¬ ∃ k : Nat, k ≤ 20 ∧ n = ((2 ^ k : Nat) : Int) := by rw [← pw_iff]; simp
theorem two_le {k : Nat} (h : k ≤ 20) : 2 ^ k ≤ 1048576 := Nat.le_trans (Nat.pow_le_pow_right (by omega) h) (by decide)
theorem two_gt {k : Nat} (h : ¬ k ≤ 20) : 1048576 < 2 ^ k := Nat.lt_of_lt_of_le (by decide) (Nat.pow_le_pow_right (n := 2) (i := 21) (by omega) (by omega))
theorem pw_range {n : Int} (h : pw n = true) : 1 ≤ n ∧ n ≤ 1048576 := by
  obtain ⟨k, hk, rfl⟩ := pw_iff.1 h
  have := Nat.two_pow_pos k
  have := two_le hk
  omega
/-- Of a number that has one bit alone. -/
theorem and_even (m : Nat) (h : 0 < m) : (2 * m) &&& (2 * m - 1) = 2 * (m &&& (m - 1)) := by
  apply Nat.eq_of_testBit_eq
  intro i
  cases i with
  | zero => simp
  | succ i =>
    rw [Nat.testBit_and, Nat.testBit_succ, Nat.testBit_succ, Nat.testBit_succ]
    rw [show 2 * m / 2 = m by omega, show (2 * m - 1) / 2 = m - 1 by omega, show 2 * (m &&& (m - 1)) / 2 = m &&& (m - 1) by omega, Nat.testBit_and]
theorem and_odd (m : Nat) : (2 * m + 1) &&& (2 * m) = 2 * m := by
  apply Nat.eq_of_testBit_eq
  intro i
  cases i with
  | zero => simp
  | succ i =>
    rw [Nat.testBit_and, Nat.testBit_succ, Nat.testBit_succ]
    rw [show (2 * m + 1) / 2 = m by omega, show 2 * m / 2 = m by omega, Bool.and_self]
theorem one_bit (n : Nat) (h : 0 < n) : n &&& (n - 1) = 0 ↔ ∃ k, n = 2 ^ k := by
  induction n using Nat.strongRecOn with
  | _ n ih =>
    by_cases he : n % 2 = 0
    · obtain ⟨m, rfl⟩ : ∃ m, n = 2 * m := ⟨n / 2, by omega⟩
      rw [and_even m (by omega)]
      have := ih m (by omega) (by omega)
      constructor
      · intro h0
        obtain ⟨k, e⟩ := this.1 (by omega)
        exact ⟨k + 1, by rw [Nat.pow_succ]; omega⟩
      · rintro ⟨k, e⟩
        cases k with
        | zero => simp at e; omega
        | succ k =>
          rw [Nat.pow_succ] at e
          rw [this.2 ⟨k, by omega⟩]
    · obtain ⟨m, rfl⟩ : ∃ m, n = 2 * m + 1 := ⟨n / 2, by omega⟩
      rw [show 2 * m + 1 - 1 = 2 * m by omega, and_odd]
      constructor
      · intro h0
        exact ⟨0, by simp; omega⟩
      · rintro ⟨k, e⟩
        cases k with
        | zero => simp at e; omega
        | succ k => rw [Nat.pow_succ] at e; omega
theorem i64_and_nat (a b : Nat) (ha : a < 9223372036854775808) (hb : b < 9223372036854775808) : bits .and .i64 (a : Int) (b : Int) = ((a &&& b : Nat) : Int) := by
  have hx : a &&& b < 2 ^ 63 := Nat.and_lt_two_pow _ (by omega)
  show IntKind.i64.wrap ((BitVec.ofInt 64 (a : Int) &&& BitVec.ofInt 64 (b : Int)).toNat : Int) = _
  rw [BitVec.toNat_and, ofInt_u64 a (by omega), ofInt_u64 b (by omega), IntKind.wrap_i64]
  omega
/-- As the program asks it. -/
theorem pw_bits {n : Int} (h1 : 1 ≤ n) (h2 : n ≤ 1048576) : (bits .and .i64 n (n - 1) == 0) = pw n := by
  obtain ⟨m, rfl⟩ := Int.eq_ofNat_of_zero_le (by omega : 0 ≤ n)
  have e : ((m : Int) - 1) = ((m - 1 : Nat) : Int) := by omega
  rw [e, i64_and_nat _ _ (by omega) (by omega)]
  have := one_bit m (by omega)
  cases hp : pw (m : Int) with
  | true =>
    obtain ⟨k, hk, e⟩ := pw_iff.1 hp
    rw [this.2 ⟨k, by omega⟩]
    rfl
  | false =>
    rw [pw_not] at hp
    have hn : ¬ (m &&& (m - 1)) = 0 := by
      rw [this]
      rintro ⟨k, e⟩
      refine hp ⟨k, ?_, by omega⟩
      apply Classical.byContradiction
      intro hk
      have := two_gt hk
      omega
    simp only [beq_eq_false_iff_ne, ne_eq]
    omega

/-! ### What is aligned -/
/-- Whether a place may be. -/
def atB (a : Int) : Bool := decide (0 ≤ a) && decide (a ≤ 1048576)
theorem at_iff {a : Int} : atB a = true ↔ 0 ≤ a ∧ a ≤ 1048576 := by simp [atB]
theorem at_not {a : Int} : atB a = false ↔ ¬ (0 ≤ a ∧ a ≤ 1048576) := by rw [← at_iff]; simp
def alV (a s : Int) : Int := if atB a && pw s then (a + s - 1) / s * s else 0
theorem al_yes {a s : Int} (h : atB a = true) (k : pw s = true) : alV a s = (a + s - 1) / s * s := by simp [alV, h, k]
theorem al_no {a s : Int} (h : (atB a && pw s) = false) : alV a s = 0 := by simp only [alV, h]; rfl
/-- WHAT IS ALIGNED: a multiple, not ahead, and less than a size behind. -/
theorem al_is {a s : Int} (h : atB a = true) (k : pw s = true) : alV a s % s = 0 ∧ a ≤ alV a s ∧ alV a s < a + s := by
  have := pw_range k
  have h1 := Int.emod_add_mul_ediv (a + s - 1) s
  have h2 := Int.emod_nonneg (a + s - 1) (b := s) (by omega)
  have h3 := Int.emod_lt_of_pos (a + s - 1) (b := s) (by omega)
  rw [al_yes h k]
  refine ⟨Int.mul_emod_left _ _, ?_, ?_⟩
  · rw [Int.mul_comm]; omega
  · rw [Int.mul_comm]; omega
/-- There is just one such. -/
theorem al_one {a s x y : Int} (hs : 0 < s) (h1 : x % s = 0) (h2 : a ≤ x) (h3 : x < a + s) (k1 : y % s = 0) (k2 : a ≤ y) (k3 : y < a + s) : x = y := by
  obtain ⟨p, rfl⟩ := Int.dvd_of_emod_eq_zero h1
  obtain ⟨q, rfl⟩ := Int.dvd_of_emod_eq_zero k1
  have e1 : s * (p - q) = s * p - s * q := Int.mul_sub _ _ _
  have : p = q := by
    rcases Int.lt_trichotomy p q with h | h | h
    · have : s * 1 ≤ s * (q - p) := Int.mul_le_mul_of_nonneg_left (by omega) (by omega)
      rw [Int.mul_sub] at this
      omega
    · exact h
    · have : s * 1 ≤ s * (p - q) := Int.mul_le_mul_of_nonneg_left (by omega) (by omega)
      rw [Int.mul_sub] at this
      omega
  rw [this]
theorem al_unique {a s x : Int} (h : atB a = true) (k : pw s = true) (h1 : x % s = 0) (h2 : a ≤ x) (h3 : x < a + s) : alV a s = x := by
  have := pw_range k
  obtain ⟨a1, a2, a3⟩ := al_is h k
  exact al_one (by omega) a1 a2 a3 h1 h2 h3
/-- As the document asks it. -/
theorem al_mul {a s : Int} (h : atB a = true) (k : pw s = true) (hm : a % s = 0) : alV a s = a := al_unique h k hm (by omega) (by have := pw_range k; omega)
theorem al_off {a s : Int} (h : atB a = true) (k : pw s = true) (hm : a % s ≠ 0) : alV a s = a - a % s + s := by
  have := pw_range k
  have h1 := Int.emod_nonneg a (b := s) (by omega)
  have h2 := Int.emod_lt_of_pos a (b := s) (by omega)
  refine al_unique h k ?_ (by omega) (by omega)
  rw [Int.add_emod_right, Int.sub_emod, Int.emod_emod, Int.sub_self, Int.zero_emod]
theorem al_twice {a s : Int} (k : pw s = true) (hm : a % s = 0) (h : atB a = true) : alV a s = a := al_mul h k hm

/-- What is aligned may be asked again. -/
theorem al_at {a s : Int} (h : atB a = true) (k : pw s = true) : atB (alV a s) = true := by
  have hp := pw_range k
  obtain ⟨a1, a2, a3⟩ := al_is h k
  have ha := at_iff.1 h
  obtain ⟨j, hj, e⟩ := pw_iff.1 k
  have hm : (1048576 : Int) = s * ((2 ^ (20 - j) : Nat) : Int) := by
    rw [e, ← Int.natCast_mul, ← Nat.pow_add, show j + (20 - j) = 20 by omega]
    rfl
  rw [at_iff]
  refine ⟨by omega, ?_⟩
  obtain ⟨p, hp2⟩ := Int.dvd_of_emod_eq_zero a1
  rw [hp2] at a2 a3 ⊢
  generalize ((2 ^ (20 - j) : Nat) : Int) = q at hm
  rcases (show q < p ∨ p ≤ q by omega) with h | h
  · have : s * (q + 1) ≤ s * p := Int.mul_le_mul_of_nonneg_left (by omega) (by omega)
    rw [Int.mul_add] at this
    omega
  · have : s * p ≤ s * q := Int.mul_le_mul_of_nonneg_left (by omega) (by omega)
    omega

/-! ### Kinds -/
def szV (kind n : Int) : Int := if kind = 2 then 64 else if kind = 3 then 16 else if kind = 4 ∨ kind = 5 then 4 else if kind = 1 then (if pw n then n else 0) else 0
def szE (kind n : Int) : Int := if kind = 2 then 0 else if kind = 3 then 0 else if kind = 4 ∨ kind = 5 then 0 else if kind = 1 then (if pw n then 0 else 2) else 2

/-! ### Extents -/
def okX (x : X) : Bool := decide (0 ≤ x.1) && (decide (1 ≤ x.2) && decide (x.1 + x.2 ≤ 1048576))
theorem ok_iff {x : X} : okX x = true ↔ 0 ≤ x.1 ∧ 1 ≤ x.2 ∧ x.1 + x.2 ≤ 1048576 := by simp [okX]
theorem ok_not {x : X} : okX x = false ↔ ¬ (0 ≤ x.1 ∧ 1 ≤ x.2 ∧ x.1 + x.2 ≤ 1048576) := by rw [← ok_iff]; simp
def chk (x : X) : Int := if okX x then 0 else 2
def inB (a b : X) : Bool := okX a && okX b && decide (b.1 ≤ a.1) && decide (a.1 + a.2 ≤ b.1 + b.2)
theorem in_iff {a b : X} : inB a b = true ↔ okX a = true ∧ okX b = true ∧ b.1 ≤ a.1 ∧ a.1 + a.2 ≤ b.1 + b.2 := by simp [inB, and_assoc]
def meB (a b : X) : Bool := okX a && okX b && decide (a.1 < b.1 + b.2) && decide (b.1 < a.1 + a.2)
theorem me_iff {a b : X} : meB a b = true ↔ okX a = true ∧ okX b = true ∧ a.1 < b.1 + b.2 ∧ b.1 < a.1 + a.2 := by simp [meB, and_assoc]
theorem me_comm (a b : X) : meB a b = meB b a := by
  rw [Bool.eq_iff_iff, me_iff, me_iff]
  constructor <;> (rintro ⟨h1, h2, h3, h4⟩; exact ⟨h2, h1, h4, h3⟩)

/-! ### What is carved -/
def argB (x : X) (w s : Int) : Bool := okX x && (pw s && (decide (0 ≤ w) && decide (w ≤ x.2)))
theorem arg_iff {x : X} {w s : Int} : argB x w s = true ↔ okX x = true ∧ pw s = true ∧ 0 ≤ w ∧ w ≤ x.2 := by simp [argB]
def fitB (x : X) (w s : Int) : Bool := decide (alV (x.1 + w) s + s ≤ x.1 + x.2)
def cvE (x : X) (w s : Int) : Int := if argB x w s then (if fitB x w s then 0 else 5) else 2
def cvB (x : X) (w s : Int) : Bool := argB x w s && fitB x w s
theorem cvE_zero {x : X} {w s : Int} : cvE x w s = 0 ↔ cvB x w s = true := by
  unfold cvE cvB
  cases argB x w s <;> cases fitB x w s <;> simp
def cvX (x : X) (w s : Int) : X := if cvB x w s then (alV (x.1 + w) s, s) else (0, 0)
def cvW (x : X) (w s : Int) : Int := if cvB x w s then alV (x.1 + w) s + s - x.1 else w
theorem cv_arg {x : X} {w s : Int} (h : argB x w s = false) : cvE x w s = 2 ∧ cvX x w s = (0, 0) ∧ cvW x w s = w := by simp [cvE, cvX, cvW, cvB, h]
theorem cv_full {x : X} {w s : Int} (h : argB x w s = true) (k : fitB x w s = false) : cvE x w s = 5 ∧ cvX x w s = (0, 0) ∧ cvW x w s = w := by simp [cvE, cvX, cvW, cvB, h, k]
theorem cv_yes {x : X} {w s : Int} (h : argB x w s = true) (k : fitB x w s = true) : cvE x w s = 0 ∧ cvX x w s = (alV (x.1 + w) s, s) ∧ cvW x w s = alV (x.1 + w) s + s - x.1 := by simp [cvE, cvX, cvW, cvB, h, k]
theorem arg_at {x : X} {w s : Int} (h : argB x w s = true) : atB (x.1 + w) = true := by
  obtain ⟨h1, h2, h3, h4⟩ := arg_iff.1 h
  have := ok_iff.1 h1
  rw [at_iff]
  omega
/-- As the program asks it: whether it would end within. -/
theorem fit_in {x : X} {w s : Int} (h : argB x w s = true) : inB (alV (x.1 + w) s, s) x = fitB x w s := by
  obtain ⟨h1, h2, h3, h4⟩ := arg_iff.1 h
  have ho := ok_iff.1 h1
  have hp := pw_range h2
  obtain ⟨a1, a2, a3⟩ := al_is (arg_at h) h2
  rw [Bool.eq_iff_iff, in_iff, ok_iff]
  simp only [fitB, decide_eq_true_eq, h1]
  constructor
  · rintro ⟨-, -, -, h⟩; exact h
  · intro h
    refine ⟨⟨by omega, by omega, by omega⟩, trivial, by omega, h⟩
/-- WHAT WAS CARVED: within, behind the water, at a multiple of its size. -/
theorem cv_is {x : X} {w s : Int} (h : cvB x w s = true) : inB (cvX x w s) x = true ∧ (cvX x w s).2 = s ∧ (cvX x w s).1 % s = 0 ∧ w ≤ (cvX x w s).1 - x.1 ∧ cvW x w s = (cvX x w s).1 - x.1 + s ∧ cvW x w s ≤ x.2 ∧ 0 ≤ w ∧ 1 ≤ s := by
  have hh : argB x w s = true ∧ fitB x w s = true := by simpa [cvB] using h
  obtain ⟨e1, e2, e3⟩ := cv_yes hh.1 hh.2
  obtain ⟨h1, h2, h3, h4⟩ := arg_iff.1 hh.1
  have hp := pw_range h2
  obtain ⟨a1, a2, a3⟩ := al_is (arg_at hh.1) h2
  have hf := hh.2
  simp only [fitB, decide_eq_true_eq] at hf
  rw [e2, e3, fit_in hh.1]
  refine ⟨hh.2, rfl, a1, ?_, ?_, ?_, h3, hp.1⟩
  · simp only; omega
  · simp only; omega
  · omega

/-! ### Many -/
/-- One more: the extents, the water, the error. -/
def stp (x : X) (t : List X × Int × Int) (s : Int) : List X × Int × Int :=
  if t.2.2 = 0 then (if cvB x t.2.1 s then (t.1 ++ [cvX x t.2.1 s], cvW x t.2.1 s, 0) else (t.1, t.2.1, cvE x t.2.1 s)) else t
def run (x : X) (w : Int) (l : List Int) : List X × Int × Int := l.foldl (stp x) ([], w, 0)
def mnE (x : X) (w : Int) (l : List Int) : Int := (run x w l).2.2
def mnL (x : X) (w : Int) (l : List Int) : List X := if mnE x w l = 0 then (run x w l).1 else []
def mnW (x : X) (w : Int) (l : List Int) : Int := if mnE x w l = 0 then (run x w l).2.1 else w
theorem stp_bad {x : X} {t : List X × Int × Int} (h : t.2.2 ≠ 0) (l : List Int) : l.foldl (stp x) t = t := by
  induction l with
  | nil => rfl
  | cons s r ih => rw [List.foldl_cons, show stp x t s = t by simp [stp, h], ih]
theorem run_snoc (x : X) (w : Int) (l : List Int) (s : Int) : run x w (l ++ [s]) = stp x (run x w l) s := by simp [run]
theorem run_app (x : X) (w : Int) (l m : List Int) : run x w (l ++ m) = m.foldl (stp x) (run x w l) := by simp [run]
/-- An error that came first stays. -/
theorem run_err {x : X} {w : Int} {l : List Int} (m : List Int) (h : mnE x w l ≠ 0) : mnE x w (l ++ m) = mnE x w l := by
  unfold mnE at *
  rw [run_app, stp_bad h]
theorem fold_from (x : X) (m : List Int) : ∀ (L : List X) (v : Int), m.foldl (stp x) (L, v, 0) = (L ++ (run x v m).1, (run x v m).2) := by
  suffices h : ∀ (L K : List X) (v e : Int), m.foldl (stp x) (L ++ K, v, e) = (L ++ (m.foldl (stp x) (K, v, e)).1, (m.foldl (stp x) (K, v, e)).2) by
    intro L v
    have := h L [] v 0
    simpa [run] using this
  induction m with
  | nil => intro L K v e; rfl
  | cons s r ih =>
    intro L K v e
    simp only [List.foldl_cons]
    have : stp x (L ++ K, v, e) s = (L ++ (stp x (K, v, e) s).1, (stp x (K, v, e) s).2) := by
      unfold stp
      simp only
      split
      · split
        · simp
        · rfl
      · rfl
    rw [this]
    generalize stp x (K, v, e) s = t
    exact ih L t.1 t.2.1 t.2.2
/-- IN TWO PARTS IT IS AS AT ONCE. -/
theorem run_two {x : X} {w : Int} {l : List Int} (m : List Int) (h : mnE x w l = 0) : run x w (l ++ m) = ((run x w l).1 ++ (run x (run x w l).2.1 m).1, (run x (run x w l).2.1 m).2) := by
  rw [run_app]
  have : run x w l = ((run x w l).1, (run x w l).2.1, 0) := by
    unfold mnE at h
    rw [← h]
  rw [this, fold_from]
theorem mn_yes {x : X} {w : Int} {l : List Int} (h : mnE x w l = 0) : mnL x w l = (run x w l).1 ∧ mnW x w l = (run x w l).2.1 := by simp [mnL, mnW, h]
theorem mn_no {x : X} {w : Int} {l : List Int} (h : mnE x w l ≠ 0) : mnL x w l = [] ∧ mnW x w l = w := by simp [mnL, mnW, h]
theorem mn_two {x : X} {w : Int} {l : List Int} (m : List Int) (h : mnE x w l = 0) : mnE x w (l ++ m) = mnE x (mnW x w l) m := by
  unfold mnE
  rw [run_two m h, (mn_yes h).2]
theorem mn_twoL {x : X} {w : Int} {l : List Int} {m : List Int} (h : mnE x w l = 0) (k : mnE x (mnW x w l) m = 0) : mnL x w (l ++ m) = mnL x w l ++ mnL x (mnW x w l) m ∧ mnW x w (l ++ m) = mnW x (mnW x w l) m := by
  have e := mn_two m h
  rw [k] at e
  rw [(mn_yes e).1, (mn_yes e).2, (mn_yes k).1, (mn_yes k).2, run_two m h, (mn_yes h).1, (mn_yes h).2]
  exact ⟨rfl, rfl⟩

/-! ### Apart -/
def Ap (l : List X) : Prop := (∀ a ∈ l, okX a = true) ∧ l.Pairwise (fun a b => meB a b = false)
def apB : List X → Bool
  | [] => true
  | a :: r => (okX a && r.all (fun b => !meB a b)) && apB r
theorem ap_iff {l : List X} : apB l = true ↔ Ap l := by
  induction l with
  | nil => simp [apB, Ap]
  | cons a r ih =>
    unfold apB
    rw [Bool.and_eq_true, Bool.and_eq_true, ih, List.all_eq_true]
    unfold Ap
    rw [List.pairwise_cons]
    constructor
    · rintro ⟨⟨h1, h2⟩, h3, h4⟩
      refine ⟨fun b hb => ?_, fun b hb => by simpa using h2 b hb, h4⟩
      rcases List.mem_cons.1 hb with rfl | hb
      · exact h1
      · exact h3 b hb
    · rintro ⟨h1, h2, h3⟩
      exact ⟨⟨h1 a (by simp), fun b hb => by simpa using h2 b hb⟩, fun b hb => h1 b (by simp [hb]), h3⟩
theorem ap_not {l : List X} (h : ¬ Ap l) : apB l = false := by
  cases e : apB l with
  | false => rfl
  | true => exact absurd (ap_iff.1 e) h
theorem Ap.perm {l m : List X} (h : l.Perm m) : Ap l ↔ Ap m := by
  unfold Ap
  refine and_congr ?_ (h.pairwise_iff (fun {a b} e => by rw [me_comm]; exact e))
  constructor
  · intro k a ha; exact k a (h.mem_iff.2 ha)
  · intro k a ha; exact k a (h.mem_iff.1 ha)
/-- Pieces one behind the other, from w on up to v, in x. -/
structure Laid (x : X) (w v : Int) (l : List Int) (m : List X) : Prop where
  len : m.length = l.length
  ok : ∀ a ∈ m, inB a x = true
  each : ∀ i, i < m.length → (m.getD i (0, 0)).2 = l.getD i 0 ∧ (m.getD i (0, 0)).1 % (l.getD i 0) = 0 ∧ w ≤ (m.getD i (0, 0)).1 - x.1 ∧ (m.getD i (0, 0)).1 - x.1 ≤ v - l.getD i 0 ∧ 1 ≤ l.getD i 0
  apart : m.Pairwise (fun a b => a.1 + a.2 ≤ b.1)
  last : ∀ a ∈ m, a.1 + a.2 ≤ x.1 + v
  more : m ≠ [] → w < v ∧ v ≤ x.2
theorem laid_run (x : X) (w : Int) (l : List Int) (h : mnE x w l = 0) : Laid x w (mnW x w l) l (mnL x w l) := by
  rw [(mn_yes h).1, (mn_yes h).2]
  unfold mnE at h
  suffices hh : ∀ l : List Int, (run x w l).2.2 = 0 → Laid x w (run x w l).2.1 l (run x w l).1 ∧ w ≤ (run x w l).2.1 from (hh l h).1
  intro l
  suffices hr : ∀ r : List Int, (run x w r.reverse).2.2 = 0 → Laid x w (run x w r.reverse).2.1 r.reverse (run x w r.reverse).1 ∧ w ≤ (run x w r.reverse).2.1 by simpa using hr l.reverse
  intro r
  induction r with
  | nil =>
    intro _
    exact ⟨⟨rfl, fun a ha => by simp [run] at ha, fun i hi => by simp [run] at hi, by simp [run], fun a ha => by simp [run] at ha, fun h => absurd rfl h⟩, Int.le_refl _⟩
  | cons s r ih =>
    rw [List.reverse_cons, run_snoc]
    generalize r.reverse = l at ih ⊢
    rcases e : run x w l with ⟨m, v, er⟩
    rw [e] at ih
    simp only at ih
    unfold stp
    simp only
    split
    · rename_i h0
      obtain ⟨hL, hw⟩ := ih h0
      split
      · rename_i hc
        intro _
        obtain ⟨c1, c2, c3, c4, c5, c6, c7, c8⟩ := cv_is hc
        generalize cvX x v s = y at c1 c2 c3 c4 c5 ⊢
        generalize cvW x v s = u at c5 c6 ⊢
        have hw' : w ≤ v := hw
        have hly : (m ++ [y]).length = (l ++ [s]).length := by simp [hL.len]
        refine ⟨⟨hly, ?_, ?_, ?_, ?_, fun _ => ⟨by show w < u; omega, c6⟩⟩, by show w ≤ u; omega⟩
        · intro a ha
          rcases List.mem_append.1 ha with ha | ha
          · exact hL.ok a ha
          · rw [List.mem_singleton.1 ha]; exact c1
        · intro i hi
          by_cases hi2 : i < m.length
          · obtain ⟨q1, q2, q3, q4, q5⟩ := hL.each i hi2
            have e1 : (m ++ [y]).getD i (0, 0) = m.getD i (0, 0) := by simp [List.getD, List.getElem?_append_left hi2]
            have e2 : (l ++ [s]).getD i 0 = l.getD i 0 := by simp [List.getD, List.getElem?_append_left (show i < l.length by rw [← hL.len]; exact hi2)]
            rw [e1, e2]
            refine ⟨q1, q2, q3, ?_, q5⟩
            have : v ≤ u := by omega
            simp only
            omega
          · have e0 : i = m.length := by simp at hi; omega
            subst e0
            have e1 : (m ++ [y]).getD m.length (0, 0) = y := by simp [List.getD]
            have e2 : (l ++ [s]).getD m.length 0 = s := by simp [List.getD, hL.len]
            rw [e1, e2]
            have hw' : w ≤ v := hw
            refine ⟨c2, c3, by omega, ?_, c8⟩
            simp only
            omega
        · rw [List.pairwise_append]
          refine ⟨hL.apart, by simp, fun a ha b hb => ?_⟩
          rw [List.mem_singleton.1 hb]
          have := hL.last a ha
          omega
        · intro a ha
          rcases List.mem_append.1 ha with ha | ha
          · have := hL.last a ha
            simp only
            omega
          · rw [List.mem_singleton.1 ha]
            simp only
            omega
      · rename_i hc
        intro he
        exact absurd (cvE_zero.1 he) hc
    · rename_i h0
      intro he
      exact absurd he h0
theorem ap_laid {x : X} {w v : Int} {l : List Int} {m : List X} (h : Laid x w v l m) : apB m = true := by
  rw [ap_iff]
  refine ⟨fun a ha => (in_iff.1 (h.ok a ha)).1, List.pairwise_iff_getElem.2 fun i j hi hj hij => ?_⟩
  have hab := List.pairwise_iff_getElem.1 h.apart i j hi hj hij
  revert hab
  generalize m[i] = a
  generalize m[j] = b
  intro hab
  cases hm : meB a b with
  | false => rfl
  | true =>
    have := me_iff.1 hm
    omega
end Go.Proofs.Yteohoipkdjhllaa.Ca
