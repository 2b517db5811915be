/- Keys of locks: their order, their cells, and lists of them. -/
import Derived.Lib.SlicesCompact
namespace Go.Proofs.Ythonibklaijejaa.Or
open Go.Lib

abbrev K := Int × Int
/-- Whether a key is less than another. -/
def ltK (a b : K) : Bool := decide (a.1 < b.1) || (decide (a.1 = b.1) && decide (a.2 < b.2))
def okK (k : K) : Bool := decide (0 ≤ k.1) && (decide (k.1 ≤ 1023) && (decide (-1 ≤ k.2) && decide (k.2 ≤ 7)))
/-- What Check says. -/
def chk (k : K) : Int := if okK k then 0 else 2
def cellK (k : K) : Int := if okK k then 9 * k.1 + k.2 + 1 else -1
def keyK (c : Int) : K := if 0 ≤ c ∧ c < 9216 then (c / 9, c % 9 - 1) else (0, 0)
def keyE (c : Int) : Int := if 0 ≤ c ∧ c < 9216 then 0 else 2
theorem lt_iff {a b : K} : ltK a b = true ↔ a.1 < b.1 ∨ (a.1 = b.1 ∧ a.2 < b.2) := by simp [ltK]
theorem lt_not {a b : K} : ltK a b = false ↔ ¬ (a.1 < b.1 ∨ (a.1 = b.1 ∧ a.2 < b.2)) := by rw [← lt_iff]; simp
theorem ok_iff {k : K} : okK k = true ↔ 0 ≤ k.1 ∧ k.1 ≤ 1023 ∧ -1 ≤ k.2 ∧ k.2 ≤ 7 := by simp [okK]
theorem ok_not {k : K} : okK k = false ↔ ¬ (0 ≤ k.1 ∧ k.1 ≤ 1023 ∧ -1 ≤ k.2 ∧ k.2 ≤ 7) := by rw [← ok_iff]; simp
theorem lt_irr (a : K) : ltK a a = false := by rw [lt_not]; omega
theorem lt_tr {a b c : K} (h : ltK a b = true) (k : ltK b c = true) : ltK a c = true := by rw [lt_iff] at *; omega
theorem lt_anti {a b : K} (h : ltK a b = true) : ltK b a = false := by rw [lt_iff] at h; rw [lt_not]; omega
theorem lt_tot {a b : K} (h : ltK a b = false) (k : ltK b a = false) : a = b := by
  rw [lt_not] at h k
  apply Prod.ext <;> omega
theorem lt_ntr {a b c : K} (h : ltK a b = false) (k : ltK b c = false) : ltK a c = false := by rw [lt_not] at *; omega
theorem le_lt {a b c : K} (h : ltK b a = false) (k : ltK b c = true) : ltK a c = true := by rw [lt_not] at h; rw [lt_iff] at *; omega

/-- Rising: each is less than all behind it. -/
def Rise (l : List K) : Prop := l.Pairwise (fun a b => ltK a b = true)
/-- A key in its place, once. -/
def ins : List K → K → List K
  | [], k => [k]
  | x :: r, k => if ltK x k then x :: ins r k else if x = k then x :: r else k :: x :: r
theorem mem_ins {l : List K} {k x : K} : x ∈ ins l k ↔ x = k ∨ x ∈ l := by
  induction l with
  | nil => simp [ins]
  | cons y r ih =>
    unfold ins
    split
    · simp only [List.mem_cons, ih]
      constructor
      · rintro (h | h | h) <;> simp [h]
      · rintro (h | h | h) <;> simp [h]
    · split
      · rename_i h
        subst h
        simp
      · simp
theorem rise_ins {l : List K} {k : K} (h : Rise l) : Rise (ins l k) := by
  induction l with
  | nil => simp [ins, Rise]
  | cons y r ih =>
    unfold Rise at h
    rw [List.pairwise_cons] at h
    unfold ins
    split
    · rename_i hy
      unfold Rise
      rw [List.pairwise_cons]
      refine ⟨fun x hx => ?_, ih h.2⟩
      rcases mem_ins.1 hx with rfl | hx
      · exact hy
      · exact h.1 x hx
    · split
      · exact List.pairwise_cons.2 h
      · rename_i h1 h2
        unfold Rise
        have hk : ltK k y = true := by
          cases hh : ltK k y with
          | true => rfl
          | false => exact absurd (lt_tot (by simpa using h1) hh) h2
        rw [List.pairwise_cons, List.pairwise_cons]
        refine ⟨fun x hx => ?_, h⟩
        rcases List.mem_cons.1 hx with rfl | hx
        · exact hk
        · exact lt_tr hk (h.1 x hx)
theorem len_ins (l : List K) (k : K) : (ins l k).length ≤ l.length + 1 := by
  induction l with
  | nil => simp [ins]
  | cons y r ih =>
    unfold ins
    split
    · simpa using ih
    · split <;> simp
theorem ins_at (l : List K) (k : K) (i : Nat) (hi : i ≤ l.length) (h1 : ∀ j, j < i → ltK (l.getD j (0, 0)) k = true) (h2 : i < l.length → ltK (l.getD i (0, 0)) k = false) :
    ins l k = if i < l.length ∧ l.getD i (0, 0) = k then l else l.take i ++ (k :: l.drop i) := by
  induction l generalizing i with
  | nil => simp [ins]
  | cons y r ih =>
    cases i with
    | zero =>
      have := h2 (by simp)
      simp only [List.getD_cons_zero] at this
      unfold ins
      rw [if_neg (by simp [this])]
      by_cases hy : y = k
      · simp [hy]
      · simp [hy]
    | succ i =>
      have h0 := h1 0 (by omega)
      simp only [List.getD_cons_zero] at h0
      unfold ins
      rw [if_pos h0, ih i (by simpa using hi) (fun j hj => by simpa using h1 (j + 1) (by omega)) (fun hj => by simpa using h2 (by simpa using hj))]
      by_cases hy : i < r.length ∧ r.getD i (0, 0) = k
      · rw [if_pos hy, if_pos (by simpa using hy)]
      · rw [if_neg hy, if_neg (by simpa using hy)]
        simp
/-- Keys in their order, each once. -/
def srt (l : List K) : List K := l.foldl ins []
theorem fold_mem {l m : List K} {x : K} : x ∈ l.foldl ins m ↔ x ∈ m ∨ x ∈ l := by
  induction l generalizing m with
  | nil => simp
  | cons y r ih =>
    rw [List.foldl_cons, ih, mem_ins]
    simp only [List.mem_cons]
    constructor
    · rintro ((h | h) | h) <;> simp [h]
    · rintro (h | h | h) <;> simp [h]
theorem fold_rise {l m : List K} (h : Rise m) : Rise (l.foldl ins m) := by
  induction l generalizing m with
  | nil => exact h
  | cons y r ih => exact ih (rise_ins h)
theorem fold_len (l m : List K) : (l.foldl ins m).length ≤ m.length + l.length := by
  induction l generalizing m with
  | nil => simp
  | cons y r ih =>
    have := ih (ins m y)
    have := len_ins m y
    simp only [List.foldl_cons, List.length_cons]
    omega
theorem mem_srt {l : List K} {x : K} : x ∈ srt l ↔ x ∈ l := by unfold srt; rw [fold_mem]; simp
theorem rise_nil : Rise [] := List.Pairwise.nil
theorem rise_srt (l : List K) : Rise (srt l) := fold_rise rise_nil
theorem len_srt (l : List K) : (srt l).length ≤ l.length := by simpa [srt] using fold_len l []
theorem srt_nil : srt [] = [] := rfl
theorem srt_snoc (l : List K) (k : K) : srt (l ++ [k]) = ins (srt l) k := by simp [srt]
/-- ONE RISING LIST HAS THESE KEYS. -/
theorem rise_one {a b : List K} (ha : Rise a) (hb : Rise b) (h : ∀ x, x ∈ a ↔ x ∈ b) : a = b := by
  induction a generalizing b with
  | nil =>
    cases b with
    | nil => rfl
    | cons y r => exact absurd ((h y).2 (by simp)) (by simp)
  | cons x r ih =>
    cases b with
    | nil => exact absurd ((h x).1 (by simp)) (by simp)
    | cons y s =>
      unfold Rise at ha hb
      rw [List.pairwise_cons] at ha hb
      have hxy : x = y := by
        rcases List.mem_cons.1 ((h x).1 (by simp)) with e | e
        · exact e
        · rcases List.mem_cons.1 ((h y).2 (by simp)) with e' | e'
          · exact e'.symm
          · have h1 := hb.1 x e
            have h2 := ha.1 y e'
            rw [lt_anti h1] at h2
            cases h2
      subst hxy
      congr 1
      refine ih ha.2 hb.2 (fun z => ?_)
      have hz := h z
      simp only [List.mem_cons] at hz
      constructor
      · intro hm
        rcases hz.1 (Or.inr hm) with e | e
        · subst e
          have := ha.1 z hm
          rw [lt_irr] at this
          cases this
        · exact e
      · intro hm
        rcases hz.2 (Or.inr hm) with e | e
        · subst e
          have := hb.1 z hm
          rw [lt_irr] at this
          cases this
        · exact e
theorem srt_of {l m : List K} (hm : Rise m) (h : ∀ x, x ∈ m ↔ x ∈ l) : m = srt l := rise_one hm (rise_srt l) (fun x => (h x).trans mem_srt.symm)
theorem srt_same {l m : List K} (h : ∀ x, x ∈ m ↔ x ∈ l) : srt m = srt l := srt_of (rise_srt m) (fun x => mem_srt.trans (h x))
theorem srt_rise {l : List K} (h : Rise l) : srt l = l := (srt_of h (fun _ => Iff.rfl)).symm

/-- Whether each is less than the one behind it. -/
def Steps (l : List K) (k : Nat) : Prop := ∀ j, 1 ≤ j → j < k → ltK (l.getD (j - 1) (0, 0)) (l.getD j (0, 0)) = true
theorem getD_lt {l : List K} {j : Nat} (h : j < l.length) : l.getD j (0, 0) = l[j] := by simp [List.getD, h]
theorem rise_steps {l : List K} (h : Rise l) : Steps l l.length := by
  intro j h1 h2
  rw [getD_lt (by omega), getD_lt h2]
  exact List.pairwise_iff_getElem.1 h (j - 1) j (by omega) h2 (by omega)
theorem steps_far {l : List K} (h : Steps l l.length) (i d : Nat) (hd : i + d + 1 < l.length) : ltK (l.getD i (0, 0)) (l.getD (i + d + 1) (0, 0)) = true := by
  induction d with
  | zero => exact h (i + 1) (by omega) hd
  | succ d ih => exact lt_tr (ih (by omega)) (h (i + (d + 1) + 1) (by omega) hd)
theorem steps_rise {l : List K} (h : Steps l l.length) : Rise l := by
  refine List.pairwise_iff_getElem.2 (fun i j hi hj hij => ?_)
  have := steps_far h i (j - i - 1) (by omega)
  rwa [show i + (j - i - 1) + 1 = j by omega, getD_lt hi, getD_lt hj] at this
def riseB (l : List K) : Bool := l.length == 0 || (List.range l.length).all (fun j => j == 0 || ltK (l.getD (j - 1) (0, 0)) (l.getD j (0, 0)))
theorem riseB_steps {l : List K} : riseB l = true ↔ Steps l l.length := by
  unfold riseB Steps
  simp only [Bool.or_eq_true, beq_iff_eq, List.all_eq_true, List.mem_range]
  constructor
  · rintro (h | h) j h1 h2
    · omega
    · rcases h j h2 with e | e
      · omega
      · exact e
  · intro h
    refine Or.inr (fun j hj => ?_)
    by_cases e : j = 0
    · exact Or.inl e
    · exact Or.inr (h j (by omega) hj)
theorem riseB_not {l : List K} {j : Nat} (h1 : 1 ≤ j) (h2 : j < l.length) (h : ltK (l.getD (j - 1) (0, 0)) (l.getD j (0, 0)) = false) : riseB l = false := by
  cases hb : riseB l with
  | false => rfl
  | true => rw [riseB_steps.1 hb j h1 h2] at h; cases h
theorem riseB_of {l : List K} (h : Rise l) : riseB l = true := riseB_steps.2 (rise_steps h)

/-- HOW FAR TWO LISTS ARE MERGED: what is out, what is left of each. -/
structure MInv (a0 b0 out a b : List K) : Prop where
  mem : ∀ x, (x ∈ out ∨ x ∈ a ∨ x ∈ b) ↔ (x ∈ a0 ∨ x ∈ b0)
  ro : Rise out
  ra : Rise a
  rb : Rise b
  oa : ∀ x, x ∈ out → ∀ y, y ∈ a → ltK x y = true
  ob : ∀ x, x ∈ out → ∀ y, y ∈ b → ltK x y = true
theorem minv_start {a b : List K} (ha : Rise a) (hb : Rise b) : MInv a b [] a b :=
  ⟨fun x => by simp, rise_nil, ha, hb, fun x h => by simp at h, fun x h => by simp at h⟩
theorem rise_snoc {l : List K} {k : K} (h : Rise l) (hk : ∀ x, x ∈ l → ltK x k = true) : Rise (l ++ [k]) := by
  unfold Rise
  rw [List.pairwise_append]
  exact ⟨h, by simp, fun x hx y hy => by simp at hy; subst hy; exact hk x hx⟩
theorem rise_tail {x : K} {l : List K} (h : Rise (x :: l)) : Rise l := (List.pairwise_cons.1 h).2
theorem rise_head {x y : K} {l : List K} (h : Rise (x :: l)) (hy : y ∈ l) : ltK x y = true := (List.pairwise_cons.1 h).1 y hy
theorem MInv.left {a0 b0 out a b : List K} {x y : K} (h : MInv a0 b0 out (x :: a) (y :: b)) (hxy : ltK x y = true) : MInv a0 b0 (out ++ [x]) a (y :: b) := by
  have hb : ∀ z, z ∈ y :: b → ltK x z = true := by
    intro z hz
    rcases List.mem_cons.1 hz with rfl | hz
    · exact hxy
    · exact lt_tr hxy (rise_head h.rb hz)
  refine ⟨fun z => ?_, rise_snoc h.ro (fun z hz => h.oa z hz x (by simp)), rise_tail h.ra, h.rb, ?_, ?_⟩
  · rw [← h.mem z]
    simp only [List.mem_append, List.mem_cons, List.not_mem_nil, or_false]
    constructor
    · rintro ((e | e) | e | e | e) <;> simp [e]
    · rintro (e | (e | e) | e | e) <;> simp [e]
  · intro z hz u hu
    rcases List.mem_append.1 hz with hz | hz
    · exact h.oa z hz u (by simp [hu])
    · simp at hz
      subst hz
      exact rise_head h.ra hu
  · intro z hz u hu
    rcases List.mem_append.1 hz with hz | hz
    · exact h.ob z hz u hu
    · simp at hz
      subst hz
      exact hb u hu
theorem MInv.swap {a0 b0 out a b : List K} (h : MInv a0 b0 out a b) : MInv b0 a0 out b a :=
  ⟨fun x => by
    have := h.mem x
    constructor
    · intro e
      exact (this.1 (by rcases e with e | e | e <;> simp [e])).symm
    · intro e
      rcases this.2 e.symm with e | e | e <;> simp [e], h.ro, h.rb, h.ra, h.ob, h.oa⟩
theorem MInv.right {a0 b0 out a b : List K} {x y : K} (h : MInv a0 b0 out (x :: a) (y :: b)) (hxy : ltK y x = true) : MInv a0 b0 (out ++ [y]) (x :: a) b := (h.swap.left hxy).swap
theorem MInv.both {a0 b0 out a b : List K} {x : K} (h : MInv a0 b0 out (x :: a) (x :: b)) : MInv a0 b0 (out ++ [x]) a b := by
  refine ⟨fun z => ?_, rise_snoc h.ro (fun z hz => h.oa z hz x (by simp)), rise_tail h.ra, rise_tail h.rb, ?_, ?_⟩
  · rw [← h.mem z]
    simp only [List.mem_append, List.mem_cons, List.not_mem_nil, or_false]
    constructor
    · rintro ((e | e) | e | e) <;> simp [e]
    · rintro (e | (e | e) | e | e) <;> simp [e]
  · intro z hz u hu
    rcases List.mem_append.1 hz with hz | hz
    · exact h.oa z hz u (by simp [hu])
    · simp at hz
      subst hz
      exact rise_head h.ra hu
  · intro z hz u hu
    rcases List.mem_append.1 hz with hz | hz
    · exact h.ob z hz u (by simp [hu])
    · simp at hz
      subst hz
      exact rise_head h.rb hu
theorem MInv.done {a0 b0 out a b : List K} (h : MInv a0 b0 out a b) (he : a = [] ∨ b = []) : out ++ a ++ b = srt (a0 ++ b0) := by
  refine srt_of ?_ (fun x => ?_)
  · rcases he with rfl | rfl
    · rw [List.append_nil]
      exact List.pairwise_append.2 ⟨h.ro, h.rb, fun x hx y hy => h.ob x hx y hy⟩
    · rw [List.append_nil]
      exact List.pairwise_append.2 ⟨h.ro, h.ra, fun x hx y hy => h.oa x hx y hy⟩
  · rw [List.mem_append, List.mem_append, List.mem_append, ← h.mem x]
    constructor
    · rintro ((e | e) | e) <;> simp [e]
    · rintro (e | e | e) <;> simp [e]

/-! ### Sorted, then each once -/
theorem comp_upto {d : Array K} (hs : ∀ i j, i < j → j < d.size → ltK d[j]! d[i]! = false) (m : Nat) (hm : m ≤ d.size) :
    Rise (compactUpTo d m) ∧ ∀ x, x ∈ compactUpTo d m → ∀ j, m ≤ j + 1 → j < d.size → ltK d[j]! x = false := by
  induction m with
  | zero => exact ⟨rise_nil, fun x h => by simp [compactUpTo] at h⟩
  | succ m ih =>
    obtain ⟨h1, h2⟩ := ih (by omega)
    rw [compactUpTo_succ]
    by_cases hk : keeps d m = true
    · rw [if_pos hk]
      refine ⟨rise_snoc h1 (fun x hx => ?_), fun x hx j hj hjd => ?_⟩
      · have hm0 : m ≠ 0 := by
          rintro rfl
          simp [compactUpTo] at hx
        have hne : d[m]! ≠ d[m - 1]! := by
          simp only [keeps, decide_eq_true_eq] at hk
          rcases hk with e | e
          · exact absurd e hm0
          · exact e
        have hlt : ltK d[m - 1]! d[m]! = true := by
          cases hh : ltK d[m - 1]! d[m]! with
          | true => rfl
          | false => exact absurd (lt_tot (hs (m - 1) m (by omega) (by omega)) hh) hne
        exact le_lt (h2 x hx (m - 1) (by omega) (by omega)) hlt
      · rcases List.mem_append.1 hx with hx | hx
        · exact h2 x hx j (by omega) hjd
        · simp at hx
          subst hx
          by_cases e : j = m
          · rw [e]
            exact lt_irr _
          · exact hs m j (by omega) hjd
    · rw [if_neg hk, List.append_nil]
      exact ⟨h1, fun x hx j hj hjd => h2 x hx j (by omega) hjd⟩
theorem comp_rise {d : Array K} (hs : ∀ i j, i < j → j < d.size → ltK d[j]! d[i]! = false) : Rise (compactUpTo d d.size) := (comp_upto hs d.size (Nat.le_refl _)).1
theorem comp_mem {d : Array K} {x : K} : x ∈ compactUpTo d d.size ↔ x ∈ d.toList := by
  rw [← range_map_get d]
  unfold compactUpTo
  simp only [List.mem_map, List.mem_filter, List.mem_range]
  constructor
  · rintro ⟨i, ⟨hi, _⟩, rfl⟩
    exact ⟨i, hi, rfl⟩
  · rintro ⟨i, hi, rfl⟩
    induction i with
    | zero => exact ⟨0, ⟨hi, keeps_lt_one d 0 (by omega)⟩, rfl⟩
    | succ i ih =>
      by_cases e : d[i + 1]! = d[i]!
      · rw [e]
        exact ih (by omega)
      · exact ⟨i + 1, ⟨hi, keeps_pos e⟩, rfl⟩
/-- WHAT IS SORTED, THEN EACH ONCE. -/
theorem comp_srt {d : Array K} {l : List K} (hs : ∀ i j, i < j → j < d.size → ltK d[j]! d[i]! = false) (hp : d.toList.Perm l) : compactUpTo d d.size = srt l :=
  srt_of (comp_rise hs) (fun _ => comp_mem.trans hp.mem_iff)

/-! ### Cells -/
theorem cell_ok {k : K} (h : okK k = true) : cellK k = 9 * k.1 + k.2 + 1 := by simp [cellK, h]
theorem cell_no {k : K} (h : okK k = false) : cellK k = -1 := by simp [cellK, h]
theorem cell_range {k : K} (h : okK k = true) : 0 ≤ cellK k ∧ cellK k < 9216 := by rw [cell_ok h]; rw [ok_iff] at h; omega
theorem key_cell {k : K} (h : okK k = true) : keyK (cellK k) = k := by
  have hr := cell_range h
  unfold keyK
  rw [if_pos hr, cell_ok h]
  rw [ok_iff] at h
  apply Prod.ext <;> simp only <;> omega
theorem keyE_cell {k : K} (h : okK k = true) : keyE (cellK k) = 0 := by unfold keyE; rw [if_pos (cell_range h)]
theorem key_ok {c : Int} (h : 0 ≤ c ∧ c < 9216) : okK (keyK c) = true := by
  unfold keyK
  rw [if_pos h, ok_iff]
  simp only
  omega
theorem cell_key {c : Int} (h : 0 ≤ c ∧ c < 9216) : cellK (keyK c) = c := by
  rw [cell_ok (key_ok h)]
  unfold keyK
  rw [if_pos h]
  simp only
  omega
end Go.Proofs.Ythonibklaijejaa.Or
