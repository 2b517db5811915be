/- Numbers in their order, each once. -/
import Derived.Lib.SlicesCompact
namespace Go.Proofs.Ytaihabkacjbfjaa.Gr
open Go.Lib

def ltK (a b : Int) : Bool := decide (a < b)
theorem lt_iff {a b : Int} : ltK a b = true ↔ a < b := by simp [ltK]
theorem lt_not {a b : Int} : ltK a b = false ↔ ¬ a < b := by simp [ltK]
theorem lt_irr (a : Int) : ltK a a = false := by rw [lt_not]; omega
theorem lt_tr {a b c : Int} (h : ltK a b = true) (k : ltK b c = true) : ltK a c = true := by rw [lt_iff] at *; omega
theorem lt_anti {a b : Int} (h : ltK a b = true) : ltK b a = false := by rw [lt_iff] at h; rw [lt_not]; omega
theorem lt_tot {a b : Int} (h : ltK a b = false) (k : ltK b a = false) : a = b := by
  rw [lt_not] at h k
  omega
theorem le_lt {a b c : Int} (h : ltK b a = false) (k : ltK b c = true) : ltK a c = true := by rw [lt_not] at h; rw [lt_iff] at *; omega
theorem lt_ntr {a b c : Int} (h : ltK a b = false) (k : ltK b c = false) : ltK a c = false := by rw [lt_not] at *; omega

/-- Rising: each is less than all behind it. -/
def Rise (l : List Int) : Prop := l.Pairwise (fun a b => ltK a b = true)
/-- A key in its place, once. -/
def ins : List Int → Int → List Int
  | [], k => [k]
  | x :: r, k => if ltK x k then x :: ins r k else if x = k then x :: r else k :: x :: r
theorem mem_ins {l : List Int} {k x : Int} : x ∈ ins l k ↔ x = k ∨ x ∈ l := by
  induction l with
  | nil => simp [ins]
  | cons y r ih =>
    unfold ins
    split
    · simp only [List.mem_cons, ih]
      constructor
      · rintro (h | h | h) <;> simp [h]
      · rintro (h | h | h) <;> simp [h]
    · split
      · rename_i h
        subst h
        simp
      · simp
theorem rise_ins {l : List Int} {k : Int} (h : Rise l) : Rise (ins l k) := by
  induction l with
  | nil => simp [ins, Rise]
  | cons y r ih =>
    unfold Rise at h
    rw [List.pairwise_cons] at h
    unfold ins
    split
    · rename_i hy
      unfold Rise
      rw [List.pairwise_cons]
      refine ⟨fun x hx => ?_, ih h.2⟩
      rcases mem_ins.1 hx with rfl | hx
      · exact hy
      · exact h.1 x hx
    · split
      · exact List.pairwise_cons.2 h
      · rename_i h1 h2
        unfold Rise
        have hk : ltK k y = true := by
          cases hh : ltK k y with
          | true => rfl
          | false => exact absurd (lt_tot (by simpa using h1) hh) h2
        rw [List.pairwise_cons, List.pairwise_cons]
        refine ⟨fun x hx => ?_, h⟩
        rcases List.mem_cons.1 hx with rfl | hx
        · exact hk
        · exact lt_tr hk (h.1 x hx)
theorem len_ins (l : List Int) (k : Int) : (ins l k).length ≤ l.length + 1 := by
  induction l with
  | nil => simp [ins]
  | cons y r ih =>
    unfold ins
    split
    · simpa using ih
    · split <;> simp
theorem ins_at (l : List Int) (k : Int) (i : Nat) (hi : i ≤ l.length) (h1 : ∀ j, j < i → ltK (l.getD j 0) k = true) (h2 : i < l.length → ltK (l.getD i 0) k = false) :
    ins l k = if i < l.length ∧ l.getD i 0 = k then l else l.take i ++ (k :: l.drop i) := by
  induction l generalizing i with
  | nil => simp [ins]
  | cons y r ih =>
    cases i with
    | zero =>
      have := h2 (by simp)
      simp only [List.getD_cons_zero] at this
      unfold ins
      rw [if_neg (by simp [this])]
      by_cases hy : y = k
      · simp [hy]
      · simp [hy]
    | succ i =>
      have h0 := h1 0 (by omega)
      simp only [List.getD_cons_zero] at h0
      unfold ins
      rw [if_pos h0, ih i (by simpa using hi) (fun j hj => by simpa using h1 (j + 1) (by omega)) (fun hj => by simpa using h2 (by simpa using hj))]
      by_cases hy : i < r.length ∧ r.getD i 0 = k
      · rw [if_pos hy, if_pos (by simpa using hy)]
      · rw [if_neg hy, if_neg (by simpa using hy)]
        simp
/-- Keys in their order, each once. -/
def srt (l : List Int) : List Int := l.foldl ins []
theorem fold_mem {l m : List Int} {x : Int} : x ∈ l.foldl ins m ↔ x ∈ m ∨ x ∈ l := by
  induction l generalizing m with
  | nil => simp
  | cons y r ih =>
    rw [List.foldl_cons, ih, mem_ins]
    simp only [List.mem_cons]
    constructor
    · rintro ((h | h) | h) <;> simp [h]
    · rintro (h | h | h) <;> simp [h]
theorem fold_rise {l m : List Int} (h : Rise m) : Rise (l.foldl ins m) := by
  induction l generalizing m with
  | nil => exact h
  | cons y r ih => exact ih (rise_ins h)
theorem fold_len (l m : List Int) : (l.foldl ins m).length ≤ m.length + l.length := by
  induction l generalizing m with
  | nil => simp
  | cons y r ih =>
    have := ih (ins m y)
    have := len_ins m y
    simp only [List.foldl_cons, List.length_cons]
    omega
theorem mem_srt {l : List Int} {x : Int} : x ∈ srt l ↔ x ∈ l := by unfold srt; rw [fold_mem]; simp
theorem rise_nil : Rise [] := List.Pairwise.nil
theorem rise_srt (l : List Int) : Rise (srt l) := fold_rise rise_nil
theorem len_srt (l : List Int) : (srt l).length ≤ l.length := by simpa [srt] using fold_len l []
theorem srt_nil : srt [] = [] := rfl
theorem srt_snoc (l : List Int) (k : Int) : srt (l ++ [k]) = ins (srt l) k := by simp [srt]
/-- ONE RISING LIST HAS THESE KEYS. -/
theorem rise_one {a b : List Int} (ha : Rise a) (hb : Rise b) (h : ∀ x, x ∈ a ↔ x ∈ b) : a = b := by
  induction a generalizing b with
  | nil =>
    cases b with
    | nil => rfl
    | cons y r => exact absurd ((h y).2 (by simp)) (by simp)
  | cons x r ih =>
    cases b with
    | nil => exact absurd ((h x).1 (by simp)) (by simp)
    | cons y s =>
      unfold Rise at ha hb
      rw [List.pairwise_cons] at ha hb
      have hxy : x = y := by
        rcases List.mem_cons.1 ((h x).1 (by simp)) with e | e
        · exact e
        · rcases List.mem_cons.1 ((h y).2 (by simp)) with e' | e'
          · exact e'.symm
          · have h1 := hb.1 x e
            have h2 := ha.1 y e'
            rw [lt_anti h1] at h2
            cases h2
      subst hxy
      congr 1
      refine ih ha.2 hb.2 (fun z => ?_)
      have hz := h z
      simp only [List.mem_cons] at hz
      constructor
      · intro hm
        rcases hz.1 (Or.inr hm) with e | e
        · subst e
          have := ha.1 z hm
          rw [lt_irr] at this
          cases this
        · exact e
      · intro hm
        rcases hz.2 (Or.inr hm) with e | e
        · subst e
          have := hb.1 z hm
          rw [lt_irr] at this
          cases this
        · exact e
theorem srt_of {l m : List Int} (hm : Rise m) (h : ∀ x, x ∈ m ↔ x ∈ l) : m = srt l := rise_one hm (rise_srt l) (fun x => (h x).trans mem_srt.symm)
theorem srt_same {l m : List Int} (h : ∀ x, x ∈ m ↔ x ∈ l) : srt m = srt l := srt_of (rise_srt m) (fun x => mem_srt.trans (h x))
theorem srt_rise {l : List Int} (h : Rise l) : srt l = l := (srt_of h (fun _ => Iff.rfl)).symm

theorem rise_snoc {l : List Int} {k : Int} (h : Rise l) (hk : ∀ x, x ∈ l → ltK x k = true) : Rise (l ++ [k]) := by
  unfold Rise
  rw [List.pairwise_append]
  exact ⟨h, by simp, fun x hx y hy => by simp at hy; subst hy; exact hk x hx⟩
/-! ### Sorted, then each once -/
theorem comp_upto {d : Array Int} (hs : ∀ i j, i < j → j < d.size → ltK d[j]! d[i]! = false) (m : Nat) (hm : m ≤ d.size) :
    Rise (compactUpTo d m) ∧ ∀ x, x ∈ compactUpTo d m → ∀ j, m ≤ j + 1 → j < d.size → ltK d[j]! x = false := by
  induction m with
  | zero => exact ⟨rise_nil, fun x h => by simp [compactUpTo] at h⟩
  | succ m ih =>
    obtain ⟨h1, h2⟩ := ih (by omega)
    rw [compactUpTo_succ]
    by_cases hk : keeps d m = true
    · rw [if_pos hk]
      refine ⟨rise_snoc h1 (fun x hx => ?_), fun x hx j hj hjd => ?_⟩
      · have hm0 : m ≠ 0 := by
          rintro rfl
          simp [compactUpTo] at hx
        have hne : d[m]! ≠ d[m - 1]! := by
          simp only [keeps, decide_eq_true_eq] at hk
          rcases hk with e | e
          · exact absurd e hm0
          · exact e
        have hlt : ltK d[m - 1]! d[m]! = true := by
          cases hh : ltK d[m - 1]! d[m]! with
          | true => rfl
          | false => exact absurd (lt_tot (hs (m - 1) m (by omega) (by omega)) hh) hne
        exact le_lt (h2 x hx (m - 1) (by omega) (by omega)) hlt
      · rcases List.mem_append.1 hx with hx | hx
        · exact h2 x hx j (by omega) hjd
        · simp at hx
          subst hx
          by_cases e : j = m
          · rw [e]
            exact lt_irr _
          · exact hs m j (by omega) hjd
    · rw [if_neg hk, List.append_nil]
      exact ⟨h1, fun x hx j hj hjd => h2 x hx j (by omega) hjd⟩
theorem comp_rise {d : Array Int} (hs : ∀ i j, i < j → j < d.size → ltK d[j]! d[i]! = false) : Rise (compactUpTo d d.size) := (comp_upto hs d.size (Nat.le_refl _)).1
theorem comp_mem {d : Array Int} {x : Int} : x ∈ compactUpTo d d.size ↔ x ∈ d.toList := by
  rw [← range_map_get d]
  unfold compactUpTo
  simp only [List.mem_map, List.mem_filter, List.mem_range]
  constructor
  · rintro ⟨i, ⟨hi, _⟩, rfl⟩
    exact ⟨i, hi, rfl⟩
  · rintro ⟨i, hi, rfl⟩
    induction i with
    | zero => exact ⟨0, ⟨hi, keeps_lt_one d 0 (by omega)⟩, rfl⟩
    | succ i ih =>
      by_cases e : d[i + 1]! = d[i]!
      · rw [e]
        exact ih (by omega)
      · exact ⟨i + 1, ⟨hi, keeps_pos e⟩, rfl⟩
/-- WHAT IS SORTED, THEN EACH ONCE. -/
theorem comp_srt {d : Array Int} {l : List Int} (hs : ∀ i j, i < j → j < d.size → ltK d[j]! d[i]! = false) (hp : d.toList.Perm l) : compactUpTo d d.size = srt l :=
  srt_of (comp_rise hs) (fun _ => comp_mem.trans hp.mem_iff)

/-- slices.Sort, then slices.Compact. -/
theorem comp_merge (l : List Int) : compact (l.mergeSort fun x y => decide (x ≤ y)) = srt l := by
  unfold compact
  have hp := List.mergeSort_perm l (fun x y => decide (x ≤ y))
  have hs := List.pairwise_mergeSort (le := fun x y => decide (x ≤ y)) (fun a b c h1 h2 => by simp at *; omega) (fun a b => by simp; omega) l
  have h := comp_srt (d := (l.mergeSort fun x y => decide (x ≤ y)).toArray) (l := l) ?_ (by simpa using hp)
  · simpa using h
  · intro i j hij hj
    rw [lt_not]
    simp only [List.size_toArray] at hj
    have := List.pairwise_iff_getElem.1 hs i j (by omega) hj hij
    simp only [decide_eq_true_eq] at this
    simp only [List.getElem!_toArray]
    rw [getElem!_pos _ j hj, getElem!_pos _ i (by omega)]
    omega
end Go.Proofs.Ytaihabkacjbfjaa.Gr
