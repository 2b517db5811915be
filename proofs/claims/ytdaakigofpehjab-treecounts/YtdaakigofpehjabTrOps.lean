/- What is done to a tree: the document's answers; what is inserted is removed again (P13.3, P13.5). Without any program. -/
import Derived.Test.YtdaakigofpehjabTrDesc
namespace Go.Proofs.Ytdaakigofpehjab.Tr

/-! ### Whether a list is a tree -/
theorem dp_iff {p : Int} {t : List Br} : dp p t ↔ ∀ i, i < t.length → 0 ≤ D t i ∧ D t i ≤ (if i = 0 then p else D t (i - 1)) + 1 := by
  induction t generalizing p with
  | nil => simp [dp]
  | cons b r ih =>
    simp only [dp, ih]
    constructor
    · rintro ⟨h1, h2, h3⟩ i hi
      cases i with
      | zero => exact ⟨h1, by simpa [D] using h2⟩
      | succ i =>
        have := h3 i (by simpa using hi)
        refine ⟨this.1, ?_⟩
        cases i with
        | zero => simpa [D] using this.2
        | succ i => simpa [D] using this.2
    · intro h
      have h0 := h 0 (by simp)
      refine ⟨h0.1, by simpa [D] using h0.2, fun i hi => ?_⟩
      have := h (i + 1) (by simpa using hi)
      refine ⟨this.1, ?_⟩
      cases i with
      | zero => simpa [D] using this.2
      | succ i => simpa [D] using this.2
/-- A branch that may be where it is. -/
structure Gd (t : List Br) (i : Nat) : Prop where
  at' : fd (Ky t i) t = some i
  key : okK (Ky t i) = true
  pos : 0 ≤ D t i
  dep : D t i ≤ (if i = 0 then -1 else D t (i - 1)) + 1
theorem tree_gd {t : List Br} : Tree t ↔ (t.length ≤ 512 ∧ ∀ i, i < t.length → Gd t i) := by
  constructor
  · intro h
    refine ⟨h.len, fun i hi => ⟨fd_one h hi, h.key _ ?_, (dp_iff.1 h.dep i hi).1, (dp_iff.1 h.dep i hi).2⟩⟩
    simp [List.getD, hi]
  · rintro ⟨h1, h2⟩
    refine ⟨h1, fun b hb => ?_, ?_, dp_iff.2 fun i hi => ⟨(h2 i hi).pos, (h2 i hi).dep⟩⟩
    · obtain ⟨i, hi, rfl⟩ := List.getElem_of_mem hb
      have := (h2 i hi).key
      simpa [Ky, List.getD, hi] using this
    · rw [List.nodup_iff_pairwise_ne, List.pairwise_iff_getElem]
      intro i j hi hj hij e
      simp only [List.length_map] at hi hj
      have a := (h2 j hj).at'
      refine (fd_some.1 a).2.2 i hij ?_
      simp only [List.getElem_map] at e
      simpa [Ky, List.getD, hi, hj] using e
def dpB : Int → List Br → Bool
  | _, [] => true
  | p, b :: r => decide (0 ≤ b.2.1) && (decide (b.2.1 ≤ p + 1) && dpB b.2.1 r)
theorem dpB_iff {p : Int} {t : List Br} : dpB p t = true ↔ dp p t := by
  induction t generalizing p with
  | nil => simp [dpB, dp]
  | cons b r ih => simp [dpB, dp, ih]
/-- Whether a list is a tree. -/
def isB (t : List Br) : Bool := decide (t.length ≤ 512 ∧ (∀ b ∈ t, okK b.1 = true) ∧ (t.map (·.1)).Nodup ∧ dpB (-1) t = true)
theorem isB_iff {t : List Br} : isB t = true ↔ Tree t := by
  simp only [isB, decide_eq_true_eq, dpB_iff]
  exact ⟨fun ⟨a, b, c, d⟩ => ⟨a, b, c, d⟩, fun h => ⟨h.len, h.key, h.uni, h.dep⟩⟩
theorem isB_not {t : List Br} : isB t = false ↔ ¬ Tree t := by
  rw [← isB_iff]
  simp

/-! ### One more, one less -/
/-- With b at the place n. -/
def ins (t : List Br) (n : Nat) (b : Br) : List Br := t.take n ++ b :: t.drop n
/-- Without the one at the place n. -/
def del (t : List Br) (n : Nat) : List Br := t.take n ++ t.drop (n + 1)
theorem ins_len {t : List Br} {n : Nat} {b : Br} : (ins t n b).length = t.length + 1 := by simp [ins]; omega
theorem ins_get {t : List Br} {n : Nat} {b : Br} (hn : n ≤ t.length) (j : Nat) : (ins t n b).getD j zB = if j < n then t.getD j zB else if j = n then b else t.getD (j - 1) zB := by
  have hl : (t.take n).length = n := by simp; omega
  simp only [ins, List.getD]
  by_cases h1 : j < n
  · rw [if_pos h1, List.getElem?_append_left (by omega), List.getElem?_take_of_lt h1]
  · rw [if_neg h1, List.getElem?_append_right (by omega), hl]
    by_cases h2 : j = n
    · subst h2; simp
    · rw [if_neg h2, show j - n = (j - n - 1) + 1 by omega, List.getElem?_cons_succ, List.getElem?_drop, show n + (j - n - 1) = j - 1 by omega]
theorem del_ins {t : List Br} {n : Nat} {b : Br} (hn : n ≤ t.length) : del (ins t n b) n = t := by
  have hl : (t.take n).length = n := by simp; omega
  have e1 : (ins t n b).take n = t.take n := by
    unfold ins
    rw [List.take_append_of_le_length (by omega), List.take_of_length_le (by omega)]
  have e2 : (ins t n b).drop (n + 1) = t.drop n := by
    unfold ins
    rw [List.drop_append, hl, show n + 1 - n = 1 by omega]
    simp
    omega
  unfold del
  rw [e1, e2, List.take_append_drop]

/-! ### The document's answers -/
def hasK (t : List Br) (k : P) : Bool := (fd k t).isSome
def plc (t : List Br) (k : P) : Nat := (fd k t).getD 0
def roE (t : List Br) (k : P) : Int := if !isB t || !okK k then 2 else if hasK t k then 8 else if 512 ≤ t.length then 6 else 0
def roA (t : List Br) (k : P) : List Br := if roE t k = 0 then t ++ [(k, 0, false)] else t
def inE (t : List Br) (from' k : P) : Int := if !isB t || !okK from' || !okK k then 2 else if !hasK t from' then 7 else if hasK t k then 8 else if 512 ≤ t.length then 6 else 0
def inA (t : List Br) (from' k : P) : List Br := if inE t from' k = 0 then ins t (plc t from' + 1) (k, D t (plc t from') + 1, false) else t
def reE (t : List Br) (k : P) : Int := if !isB t || !okK k then 2 else if !hasK t k then 7 else if 0 < ct t (plc t k) then 130 else 0
def reA (t : List Br) (k : P) : List Br := if reE t k = 0 then del t (plc t k) else t
def moE (t : List Br) (from' to : P) : Int := if !isB t || !okK from' || !okK to then 2 else if !hasK t from' then 7 else if hasK t to then 8 else 0
def moA (t : List Br) (from' to : P) : List Br := if moE t from' to = 0 then t.set (plc t from') (to, (t.getD (plc t from') zB).2) else t
def maE (t : List Br) (k : P) : Int := if !isB t || !okK k then 2 else if !hasK t k then 7 else 0
def maA (t : List Br) (k : P) (on : Bool) : List Br := if maE t k = 0 then t.set (plc t k) (k, D t (plc t k), on) else t

/-- All that holds where an insertion goes. -/
structure InOk (t : List Br) (from' k : P) (i : Nat) : Prop where
  tree : Tree t
  kf : okK from' = true
  kk : okK k = true
  at' : fd from' t = some i
  non : fd k t = none
  len : t.length < 512
theorem in_ok {t : List Br} {from' k : P} (h : inE t from' k = 0) : ∃ i, InOk t from' k i ∧ inA t from' k = ins t (i + 1) (k, D t i + 1, false) := by
  have h' := h
  unfold inE at h
  split at h
  · cases h
  · rename_i q1
    split at h
    · cases h
    · rename_i q2
      split at h
      · cases h
      · rename_i q3
        split at h
        · cases h
        · rename_i q4
          simp only [Bool.or_eq_true, Bool.not_eq_true', not_or, Bool.not_eq_false] at q1
          simp only [Bool.not_eq_true', Bool.not_eq_false, hasK] at q2
          obtain ⟨i, hi⟩ := Option.isSome_iff_exists.1 q2
          simp only [hasK, Bool.not_eq_true, Option.isSome_eq_false_iff, Option.isNone_iff_eq_none] at q3
          refine ⟨i, ⟨isB_iff.1 q1.1.1, q1.1.2, q1.2, hi, q3, by omega⟩, ?_⟩
          unfold inA
          rw [if_pos h']
          simp [plc, hi]
theorem ins_cut {t : List Br} {k : P} {i : Nat} {b : Br} (h : fd k t = some i) : ins t (i + 1) b = t.take i ++ (k, D t i, (t.getD i zB).2.2) :: b :: t.drop (i + 1) := by
  have hi := (fd_some.1 h).1
  have e := cut_at h
  have hl : (t.take i).length = i := by simp; omega
  have e1 : t.take (i + 1) = t.take i ++ [(k, D t i, (t.getD i zB).2.2)] := by
    rw [List.take_succ_eq_append_getElem hi]
    congr 2
    have : t.getD i zB = t[i] := by simp [List.getD, hi]
    rw [← this]
    exact Prod.ext (fd_some.1 h).2.1 rfl
  unfold ins
  rw [e1]
  simp
theorem in_tree {t : List Br} {from' k : P} {i : Nat} (h : InOk t from' k i) : Tree (ins t (i + 1) (k, D t i + 1, false)) := by
  rw [ins_cut h.at']
  have hc := cut_at h.at'
  exact tree_insert (b := (from', D t i, (t.getD i zB).2.2)) (hc ▸ h.tree) h.kk (hc ▸ h.non) (by have := h.len; rw [hc] at this; exact this)
/-- Where the others are, behind an insertion. -/
theorem in_fd {t : List Br} {from' k o : P} {i j : Nat} (h : InOk t from' k i) (ho : fd o t = some j) : fd o (ins t (i + 1) (k, D t i + 1, false)) = some (if j < i + 1 then j else j + 1) := by
  have hi := (fd_some.1 h.at').1
  obtain ⟨h1, h2, h3⟩ := fd_some.1 ho
  have hne : o ≠ k := by
    rintro rfl
    rw [h.non] at ho; cases ho
  refine fd_some.2 ⟨by rw [ins_len]; split <;> omega, ?_, fun m hm => ?_⟩
  · unfold Ky
    rw [ins_get (by omega)]
    by_cases q : j < i + 1
    · simp only [if_pos q]; exact h2
    · simp only [if_neg q]
      rw [if_neg (by omega), if_neg (by omega), Nat.add_sub_cancel]; exact h2
  · unfold Ky
    rw [ins_get (by omega)]
    split at hm
    · rw [if_pos (by omega)]; exact h3 m hm
    · by_cases q1 : m < i + 1
      · rw [if_pos q1]; exact h3 m (by omega)
      · rw [if_neg q1]
        by_cases q2 : m = i + 1
        · rw [if_pos q2]; exact fun e => hne e.symm
        · rw [if_neg q2]; exact h3 (m - 1) (by omega)
theorem in_new {t : List Br} {from' k : P} {i : Nat} (h : InOk t from' k i) : fd k (ins t (i + 1) (k, D t i + 1, false)) = some (i + 1) := by
  have hi := (fd_some.1 h.at').1
  refine fd_some.2 ⟨by rw [ins_len]; omega, ?_, fun m hm => ?_⟩
  · unfold Ky
    rw [ins_get (by omega), if_neg (by omega), if_pos rfl]
  · unfold Ky
    rw [ins_get (by omega), if_pos hm]
    exact fd_none.1 h.non m (by omega)
theorem in_D {t : List Br} {from' k : P} {i : Nat} (h : InOk t from' k i) (j : Nat) : D (ins t (i + 1) (k, D t i + 1, false)) j = if j < i + 1 then D t j else if j = i + 1 then D t i + 1 else D t (j - 1) := by
  have hi := (fd_some.1 h.at').1
  unfold D
  rw [ins_get (by omega)]
  split
  · rfl
  · split <;> rfl
theorem in_ct {t : List Br} {from' k : P} {i : Nat} (h : InOk t from' k i) : ct (ins t (i + 1) (k, D t i + 1, false)) (i + 1) = 0 := by
  have hi := (fd_some.1 h.at').1
  rcases Nat.eq_zero_or_pos (ct (ins t (i + 1) (k, D t i + 1, false)) (i + 1)) with e | e
  · exact e
  · have hd : Ds (ins t (i + 1) (k, D t i + 1, false)) (i + 1) (i + 2) := ds_ct.2 ⟨by omega, by omega⟩
    have h1 := hd.2.2 (i + 2) (by omega) (by omega)
    have h2 := hd.2.1
    rw [ins_len] at h2
    rw [in_D h, in_D h, if_neg (by omega), if_pos rfl, if_neg (by omega), if_neg (by omega), show i + 2 - 1 = i + 1 by omega] at h1
    have h3 := (dp_iff.1 h.tree.dep (i + 1) (by omega)).2
    rw [if_neg (by omega), Nat.add_sub_cancel] at h3
    omega
/-- REMOVED AGAIN, THE TREE IS AS IT WAS. -/
theorem in_back {t : List Br} {from' k : P} {i : Nat} (h : InOk t from' k i) : reE (ins t (i + 1) (k, D t i + 1, false)) k = 0 ∧ reA (ins t (i + 1) (k, D t i + 1, false)) k = t := by
  have hi := (fd_some.1 h.at').1
  have e : reE (ins t (i + 1) (k, D t i + 1, false)) k = 0 := by
    unfold reE
    rw [isB_iff.2 (in_tree h), h.kk]
    simp [hasK, plc, in_new h, in_ct h]
  refine ⟨e, ?_⟩
  unfold reA
  rw [if_pos e]
  simp only [plc, in_new h, Option.getD_some]
  exact del_ins (by omega)
theorem in_par {t : List Br} {from' k : P} {i : Nat} (h : InOk t from' k i) : prB (ins t (i + 1) (k, D t i + 1, false)) k = true ∧ prK (ins t (i + 1) (k, D t i + 1, false)) k = from' := by
  have hi := fd_some.1 h.at'
  have e : pr (ins t (i + 1) (k, D t i + 1, false)) k = some i := by
    unfold pr
    rw [in_new h, Option.bind_some]
    refine pl_some.2 ⟨by omega, ?_, fun m h1 h2 => by omega⟩
    rw [in_D h, in_D h, if_pos (by omega), if_neg (by omega), if_pos rfl]
    omega
  refine ⟨by simp [prB, e], ?_⟩
  simp only [prK, e]
  unfold Ky
  rw [ins_get (by have := hi.1; omega), if_pos (by omega)]
  exact hi.2.1
/-- WHAT IS INSERTED IS BELOW ITS PARENT, AND ALL ABOVE THAT; NOBODY IS BELOW IT. -/
theorem in_des {t : List Br} {from' k o : P} {i : Nat} (h : InOk t from' k i) (ho : hasK t o = true) : dsB (ins t (i + 1) (k, D t i + 1, false)) k o = (decide (o = from') || dsB t from' o) ∧ dsB (ins t (i + 1) (k, D t i + 1, false)) o k = false := by
  obtain ⟨j, hj⟩ := Option.isSome_iff_exists.1 ho
  have hi := fd_some.1 h.at'
  have hu := in_tree h
  constructor
  · rw [Bool.eq_iff_iff, Bool.or_eq_true, decide_eq_true_iff, des_iff hu, des_iff h.tree]
    constructor
    · rintro ⟨a, b, e1, e2, e3⟩
      rw [in_fd h hj] at e1
      rw [in_new h] at e2
      cases e1; cases e2
      have hlt := e3.1
      have hja : j < i + 1 := by
        rcases Nat.lt_or_ge j (i + 1) with q | q
        · exact q
        · rw [if_neg (by omega)] at hlt; omega
      rw [if_pos hja] at e3
      rcases Nat.lt_or_ge j i with q | q
      · refine .inr ⟨j, i, hj, h.at', q, hi.1, fun m h1 h2 => ?_⟩
        have := e3.2.2 m h1 (by omega)
        rwa [in_D h, in_D h, if_pos (by omega), if_pos (by omega)] at this
      · obtain rfl : j = i := by omega
        exact .inl ((fd_some.1 hj).2.1.symm.trans hi.2.1)
    · intro hh
      have key : j < i + 1 ∧ (j = i ∨ Ds t j i) := by
        rcases hh with rfl | ⟨a, b, e1, e2, e3⟩
        · rw [h.at'] at hj; cases hj; exact ⟨by omega, .inl rfl⟩
        · rw [hj] at e1; rw [h.at'] at e2
          cases e1; cases e2
          exact ⟨by have := e3.1; omega, .inr e3⟩
      refine ⟨j, i + 1, by rw [in_fd h hj, if_pos key.1], in_new h, by omega, by rw [ins_len]; have := hi.1; omega, fun m h1 h2 => ?_⟩
      rw [in_D h, in_D h, if_pos key.1]
      rcases key.2 with rfl | hd
      · obtain rfl : m = j + 1 := by omega
        rw [if_neg (by omega), if_pos rfl]; omega
      · by_cases q : m < i + 1
        · rw [if_pos q]; exact hd.2.2 m h1 (by omega)
        · obtain rfl : m = i + 1 := by omega
          rw [if_neg q, if_pos rfl]
          have := hd.2.2 i hd.1 (Nat.le_refl _)
          omega
  · cases q : dsB (ins t (i + 1) (k, D t i + 1, false)) o k with
    | false => rfl
    | true =>
      obtain ⟨a, b, e1, e2, e3⟩ := (des_iff hu).1 q
      rw [in_new h] at e1
      cases e1
      have := (ds_ct.1 e3).2
      rw [in_ct h] at this
      omega
end Go.Proofs.Ytdaakigofpehjab.Tr
