/- What follows a tree is one; what is moved or marked keeps who descends from whom (P13.3, P13.5). Without any program. -/
import Derived.Test.YtdaakigofpehjabTrOps
namespace Go.Proofs.Ytdaakigofpehjab.Tr

theorem set_cut {t : List Br} {i : Nat} {b : Br} (hi : i < t.length) : t.set i b = t.take i ++ b :: t.drop (i + 1) := by
  rw [List.set_eq_take_append_cons_drop, if_pos hi]
theorem plc_of {t : List Br} {k : P} {i : Nat} (h : fd k t = some i) : plc t k = i := by simp [plc, h]
theorem has_of {t : List Br} {k : P} {i : Nat} (h : fd k t = some i) : hasK t k = true := by simp [hasK, h]
theorem has_fd {t : List Br} {k : P} (h : hasK t k = true) : ∃ i, fd k t = some i := Option.isSome_iff_exists.1 h
theorem has_no {t : List Br} {k : P} (h : hasK t k = false) : fd k t = none := by simpa [hasK] using h
theorem ro_tree {t : List Br} {k : P} (h : Tree t) : Tree (roA t k) := by
  unfold roA
  split
  · rename_i e
    unfold roE at e
    split at e
    · cases e
    · rename_i q1
      split at e
      · cases e
      · rename_i q2
        split at e
        · cases e
        · rename_i q3
          simp only [Bool.or_eq_true, Bool.not_eq_true', not_or, Bool.not_eq_false] at q1
          exact tree_root h q1.2 (has_no (by simpa using q2)) (by omega)
  · exact h
theorem in_keep {t : List Br} {a k : P} (h : Tree t) : Tree (inA t a k) := by
  by_cases e : inE t a k = 0
  · obtain ⟨i, h1, h2⟩ := in_ok e
    rw [h2]
    exact in_tree h1
  · unfold inA
    rw [if_neg e]
    exact h
/-- All that holds where a removal goes. -/
theorem re_ok {t : List Br} {k : P} (h : reE t k = 0) : ∃ i, Tree t ∧ okK k = true ∧ fd k t = some i ∧ ct t i = 0 ∧ reA t k = del t i := by
  have h' := h
  unfold reE at h
  split at h
  · cases h
  · rename_i q1
    split at h
    · cases h
    · rename_i q2
      split at h
      · cases h
      · rename_i q3
        simp only [Bool.or_eq_true, Bool.not_eq_true', not_or, Bool.not_eq_false] at q1
        obtain ⟨i, hi⟩ := has_fd (by simpa using q2)
        rw [plc_of hi] at q3
        refine ⟨i, isB_iff.1 q1.1, q1.2, hi, by omega, ?_⟩
        unfold reA
        rw [if_pos h', plc_of hi]
theorem re_tree {t : List Br} {k : P} (h : Tree t) : Tree (reA t k) := by
  by_cases e : reE t k = 0
  · obtain ⟨i, _, _, hi, hc, he⟩ := re_ok e
    rw [he]
    have hcut := cut_at hi
    refine tree_remove (b := (k, D t i, (t.getD i zB).2.2)) (hcut ▸ h) (fun c hh => ?_)
    rcases Int.lt_or_le (D t i) c.2.1 with q | q
    · exfalso
      have : 0 < ct t i := by
        unfold ct
        cases hd : t.drop (i + 1) with
        | nil => rw [hd] at hh; cases hh
        | cons x r =>
          rw [hd] at hh
          cases hh
          simp [cn, q]
      omega
    · exact q
  · unfold reA
    rw [if_neg e]
    exact h
theorem mo_ok {t : List Br} {a b : P} (h : moE t a b = 0) : ∃ i, Tree t ∧ okK b = true ∧ fd a t = some i ∧ fd b t = none ∧ moA t a b = t.set i (b, (t.getD i zB).2) := by
  have h' := h
  unfold moE at h
  split at h
  · cases h
  · rename_i q1
    split at h
    · cases h
    · rename_i q2
      split at h
      · cases h
      · rename_i q3
        simp only [Bool.or_eq_true, Bool.not_eq_true', not_or, Bool.not_eq_false] at q1
        obtain ⟨i, hi⟩ := has_fd (by simpa using q2)
        refine ⟨i, isB_iff.1 q1.1.1, q1.2, hi, has_no (by simpa using q3), ?_⟩
        unfold moA
        rw [if_pos h', plc_of hi]
theorem mo_tree {t : List Br} {a b : P} (h : Tree t) : Tree (moA t a b) := by
  by_cases e : moE t a b = 0
  · obtain ⟨i, _, hb, hi, hn, he⟩ := mo_ok e
    rw [he, set_cut (fd_some.1 hi).1]
    have hcut := cut_at hi
    exact tree_set (b := (a, D t i, (t.getD i zB).2.2)) (hcut ▸ h) hb (.inr (hcut ▸ hn))
  · unfold moA
    rw [if_neg e]
    exact h
theorem ma_ok {t : List Br} {k : P} {on : Bool} (h : maE t k = 0) : ∃ i, Tree t ∧ okK k = true ∧ fd k t = some i ∧ maA t k on = t.set i (k, D t i, on) := by
  have h' := h
  unfold maE at h
  split at h
  · cases h
  · rename_i q1
    split at h
    · cases h
    · rename_i q2
      simp only [Bool.or_eq_true, Bool.not_eq_true', not_or, Bool.not_eq_false] at q1
      obtain ⟨i, hi⟩ := has_fd (by simpa using q2)
      refine ⟨i, isB_iff.1 q1.1, q1.2, hi, ?_⟩
      unfold maA
      rw [if_pos h', plc_of hi]
theorem ma_tree {t : List Br} {k : P} {on : Bool} (h : Tree t) : Tree (maA t k on) := by
  by_cases e : maE t k = 0
  · obtain ⟨i, _, hk, hi, he⟩ := ma_ok (on := on) e
    rw [he, set_cut (fd_some.1 hi).1]
    have hcut := cut_at hi
    exact tree_set (b := (k, D t i, (t.getD i zB).2.2)) (hcut ▸ h) hk (.inl rfl)
  · unfold maA
    rw [if_neg e]
    exact h

/-! ### Acts -/
structure Ac where
  kind : Int
  a : P
  b : P
  on : Bool
def doA (t : List Br) (x : Ac) : List Br := if x.kind = 0 then roA t x.a else if x.kind = 1 then inA t x.a x.b else if x.kind = 2 then reA t x.a else if x.kind = 3 then moA t x.a x.b else maA t x.a x.on
def doE (t : List Br) (x : Ac) : Int := if x.kind = 0 then roE t x.a else if x.kind = 1 then inE t x.a x.b else if x.kind = 2 then reE t x.a else if x.kind = 3 then moE t x.a x.b else maE t x.a
theorem do_tree {t : List Br} (h : Tree t) (x : Ac) : Tree (doA t x) := by
  unfold doA
  split
  · exact ro_tree h
  · split
    · exact in_keep h
    · split
      · exact re_tree h
      · split
        · exact mo_tree h
        · exact ma_tree h
/-- What was grown by acts. -/
def gr (l : List Ac) : List Br := l.foldl doA []
theorem gr_snoc (l : List Ac) (x : Ac) : gr (l ++ [x]) = doA (gr l) x := by simp [gr]
theorem gr_any (l : List Ac) : ∀ t, Tree t → Tree (l.foldl doA t) := by
  induction l with
  | nil => exact fun t h => h
  | cons x r ih => exact fun t h => ih _ (do_tree h x)
/-- WHATEVER IS DONE FROM NONE ON: A TREE. -/
theorem gr_tree (l : List Ac) : Tree (gr l) := gr_any l [] tree_nil

/-! ### Moved, marked -/
theorem set_get {t : List Br} {i : Nat} {b : Br} (hi : i < t.length) (j : Nat) : (t.set i b).getD j zB = if j = i then b else t.getD j zB := by
  simp only [List.getD]
  by_cases h : j = i
  · subst h; rw [if_pos rfl]; simp [hi]
  · rw [if_neg h, List.getElem?_set_ne (fun e => h e.symm)]
theorem fd_same {t u : List Br} (hl : u.length = t.length) (hk : ∀ j, Ky u j = Ky t j) (k : P) : fd k u = fd k t := by
  cases h : fd k t with
  | none =>
    refine fd_none.2 fun j hj => ?_
    rw [hk]
    exact fd_none.1 h j (by omega)
  | some i =>
    obtain ⟨h1, h2, h3⟩ := fd_some.1 h
    exact fd_some.2 ⟨by omega, by rw [hk]; exact h2, fun j hj => by rw [hk]; exact h3 j hj⟩
theorem ds_same {t u : List Br} (hl : u.length = t.length) (hd : ∀ j, D u j = D t j) {i j : Nat} : Ds u i j ↔ Ds t i j := by
  unfold Ds
  simp only [hl, hd]
/-- WHAT IS MARKED KEEPS WHO DESCENDS FROM WHOM. -/
theorem ma_des {t : List Br} {k : P} {on : Bool} (h : Tree t) (e : maE t k = 0) (a b : P) : dsB (maA t k on) a b = dsB t a b := by
  obtain ⟨i, _, _, hi, he⟩ := ma_ok (on := on) e
  obtain ⟨h1, h2, _⟩ := fd_some.1 hi
  have hu := ma_tree (k := k) (on := on) h
  rw [he] at hu ⊢
  have hk : ∀ j, Ky (t.set i (k, D t i, on)) j = Ky t j := fun j => by
    unfold Ky
    rw [set_get h1]
    split
    · rename_i q; subst q; exact h2.symm
    · rfl
  have hd : ∀ j, D (t.set i (k, D t i, on)) j = D t j := fun j => by
    unfold D
    rw [set_get h1]
    split
    · rename_i q; subst q; rfl
    · rfl
  rw [Bool.eq_iff_iff, des_iff hu, des_iff h]
  simp only [fd_same (by simp) hk, ds_same (by simp) hd]
/-- Another key's name behind a move. -/
def rn (a b x : P) : P := if x = a then b else x
theorem mo_fd {t : List Br} {a b x : P} {i : Nat} (hi : fd a t = some i) (hn : fd b t = none) (hx : x ≠ b) : fd (rn a b x) (t.set i (b, (t.getD i zB).2)) = fd x t := by
  obtain ⟨h1, h2, h3⟩ := fd_some.1 hi
  have hk : ∀ j, Ky (t.set i (b, (t.getD i zB).2)) j = if j = i then b else Ky t j := fun j => by
    unfold Ky
    rw [set_get h1]
    split <;> rfl
  unfold rn
  by_cases e : x = a
  · rw [if_pos e, e, hi]
    refine fd_some.2 ⟨by simpa using h1, by rw [hk, if_pos rfl], fun j hj => ?_⟩
    rw [hk, if_neg (by omega)]
    exact fd_none.1 hn j (by omega)
  · rw [if_neg e]
    cases q : fd x t with
    | none =>
      refine fd_none.2 fun j hj => ?_
      rw [hk]
      split
      · exact fun y => hx y.symm
      · exact fd_none.1 q j (by simpa using hj)
    | some n =>
      obtain ⟨g1, g2, g3⟩ := fd_some.1 q
      have hni : n ≠ i := by
        rintro rfl
        exact e (g2.symm.trans h2)
      refine fd_some.2 ⟨by simpa using g1, by rw [hk, if_neg hni]; exact g2, fun j hj => ?_⟩
      rw [hk]
      split
      · exact fun y => hx y.symm
      · exact g3 j hj
/-- WHAT IS MOVED KEEPS WHO DESCENDS FROM WHOM. -/
theorem mo_des {t : List Br} {a b x y : P} (h : Tree t) (e : moE t a b = 0) (hx : x ≠ b) (hy : y ≠ b) : dsB (moA t a b) (rn a b x) (rn a b y) = dsB t x y ∧ hasK (moA t a b) a = false ∧ (moA t a b).length = t.length := by
  have hu := mo_tree (a := a) (b := b) h
  obtain ⟨i, _, _, hi, hn, he⟩ := mo_ok e
  obtain ⟨h1, h2, h3⟩ := fd_some.1 hi
  rw [he] at hu ⊢
  have hd : ∀ j, D (t.set i (b, (t.getD i zB).2)) j = D t j := fun j => by
    unfold D
    rw [set_get h1]
    split
    · rename_i q; subst q; rfl
    · rfl
  refine ⟨?_, ?_, by simp⟩
  · rw [Bool.eq_iff_iff, des_iff hu, des_iff h]
    simp only [mo_fd hi hn hx, mo_fd hi hn hy, ds_same (by simp) hd]
  · have hab : a ≠ b := by
      rintro rfl
      rw [hi] at hn; cases hn
    have : fd a (t.set i (b, (t.getD i zB).2)) = none := by
      refine fd_none.2 fun j hj => ?_
      unfold Ky
      rw [set_get h1]
      split
      · exact fun y => hab y.symm
      · rename_i q
        intro y
        have := fd_one h (j := j) (by simpa using hj)
        unfold Ky at this
        rw [y, hi] at this
        cases this
        exact q rfl
    unfold hasK
    rw [this]
    rfl
end Go.Proofs.Ytdaakigofpehjab.Tr
