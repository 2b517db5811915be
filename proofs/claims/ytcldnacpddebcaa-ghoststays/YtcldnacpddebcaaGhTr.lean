/- Who descends from whom in a tree, behind each change. Without any program. -/
import Derived.Test.YtcldnacpddebcaaPkA
namespace Go.Proofs.Ytcldnacpddebcaa.Tr

/-- Where a place is, behind one put in at p. -/
def sh (p j : Nat) : Nat := if j < p then j else j + 1
theorem sh_c (p j : Nat) : (j < p ∧ sh p j = j) ∨ (p ≤ j ∧ sh p j = j + 1) := by
  unfold sh
  split <;> omega
theorem ins_Ky {t : List Br} {p : Nat} {b : Br} (hn : p ≤ t.length) (j : Nat) : Ky (ins t p b) j = if j < p then Ky t j else if j = p then b.1 else Ky t (j - 1) := by
  unfold Ky
  rw [ins_get hn]
  split
  · rfl
  · split <;> rfl
theorem ins_D {t : List Br} {p : Nat} {b : Br} (hn : p ≤ t.length) (j : Nat) : D (ins t p b) j = if j < p then D t j else if j = p then b.2.1 else D t (j - 1) := by
  unfold D
  rw [ins_get hn]
  split
  · rfl
  · split <;> rfl
theorem D_sh {t : List Br} {p : Nat} {b : Br} (hn : p ≤ t.length) (j : Nat) : D (ins t p b) (sh p j) = D t j := by
  rcases sh_c p j with ⟨q, e⟩ | ⟨q, e⟩
  · rw [e, ins_D hn, if_pos q]
  · rw [e, ins_D hn, if_neg (by omega), if_neg (by omega), Nat.add_sub_cancel]
theorem Ky_sh {t : List Br} {p : Nat} {b : Br} (hn : p ≤ t.length) (j : Nat) : Ky (ins t p b) (sh p j) = Ky t j := by
  rcases sh_c p j with ⟨q, e⟩ | ⟨q, e⟩
  · rw [e, ins_Ky hn, if_pos q]
  · rw [e, ins_Ky hn, if_neg (by omega), if_neg (by omega), Nat.add_sub_cancel]
theorem fd_new {t : List Br} {p : Nat} {b : Br} (hn : p ≤ t.length) (hk : fd b.1 t = none) : fd b.1 (ins t p b) = some p := by
  refine fd_some.2 ⟨by rw [ins_len]; omega, by rw [ins_Ky hn, if_neg (by omega), if_pos rfl], fun m hm => ?_⟩
  rw [ins_Ky hn, if_pos hm]
  exact fd_none.1 hk m (by omega)
theorem fd_old {t : List Br} {p : Nat} {b : Br} (hn : p ≤ t.length) {o : P} (ho : o ≠ b.1) : fd o (ins t p b) = (fd o t).map (sh p) := by
  cases h : fd o t with
  | none =>
    refine fd_none.2 fun j hj => ?_
    rw [ins_len] at hj
    rw [ins_Ky hn]
    split
    · exact fd_none.1 h j (by omega)
    · split
      · exact ho.symm
      · exact fd_none.1 h (j - 1) (by omega)
  | some m =>
    obtain ⟨m1, m2, m3⟩ := fd_some.1 h
    show fd o (ins t p b) = some (sh p m)
    refine fd_some.2 ⟨by rw [ins_len]; have := sh_c p m; omega, by rw [Ky_sh hn]; exact m2, fun j hj => ?_⟩
    rw [ins_Ky hn]
    split
    · exact m3 j (by have := sh_c p m; omega)
    · split
      · exact ho.symm
      · exact m3 (j - 1) (by have := sh_c p m; omega)
theorem ds_ins {t : List Br} {p : Nat} {b : Br} (hn : p ≤ t.length) (hc : ∀ x y, x < p → p ≤ y → Ds t x y → D t x < b.2.1) (x y : Nat) : Ds (ins t p b) (sh p x) (sh p y) ↔ Ds t x y := by
  constructor
  · rintro ⟨h1, h2, h3⟩
    rw [ins_len] at h2
    have sx := sh_c p x
    have sy := sh_c p y
    refine ⟨by omega, by omega, fun m a c => ?_⟩
    have sm := sh_c p m
    have := h3 (sh p m) (by omega) (by omega)
    rwa [D_sh hn, D_sh hn] at this
  · intro h
    obtain ⟨h1, h2, h3⟩ := h
    have sx := sh_c p x
    have sy := sh_c p y
    refine ⟨by omega, by rw [ins_len]; omega, fun m a c => ?_⟩
    rw [D_sh hn]
    rcases Nat.lt_trichotomy m p with q | q | q
    · rw [ins_D hn, if_pos q]
      exact h3 m (by omega) (by omega)
    · rw [ins_D hn, if_neg (by omega), if_pos q]
      exact hc x y (by omega) (by omega) ⟨h1, h2, h3⟩
    · rw [ins_D hn, if_neg (by omega), if_neg (by omega)]
      exact h3 (m - 1) (by omega) (by omega)
theorem des_old {t : List Br} {p : Nat} {b : Br} (ht : Tree t) (hu : Tree (ins t p b)) (hn : p ≤ t.length) (hc : ∀ x y, x < p → p ≤ y → Ds t x y → D t x < b.2.1) {a c : P} (ha : a ≠ b.1) (hcc : c ≠ b.1) : dsB (ins t p b) a c = dsB t a c := by
  rw [Bool.eq_iff_iff, des_iff hu, des_iff ht, fd_old hn ha, fd_old hn hcc]
  constructor
  · rintro ⟨i, j, h1, h2, h3⟩
    obtain ⟨x, hx, rfl⟩ := Option.map_eq_some_iff.1 h1
    obtain ⟨y, hy, rfl⟩ := Option.map_eq_some_iff.1 h2
    exact ⟨x, y, hx, hy, (ds_ins hn hc x y).1 h3⟩
  · rintro ⟨x, y, hx, hy, h⟩
    exact ⟨_, _, by rw [hx]; rfl, by rw [hy]; rfl, (ds_ins hn hc x y).2 h⟩
theorem has_ins {t : List Br} {p : Nat} {b : Br} (hn : p ≤ t.length) (hk : fd b.1 t = none) (o : P) : hasK (ins t p b) o = (decide (o = b.1) || hasK t o) := by
  unfold hasK
  by_cases e : o = b.1
  · rw [e, fd_new hn hk]
    simp
  · rw [fd_old hn e]
    simp [e]
theorem des_gone {t : List Br} (ht : Tree t) {a b : P} (h : hasK t a = false ∨ hasK t b = false) : dsB t a b = false := by
  cases q : dsB t a b with
  | false => rfl
  | true =>
    obtain ⟨i, j, h1, h2, _⟩ := (des_iff ht).1 q
    rcases h with h | h
    · rw [has_of h2] at h; cases h
    · rw [has_of h1] at h; cases h
/-! ### Root -/
theorem ro_ok {t : List Br} {k : P} (h : roE t k = 0) : Tree t ∧ okK k = true ∧ fd k t = none ∧ t.length < 512 ∧ roA t k = ins t t.length (k, 0, false) := by
  have h' := h
  unfold roE at h
  split at h
  · cases h
  rename_i q1
  split at h
  · cases h
  rename_i q2
  split at h
  · cases h
  rename_i q3
  simp only [Bool.or_eq_true, Bool.not_eq_true', not_or, Bool.not_eq_false] at q1
  refine ⟨isB_iff.1 q1.1, q1.2, has_no (by simpa using q2), by omega, ?_⟩
  unfold roA
  rw [if_pos h']
  simp [ins]
theorem des_root {t : List Br} {k : P} (h : roE t k = 0) (a b : P) : dsB (roA t k) a b = if a = k ∨ b = k then false else dsB t a b := by
  obtain ⟨ht, hk, hn, hl, e⟩ := ro_ok h
  have hu : Tree (roA t k) := ro_tree ht
  rw [e] at hu ⊢
  by_cases hab : a = k ∨ b = k
  · rw [if_pos hab]
    cases q : dsB (ins t t.length (k, 0, false)) a b with
    | false => rfl
    | true =>
      obtain ⟨i, j, h1, h2, h3⟩ := (des_iff hu).1 q
      have hd := h3.2.2 j h3.1 (Nat.le_refl _)
      have hlt := h3.2.1
      rw [ins_len] at hlt
      exfalso
      by_cases hb : b = k
      · have : i = t.length := by
          rw [hb] at h1
          have h4 := fd_new (t := t) (p := t.length) (b := (k, 0, false)) (Nat.le_refl _) hn
          rw [h4] at h1
          exact (Option.some.inj h1).symm
        have := h3.1
        omega
      · have ha : a = k := by rcases hab with e | e; exact e; exact absurd e hb
        have hj : j = t.length := by
          rw [ha] at h2
          have h4 := fd_new (t := t) (p := t.length) (b := (k, 0, false)) (Nat.le_refl _) hn
          rw [h4] at h2
          exact (Option.some.inj h2).symm
        have hi := h3.1
        rw [ins_D (Nat.le_refl _), ins_D (Nat.le_refl _), if_pos (by omega), if_neg (by omega), if_pos hj] at hd
        have := (dp_iff.1 ht.dep i (by omega)).1
        simp only at hd
        omega
  · rw [if_neg hab]
    exact des_old ht hu (Nat.le_refl _) (fun x y hx hy hd => by have := hd.2.1; omega) (fun e => hab (.inl e)) (fun e => hab (.inr e))
/-! ### Insert -/
theorem des_insert {t : List Br} {f k : P} (h : inE t f k = 0) (a b : P) : dsB (inA t f k) a b = if b = k then false else if a = k then decide (b = f) || dsB t f b else dsB t a b := by
  obtain ⟨i, hok, e⟩ := in_ok h
  have hu : Tree (inA t f k) := in_keep hok.tree
  have hi := (fd_some.1 hok.at').1
  rw [e] at hu ⊢
  by_cases hb : b = k
  · rw [if_pos hb]
    subst hb
    cases q : dsB (ins t (i + 1) (b, D t i + 1, false)) a b with
    | false => rfl
    | true =>
      by_cases ha : a = b
      · rw [ha, des_irr hu] at q; cases q
      · cases hh : hasK t a with
        | true => rw [(in_des hok hh).2] at q; cases q
        | false => rw [des_gone hu (.inl (by rw [has_ins (by omega) hok.non, hh]; simp [ha]))] at q; cases q
  · rw [if_neg hb]
    by_cases ha : a = k
    · rw [if_pos ha, ha]
      cases hh : hasK t b with
      | true => exact (in_des hok hh).1
      | false =>
        rw [des_gone hu (.inr (by rw [has_ins (by omega) hok.non, hh]; simp [hb])), des_gone hok.tree (.inr hh)]
        have : b ≠ f := by
          rintro rfl
          rw [has_of hok.at'] at hh
          cases hh
        simp [this]
    · rw [if_neg ha]
      refine des_old hok.tree hu (by omega) (fun x y hx hy hd => ?_) ha hb
      show D t x < D t i + 1
      rcases Nat.lt_or_ge x i with q | q
      · have := hd.2.2 i q (by omega); omega
      · have : x = i := by omega
        rw [this]; omega
/-! ### Remove -/
theorem del_back {t : List Br} {i : Nat} (hi : i < t.length) : ins (del t i) i (t.getD i zB) = t := by
  have e : t.getD i zB = t[i] := by simp [List.getD, hi]
  unfold ins del
  have hl : (t.take i).length = i := by simp; omega
  have h1 : (t.take i ++ t.drop (i + 1)).take i = t.take i := by
    rw [List.take_append_of_le_length (by omega), List.take_take]
    simp
  have h2 : (t.take i ++ t.drop (i + 1)).drop i = t.drop (i + 1) := by
    have := List.drop_left (l₁ := t.take i) (l₂ := t.drop (i + 1))
    rwa [hl] at this
  rw [h1, h2, e, ← List.drop_eq_getElem_cons hi, List.take_append_drop]
theorem des_remove {t : List Br} {k : P} (h : reE t k = 0) (a b : P) : dsB (reA t k) a b = if a = k ∨ b = k then false else dsB t a b := by
  obtain ⟨i, ht, hk, hf, hc, e⟩ := re_ok h
  obtain ⟨h1, h2, h3⟩ := fd_some.1 hf
  have hu : Tree (reA t k) := re_tree ht
  rw [e] at hu ⊢
  have hlen : (del t i).length + 1 = t.length := by unfold del; simp; omega
  have hb := del_back h1
  obtain ⟨x, hx⟩ : ∃ x, t.getD i zB = x := ⟨_, rfl⟩
  have hxk : x.1 = k := by rw [← hx]; exact h2
  have hxd : x.2.1 = D t i := by rw [← hx]
  rw [hx] at hb
  have hnk : fd k (del t i) = none := by
    cases q : fd k (del t i) with
    | none => rfl
    | some m =>
      exfalso
      obtain ⟨m1, m2, _⟩ := fd_some.1 q
      have h4 : Ky t (sh i m) = k := by
        have := Ky_sh (t := del t i) (p := i) (b := x) (by omega) m
        rw [hb] at this
        exact this.trans m2
      have h5 := fd_one ht (j := sh i m) (by have := sh_c i m; omega)
      rw [h4, hf] at h5
      have h6 := Option.some.inj h5
      have := sh_c i m
      omega
  by_cases hab : a = k ∨ b = k
  · rw [if_pos hab]
    refine des_gone hu (hab.elim (fun e => .inl ?_) (fun e => .inr ?_)) <;> rw [e] <;> simp [hasK, hnk]
  · rw [if_neg hab]
    have := des_old (t := del t i) (p := i) (b := x) hu (by rw [hb]; exact ht) (by omega) (fun p q hp hq hd => ?_) (a := a) (c := b) (by rw [hxk]; exact fun e => hab (.inl e)) (by rw [hxk]; exact fun e => hab (.inr e))
    · rw [hb] at this
      exact this.symm
    · have e1 : D (del t i) p = D t p := by
        have := D_sh (t := del t i) (p := i) (b := x) (by omega) p
        rw [hb, show sh i p = p by have := sh_c i p; omega] at this
        exact this.symm
      have e2 : D (del t i) i = D t (i + 1) := by
        have := D_sh (t := del t i) (p := i) (b := x) (by omega) i
        rw [hb, show sh i i = i + 1 by have := sh_c i i; omega] at this
        exact this.symm
      have h4 := hd.2.2 i hp hq
      have h5 := hd.2.1
      rw [e1, e2] at h4
      rw [e1, hxd]
      have h6 : ¬ D t i < D t (i + 1) := fun h7 => by
        have h8 : Ds t i (i + 1) := ⟨by omega, by omega, fun m a c => by
          have : m = i + 1 := by omega
          rw [this]; exact h7⟩
        have := (ds_ct.1 h8).2
        omega
      omega
theorem has_remove {t : List Br} {k : P} (h : reE t k = 0) (o : P) : hasK (reA t k) o = (decide (o ≠ k) && hasK t o) := by
  obtain ⟨i, ht, hk, hf, hc, e⟩ := re_ok h
  obtain ⟨h1, h2, h3⟩ := fd_some.1 hf
  rw [e]
  have hlen : (del t i).length + 1 = t.length := by unfold del; simp; omega
  have hb := del_back h1
  obtain ⟨x, hx⟩ : ∃ x, t.getD i zB = x := ⟨_, rfl⟩
  have hxk : x.1 = k := by rw [← hx]; exact h2
  rw [hx] at hb
  by_cases eo : o = k
  · have : fd k (del t i) = none := by
      cases q : fd k (del t i) with
      | none => rfl
      | some m =>
        exfalso
        obtain ⟨m1, m2, _⟩ := fd_some.1 q
        have h4 : Ky t (sh i m) = k := by
          have := Ky_sh (t := del t i) (p := i) (b := x) (by omega) m
          rw [hb] at this
          exact this.trans m2
        have h5 := fd_one ht (j := sh i m) (by have := sh_c i m; omega)
        rw [h4, hf] at h5
        have h6 := Option.some.inj h5
        have := sh_c i m
        omega
    rw [eo]
    simp [hasK, this]
  · have := fd_old (t := del t i) (p := i) (b := x) (by omega) (o := o) (by rw [hxk]; exact eo)
    rw [hb] at this
    unfold hasK
    rw [this]
    simp [eo]
/-! ### Move -/
theorem has_move {t : List Br} {f k : P} (h : moE t f k = 0) (o : P) : hasK (moA t f k) o = if o = k then true else if o = f then false else hasK t o := by
  obtain ⟨i, ht, hk, hf, hn, e⟩ := mo_ok h
  rw [e]
  obtain ⟨h1, h2, h3⟩ := fd_some.1 hf
  have hg : ∀ j, Ky (t.set i (k, (t.getD i zB).2)) j = if j = i then k else Ky t j := fun j => by
    unfold Ky
    rw [set_get h1]
    split <;> rfl
  by_cases e1 : o = k
  · rw [if_pos e1, e1]
    refine has_of (i := i) (fd_some.2 ⟨by simpa using h1, by rw [hg, if_pos rfl], fun j hj => ?_⟩)
    rw [hg, if_neg (by omega)]
    exact fd_none.1 hn j (by omega)
  · rw [if_neg e1]
    by_cases e2 : o = f
    · rw [if_pos e2, e2]
      have : fd f (t.set i (k, (t.getD i zB).2)) = none := by
        refine fd_none.2 fun j hj => ?_
        rw [hg]
        simp only [List.length_set] at hj
        split
        · rw [← e2]; exact Ne.symm e1
        · intro e3
          have h4 := fd_one ht hj
          rw [e3, hf] at h4
          have := Option.some.inj h4
          omega
      unfold hasK
      rw [this]
      rfl
    · rw [if_neg e2]
      have := mo_fd hf hn (x := o) e1
      rw [show rn f k o = o from if_neg e2] at this
      unfold hasK
      rw [this]
end Go.Proofs.Ytcldnacpddebcaa.Tr
