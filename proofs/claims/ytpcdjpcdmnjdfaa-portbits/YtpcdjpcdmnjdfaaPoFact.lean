/- What follows of ports: what may be stays so; who is dropped; who comes first. Without any program. -/
import Derived.Test.YtpcdjpcdmnjdfaaPoAct
namespace Go.Proofs.Ytpcdjpcdmnjdfaa.Po

theorem cc_erase (l : List Wt) (i k : Nat) : Cc (l.eraseIdx i) k = Cc l (if k < i then k else k + 1) := by
  simp only [Cc, List.getD, List.getElem?_eraseIdx]
  split <;> rfl
theorem okL_erase {l : List Wt} (h : OkL l) (i : Nat) (hi : i < l.length) : OkL (l.eraseIdx i) := by
  intro k hk
  rw [List.length_eraseIdx_of_lt hi] at hk
  rw [cc_erase]
  have h1 := h (if k < i then k else k + 1) (by split <;> omega)
  refine ⟨h1.1, fun j hj => ?_⟩
  rw [cc_erase]
  exact h1.2 _ (by split <;> split <;> omega)
theorem ok_wo {p : Pt} (h : okP p = true) (i : Nat) (hi : i < p.l.length) : okP (woP p i) = true := by
  obtain ⟨h1, h2⟩ := okP_iff.1 h
  refine okP_iff.2 ⟨ftB_iff.2 ?_, okL_erase h2 i hi⟩
  rcases ftB_iff.1 h1 with ⟨hk, hl⟩ | ⟨hk, hl, hw⟩
  · omega
  · by_cases he : (p.l.eraseIdx i).length = 0
    · rw [wo_zero he]
      exact .inl ⟨rfl, he⟩
    · rw [wo_some he]
      exact .inr ⟨hk, by show 0 < (p.l.eraseIdx i).length; omega, hw⟩
theorem cc_app (l : List Wt) (x : Wt) (k : Nat) (hk : k < l.length) : Cc (l ++ [x]) k = Cc l k := by
  simp only [Cc, List.getD]
  rw [List.getElem?_append_left hk]
theorem cc_last (l : List Wt) (x : Wt) : Cc (l ++ [x]) l.length = x.c := by simp [Cc, List.getD]
theorem ok_wi {p : Pt} {x : Wt} {k : Int} (h : okP p = true) (hc : okC x.c = true) (hf : fd x.c p.l = none) (hw : p.w = 0) (hk : k = 1 ∨ k = 2) : okP (wiP p k x) = true := by
  obtain ⟨h1, h2⟩ := okP_iff.1 h
  refine okP_iff.2 ⟨ftB_iff.2 (.inr ⟨hk, by simp [wiP], hw⟩), ?_⟩
  intro i hi
  have hi : i < p.l.length + 1 := by simpa [wiP] using hi
  show okC (Cc (p.l ++ [x]) i) = true ∧ ∀ j, j < i → Cc (p.l ++ [x]) j ≠ Cc (p.l ++ [x]) i
  rcases Nat.lt_or_ge i p.l.length with g | g
  · rw [cc_app _ _ _ g]
    refine ⟨(h2 i g).1, fun j hj => ?_⟩
    rw [cc_app _ _ _ (by omega)]
    exact (h2 i g).2 j hj
  · obtain rfl : i = p.l.length := by omega
    rw [cc_last]
    refine ⟨hc, fun j hj => ?_⟩
    rw [cc_app _ _ _ hj]
    exact fd_none.1 hf j hj
/-- All but those of a core. -/
def fl (c : Int) (l : List Wt) : List Wt := l.filter (fun x => x.c != c)
theorem fl_snoc (c : Int) (l : List Wt) (x : Wt) : fl c (l ++ [x]) = if x.c = c then fl c l else fl c l ++ [x] := by
  by_cases h : x.c = c <;> simp [fl, List.filter_append, h]
theorem fl_len (c : Int) (l : List Wt) : (fl c l).length ≤ l.length := List.length_filter_le _ _
theorem fl_none {c : Int} : ∀ {l : List Wt}, fd c l = none → fl c l = l := by
  intro l
  induction l with
  | nil => intro _; rfl
  | cons b r ih =>
    intro h
    by_cases hb : b.c = c
    · simp [fd, hb] at h
    · have hr : fd c r = none := by simpa [fd, hb] using h
      have := ih hr
      simp only [fl] at this ⊢
      rw [List.filter_cons_of_pos (by simpa using hb), this]
def Un (l : List Wt) : Prop := ∀ i j, i < j → j < l.length → Cc l i ≠ Cc l j
theorem un_tail {b : Wt} {r : List Wt} (h : Un (b :: r)) : Un r := fun i j a c => h (i + 1) (j + 1) (by omega) (by simpa using c)
theorem fl_some {c : Int} : ∀ {l : List Wt} {i : Nat}, Un l → fd c l = some i → fl c l = l.eraseIdx i := by
  intro l
  induction l with
  | nil => intro i _ h; cases h
  | cons b r ih =>
    intro i hu h
    by_cases hb : b.c = c
    · have hi : i = 0 := by simpa [fd, hb] using h.symm
      subst hi
      have hr : fd c r = none := fd_none.2 fun j hj e => hu 0 (j + 1) (by omega) (by simpa using hj) (by show b.c = Cc r j; rw [hb, e])
      have := fl_none hr
      simp only [fl] at this ⊢
      rw [List.filter_cons_of_neg (by simpa using hb), this]
      rfl
    · cases hr : fd c r with
      | none => simp [fd, hb, hr] at h
      | some k =>
        have hi : i = k + 1 := by simpa [fd, hb, hr] using h.symm
        subst hi
        have := ih (un_tail hu) hr
        simp only [fl] at this ⊢
        rw [List.filter_cons_of_pos (by simpa using hb), this]
        rfl
theorem okL_un {l : List Wt} (h : OkL l) : Un l := fun i j a b => (h j b).2 i a
/-- What Drop does to a port that may be. -/
theorem dr_fact {p : Pt} {c : Int} (h : okP p = true) : (drP p c).l = fl c p.l ∧ drB p c = decide ((fl c p.l).length < p.l.length) ∧ drB (drP p c) c = false ∧ drP (drP p c) c = drP p c ∧ okP (drP p c) = true ∧ (drP p c).w = p.w := by
  have hu := okL_un (okP_iff.1 h).2
  cases hf : fd c p.l with
  | none =>
    have e := dr_no hf
    rw [e.1, e.2, e.1, fl_none hf]
    exact ⟨rfl, by simp, rfl, rfl, h, rfl⟩
  | some i =>
    have e := dr_yes hf
    have hi := (fd_some.1 hf).1
    have hfl := fl_some hu hf
    have hn : fd c (woP p i).l = none := fd_none.2 fun k hk => by
      have hk : k < p.l.length - 1 := by have := List.length_eraseIdx_of_lt hi; simp only [woP] at hk; omega
      show Cc (p.l.eraseIdx i) k ≠ c
      rw [cc_erase, ← (fd_some.1 hf).2.1]
      split
      · exact hu _ _ (by omega) hi
      · exact (hu i (k + 1) (by omega) (by omega)).symm
    have e2 := dr_no hn
    rw [e.1, e.2, e2.1, hfl]
    refine ⟨rfl, ?_, e2.2, rfl, ok_wo h i hi, rfl⟩
    rw [List.length_eraseIdx_of_lt hi, decide_eq_true (by omega)]
end Go.Proofs.Ytpcdjpcdmnjdfaa.Po
