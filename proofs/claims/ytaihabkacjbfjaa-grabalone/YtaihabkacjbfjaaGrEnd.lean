/- Several who are picked one behind the other, round by round: all come to their end. -/
import Derived.Test.YtaihabkacjbfjaaGrMath
namespace Go.Proofs.Ytaihabkacjbfjaa.Gr
open Go.Proofs.Ytaihabkacjbfjaa.Ce

/-- Picked one behind the other. -/
def run (n : Nat) (s : St) : Nat → St
  | 0 => s
  | t + 1 => (run n s t).step (t % n)
theorem count_mono {l : List Nat} {p q : Nat → Bool} (h : ∀ x, x ∈ l → p x = true → q x = true) : l.countP p ≤ l.countP q := by
  induction l with
  | nil => simp
  | cons y r ih =>
    have := ih (fun x hx => h x (by simp [hx]))
    have hy := h y (by simp)
    simp only [List.countP_cons]
    by_cases h1 : p y = true
    · rw [if_pos h1, if_pos (hy h1)]; omega
    · rw [if_neg h1]; omega
theorem count_lt {l : List Nat} {p q : Nat → Bool} (h : ∀ x, x ∈ l → p x = true → q x = true) (x : Nat) (hx : x ∈ l) (hq : q x = true) (hp : p x = false) : l.countP p < l.countP q := by
  induction l with
  | nil => simp at hx
  | cons y r ih =>
    simp only [List.countP_cons]
    rcases List.mem_cons.1 hx with rfl | hx
    · have := count_mono (l := r) (p := p) (q := q) (fun z hz => h z (by simp [hz]))
      rw [hq, hp]
      simp
      omega
    · have := ih (fun z hz => h z (by simp [hz])) hx
      have hy := h y (by simp)
      by_cases h1 : p y = true
      · rw [if_pos h1, if_pos (hy h1)]; omega
      · rw [if_neg h1]; omega
/-- Within n each has its turn. -/
theorem turn_at (n i t : Nat) (hi : i < n) : ∃ u, t ≤ u ∧ u < t + n ∧ u % n = i ∧ ∀ e, t ≤ e → e < u → e % n ≠ i := by
  have ht := Nat.div_add_mod t n
  have hr := Nat.mod_lt t (show 0 < n by omega)
  have hm : ∀ q x, x < n → (n * q + x) % n = x := fun q x hx => by rw [Nat.mul_add_mod, Nat.mod_eq_of_lt hx]
  generalize t / n = q at ht
  generalize t % n = r at ht hr
  by_cases h : r ≤ i
  · refine ⟨t + (i - r), by omega, by omega, ?_, fun e h1 h2 => ?_⟩
    · rw [← ht, show n * q + r + (i - r) = n * q + i by omega, hm q i hi]
    · rw [show e = n * q + (r + (e - t)) by omega, hm q _ (by omega)]
      omega
  · have hq : n * (q + 1) = n * q + n := Nat.mul_succ n q
    refine ⟨t + (i + n - r), by omega, by omega, ?_, fun e h1 h2 => ?_⟩
    · rw [← ht, show n * q + r + (i + n - r) = n * (q + 1) + i by omega, hm (q + 1) i hi]
    · by_cases h3 : r + (e - t) < n
      · rw [show e = n * q + (r + (e - t)) by omega, hm q _ h3]
        omega
      · rw [show e = n * (q + 1) + (r + (e - t) - n) by omega, hm (q + 1) _ (by omega)]
        omega

section
variable {n : Nat} {s : St}
theorem run_inv (h : Inv s) (hn : s.gs.length = n) (h0 : 0 < n) (t : Nat) : Inv (run n s t) ∧ (run n s t).gs.length = n := by
  induction t with
  | zero => exact ⟨h, hn⟩
  | succ t ih =>
    have hi : t % n < (run n s t).gs.length := by rw [ih.2]; exact Nat.mod_lt _ h0
    exact ⟨(turnX ih.1 hi).1, (step_len _ _).trans ih.2⟩
theorem run_other (h : Inv s) (hn : s.gs.length = n) (h0 : 0 < n) (i t : Nat) (hi : t % n ≠ i) : (run n s (t + 1)).g i = (run n s t).g i := by
  have := run_inv h hn h0 t
  exact turnO _ _ _ (by rw [this.2]; exact Nat.mod_lt _ h0) (fun e => hi e.symm)
theorem run_stay (h : Inv s) (hn : s.gs.length = n) (h0 : 0 < n) (i t d : Nat) (hno : ∀ e, t ≤ e → e < t + d → e % n ≠ i) : (run n s (t + d)).g i = (run n s t).g i := by
  induction d with
  | zero => rfl
  | succ d ih =>
    rw [← Nat.add_assoc, run_other h hn h0 i (t + d) (hno _ (by omega) (by omega))]
    exact ih (fun e h1 h2 => hno e h1 (by omega))
/-- Its next turn: till then it is as it was. -/
theorem run_turn (h : Inv s) (hn : s.gs.length = n) (h0 : 0 < n) (i t : Nat) (hi : i < n) : ∃ u, t ≤ u ∧ u < t + n ∧ u % n = i ∧ (run n s u).g i = (run n s t).g i := by
  obtain ⟨u, h1, h2, h3, h4⟩ := turn_at n i t hi
  have := run_stay h hn h0 i t (u - t) (fun e h5 h6 => h4 e h5 (by omega))
  rw [show t + (u - t) = u by omega] at this
  exact ⟨u, h1, h2, h3, this⟩
/-- WHAT THE STEP AT t DOES, i's TURN. -/
theorem run_does (h : Inv s) (hn : s.gs.length = n) (h0 : 0 < n) (t i : Nat) (hi : t % n = i) :
    ((∃ c, c < 8 ∧ ((run n s t).g i).p = 1 ∧ (∀ d : Nat, d < 8 → (run n s t).v d = (i : Int) + 1 → d < c) ∧ (run n s t).v c = 0 ∧ (run n s (t + 1)).v c = (i : Int) + 1 ∧ (∀ d, d ≠ c → (run n s (t + 1)).v d = (run n s t).v d) ∧ (((run n s (t + 1)).g i).p = 1 ∨ ((run n s (t + 1)).g i).p = 2)) ∨
     (∃ c, c < 8 ∧ ((run n s t).g i).p = 1 ∧ (∀ d : Nat, d < 8 → (run n s t).v d = (i : Int) + 1 → d < c) ∧ (run n s t).v c ≠ 0 ∧ (∀ d, (run n s (t + 1)).v d = (run n s t).v d) ∧ (((run n s (t + 1)).g i).p = 1 ∨ ((run n s (t + 1)).g i).p = 3)) ∨
     (((run n s t).g i).p = 2 ∧ (∀ d, (run n s (t + 1)).v d = (run n s t).v d) ∧ (((run n s (t + 1)).g i).p = 4 ∨ ((run n s (t + 1)).g i).p = 5)) ∨
     (∃ c, c < 8 ∧ (((run n s t).g i).p = 3 ∨ ((run n s t).g i).p = 4) ∧ (run n s t).v c = (i : Int) + 1 ∧ (∀ d : Nat, d < 8 → (run n s t).v d = (i : Int) + 1 → d ≤ c) ∧ (run n s (t + 1)).v c = 0 ∧ (∀ d, d ≠ c → (run n s (t + 1)).v d = (run n s t).v d) ∧ (((run n s t).g i).p = 3 → ((run n s (t + 1)).g i).p = 1 ∨ ((run n s (t + 1)).g i).p = 3) ∧ (((run n s t).g i).p = 4 → ((run n s (t + 1)).g i).p = 4 ∨ ((run n s (t + 1)).g i).p = 5)) ∨
     (((run n s t).g i).p = 5 ∧ (∀ d, (run n s (t + 1)).v d = (run n s t).v d) ∧ ((run n s (t + 1)).g i).p = 5)) := by
  subst hi
  have := run_inv h hn h0 t
  exact (turnX this.1 (by rw [this.2]; exact Nat.mod_lt _ h0)).2
/-- Who is done has nothing. -/
theorem none_held (h : Inv s) {i : Nat} (hi : i < s.gs.length) (hp : (s.g i).p = 5) {d : Nat} (hd : d < 8) : s.v d ≠ (i : Int) + 1 := by
  intro e
  have hm := (h.hold i hi d hd).1 e
  have ha : (s.g i).a = 0 := by have := (h.ok i hi).ph; omega
  unfold heldG at hm
  rw [ha] at hm
  simp at hm
theorem some_held (h : Inv s) {i : Nat} (hi : i < s.gs.length) (ha : 1 ≤ (s.g i).a) : ∃ d, d < 8 ∧ s.v d = (i : Int) + 1 := by
  have ho := h.ok i hi
  have hal := ho.al
  obtain ⟨c, hc8, hc⟩ := cell_of ho (k := 0) (by omega)
  refine ⟨c, hc8, (h.hold i hi c hc8).2 ?_⟩
  unfold heldG
  rw [← hc, show (s.g i).a.toNat = (s.g i).a.toNat - 1 + 1 by omega]
  cases hcs : (s.g i).cs with
  | nil => rw [hcs] at hal; simp at hal; omega
  | cons x r => simp
/-- A lock that one has is kept, or free. -/
theorem run_val (h : Inv s) (hn : s.gs.length = n) (h0 : 0 < n) (t d : Nat) : (run n s (t + 1)).v d = (run n s t).v d ∨ (run n s (t + 1)).v d = 0 ∨ (run n s t).v d = 0 := by
  rcases run_does h hn h0 t _ rfl with ⟨c, _, _, _, hv, _, ho, _⟩ | ⟨c, _, _, _, _, ho, _⟩ | ⟨_, ho, _⟩ | ⟨c, _, _, _, _, hv, ho, _⟩ | ⟨_, ho, _⟩
  · by_cases e : d = c
    · subst e; exact .inr (.inr hv)
    · exact .inl (ho d e)
  · exact .inl (ho d)
  · exact .inl (ho d)
  · by_cases e : d = c
    · subst e; exact .inr (.inl hv)
    · exact .inl (ho d e)
  · exact .inl (ho d)
/-- No lock from c on is taken between a and b. -/
def NoTake (n : Nat) (s : St) (c a b : Nat) : Prop := ∀ t, a ≤ t → t < b → ∀ d, c ≤ d → d < 8 → (run n s t).v d = 0 → (run n s (t + 1)).v d = 0
theorem NoTake.stay {c a b : Nat} (hT : NoTake n s c a b) (u k d : Nat) (h1 : a ≤ u) (h2 : u + k ≤ b) (hc : c ≤ d) (hd : d < 8) (hv : (run n s u).v d = 0) : (run n s (u + k)).v d = 0 := by
  induction k with
  | zero => exact hv
  | succ k ih => exact hT (u + k) (by omega) (by omega) d hc hd (ih (by omega))
/-- THEN ALL OF THEM ARE FREE SOON, FROM THE GREATEST ON. -/
theorem clears (h : Inv s) (hn : s.gs.length = n) (h0 : 0 < n) {c a b : Nat} (hT : NoTake n s c a b) : ∀ j, j ≤ 8 - c → ∀ t, a + 2 * (n + 1) * j ≤ t → t ≤ b → ∀ d, 8 - j ≤ d → d < 8 → (run n s t).v d = 0 := by
  intro j
  induction j with
  | zero => intro _ t _ _ d h1 h2; omega
  | succ j ih =>
    intro hj t ht htb d hd hd8
    have ih := ih (by omega)
    have hm : 2 * (n + 1) * (j + 1) = 2 * (n + 1) * j + 2 * (n + 1) := Nat.mul_succ _ _
    by_cases hdj : 8 - j ≤ d
    · exact ih t (by omega) htb d hdj hd8
    have hde : d = 7 - j := by omega
    generalize hA : a + 2 * (n + 1) * j = A at *
    have htA : A + 2 * (n + 1) ≤ t := by omega
    have haA : a ≤ A := by omega
    clear hm ht
    apply Classical.byContradiction
    intro hv
    have hne : ∀ u, A ≤ u → u ≤ t → (run n s u).v d ≠ 0 := by
      intro u h1 h2 h3
      have := hT.stay u (t - u) d (by omega) (by omega) (by omega) hd8 h3
      rw [show u + (t - u) = t by omega] at this
      exact hv this
    rcases (run_inv h hn h0 A).1.free d hd8 with e | ⟨i, hi, e⟩
    · exact hne A (by omega) (by omega) e
    rw [(run_inv h hn h0 A).2] at hi
    have hold : ∀ k, A + k ≤ t → (run n s (A + k)).v d = (i : Int) + 1 := by
      intro k
      induction k with
      | zero => intro _; exact e
      | succ k ihk =>
        intro hk
        rcases run_val h hn h0 (A + k) d with e1 | e1 | e1
        · rw [← Nat.add_assoc, e1]; exact ihk (by omega)
        · exact absurd e1 (hne (A + k + 1) (by omega) (by omega))
        · exact absurd e1 (hne (A + k) (by omega) (by omega))
    have hold' : ∀ u, A ≤ u → u ≤ t → (run n s u).v d = (i : Int) + 1 := by
      intro u h1 h2
      have := hold (u - A) (by omega)
      rwa [show A + (u - A) = u by omega] at this
    have last : ∀ u, A ≤ u → u + 1 ≤ t → u % n = i → ((run n s u).g i).p = 2 ∧ ((run n s (u + 1)).g i).p = 4 := by
      intro u h1 h2 h3
      have hu := hold' u h1 (by omega)
      rcases run_does h hn h0 u i h3 with ⟨c', hc8, _, hlt, _, hv', _, _⟩ | ⟨c', hc8, _, hlt, hv', _, _⟩ | ⟨hp, hsame, hp' | hp'⟩ | ⟨c', hc8, _, hv', hle, hz, _, _⟩ | ⟨hp, _, _⟩
      · have := hlt d hd8 hu
        have := ih (u + 1) (by omega) (by omega) c' (by omega) hc8
        omega
      · have := hlt d hd8 hu
        have := ih u (by omega) (by omega) c' (by omega) hc8
        omega
      · exact ⟨hp, hp'⟩
      · have hI := run_inv h hn h0 (u + 1)
        exact absurd (hold' (u + 1) (by omega) h2) (none_held hI.1 (by rw [hI.2]; exact hi) hp' hd8)
      · have h4 := hle d hd8 hu
        by_cases e' : c' = d
        · subst e'
          exact absurd hz (hne (u + 1) (by omega) h2)
        · have := ih u (by omega) (by omega) c' (by omega) hc8
          omega
      · have hI := run_inv h hn h0 u
        exact absurd hu (none_held hI.1 (by rw [hI.2]; exact hi) hp hd8)
    obtain ⟨u1, a1, a2, a3, a4⟩ := run_turn h hn h0 i A hi
    have l1 := last u1 a1 (by omega) a3
    obtain ⟨u2, b1, b2, b3, b4⟩ := run_turn h hn h0 i (u1 + 1) hi
    have l2 := last u2 (by omega) (by omega) b3
    rw [b4, l1.2] at l2
    exact absurd l2.1 (by decide)
/-- Nobody comes to have all between a and b. -/
def NoHave (n : Nat) (s : St) (a b : Nat) : Prop := ∀ t, a ≤ t → t < b → ∀ i, i < n → ((run n s t).g i).p = 1 → ((run n s (t + 1)).g i).p ≠ 2
theorem NoTake.lower (h : Inv s) (hn : s.gs.length = n) (h0 : 0 < n) {c a b : Nat} (hc : c < 8) (hH : NoHave n s a b) (hT : NoTake n s (c + 1) a b) : NoTake n s c (a + 2 * (n + 1) * (7 - c)) (b - (n + 1)) := by
  have hcl := clears h hn h0 hT (7 - c) (by omega)
  generalize hA : a + 2 * (n + 1) * (7 - c) = A at *
  have haA : a ≤ A := by omega
  intro t ht htb d hcd hd8 hv
  by_cases hdc : c + 1 ≤ d
  · exact hT t (by omega) (by omega) d hdc hd8 hv
  obtain rfl : d = c := by omega
  apply Classical.byContradiction
  intro hne
  have hi : t % n < n := Nat.mod_lt _ h0
  rcases run_does h hn h0 t _ rfl with ⟨c', hc8, hp, _, _, hv', ho, hp'⟩ | ⟨c', _, _, _, _, ho, _⟩ | ⟨_, ho, _⟩ | ⟨c', _, _, hv', _, hz, ho, _⟩ | ⟨_, ho, _⟩
  · by_cases e : d = c'
    · subst e
      have hp1 : ((run n s (t + 1)).g (t % n)).p = 1 := by
        rcases hp' with e | e
        · exact e
        · exact absurd e (hH t (by omega) (by omega) _ hi hp)
      generalize t % n = i at *
      obtain ⟨u, b1, b2, b3, b4⟩ := run_turn h hn h0 i (t + 1) hi
      have hI1 := run_inv h hn h0 (t + 1)
      have hIu := run_inv h hn h0 u
      have hu : (run n s u).v d = (i : Int) + 1 := by
        rw [hIu.1.hold i (by rw [hIu.2]; exact hi) d hd8, b4, ← hI1.1.hold i (by rw [hI1.2]; exact hi) d hd8]
        exact hv'
      rw [← b4] at hp1
      rcases run_does h hn h0 u i b3 with ⟨c', hc8, _, hlt, _, hv', _, _⟩ | ⟨c', hc8, _, hlt, hv', _, _⟩ | ⟨hp, _⟩ | ⟨c', hc8, hp, _⟩ | ⟨hp, _, _⟩
      · have := hlt d hd8 hu
        have := hcl (u + 1) (by omega) (by omega) c' (by omega) hc8
        omega
      · have := hlt d hd8 hu
        have := hcl u (by omega) (by omega) c' (by omega) hc8
        omega
      · omega
      · omega
      · omega
    · rw [ho d e] at hne; exact hne hv
  · rw [ho d] at hne; exact hne hv
  · rw [ho d] at hne; exact hne hv
  · by_cases e : d = c'
    · subst e; exact hne hz
    · rw [ho d e] at hne; exact hne hv
  · rw [ho d] at hne; exact hne hv
theorem NoTake.sub {c a b a' b' : Nat} (h : NoTake n s c a b) (h1 : a ≤ a') (h2 : b' ≤ b) : NoTake n s c a' b' := fun t ht htb => h t (by omega) (by omega)
theorem NoHave.sub {a b a' b' : Nat} (h : NoHave n s a b) (h1 : a ≤ a') (h2 : b' ≤ b) : NoHave n s a' b' := fun t ht htb => h t (by omega) (by omega)
theorem noTakes (h : Inv s) (hn : s.gs.length = n) (h0 : 0 < n) {a b : Nat} (hH : NoHave n s a b) : ∀ j, j ≤ 8 → NoTake n s (8 - j) (a + 14 * (n + 1) * j) (b - (n + 1) * j) := by
  intro j
  induction j with
  | zero => intro _ t _ _ d h1 h2; omega
  | succ j ih =>
    intro hj
    have ih := ih (by omega)
    rw [show 8 - j = 8 - (j + 1) + 1 by omega] at ih
    have hm : 14 * (n + 1) * (j + 1) = 14 * (n + 1) * j + 14 * (n + 1) := Nat.mul_succ _ _
    have hm2 : (n + 1) * (j + 1) = (n + 1) * j + (n + 1) := Nat.mul_succ _ _
    have hm3 : 2 * (n + 1) * (7 - (8 - (j + 1))) ≤ 2 * (n + 1) * 7 := Nat.mul_le_mul_left _ (by omega)
    have := NoTake.lower h hn h0 (by omega) (hH.sub (by omega) (by omega)) ih
    exact this.sub (by omega) (by omega)
theorem done_stays (h : Inv s) (hn : s.gs.length = n) (h0 : 0 < n) (i t k : Nat) (hp : ((run n s t).g i).p = 5) : ((run n s (t + k)).g i).p = 5 := by
  induction k with
  | zero => exact hp
  | succ k ih =>
    rw [← Nat.add_assoc]
    by_cases e : (t + k) % n = i
    · rcases run_does h hn h0 (t + k) i e with ⟨c, _, h1, _⟩ | ⟨c, _, h1, _⟩ | ⟨h1, _⟩ | ⟨c, _, h1, _⟩ | ⟨_, _, h1⟩
      · omega
      · omega
      · omega
      · omega
      · exact h1
    · rw [run_other h hn h0 i (t + k) e]; exact ih
/-- IF NOBODY COMES TO HAVE ALL FOR LONG, ALL ARE DONE. -/
theorem all_done (h : Inv s) (hn : s.gs.length = n) (h0 : 0 < n) {a : Nat} (hH : NoHave n s a (a + 137 * (n + 1))) (t : Nat) (ht : a + 137 * (n + 1) ≤ t) (i : Nat) (hi : i < n) : ((run n s t).g i).p = 5 := by
  have hT := noTakes h hn h0 hH 8 (by omega)
  have hcl := clears h hn h0 hT 8 (by omega)
  simp only [Nat.sub_self] at hcl
  obtain ⟨u, a1, a2, a3, a4⟩ := run_turn h hn h0 i (a + 128 * (n + 1)) hi
  have f0 : ∀ d, d < 8 → (run n s u).v d = 0 := fun d hd => hcl u (by omega) (by omega) d (by omega) hd
  have f1 : ∀ d, d < 8 → (run n s (u + 1)).v d = 0 := fun d hd => hcl (u + 1) (by omega) (by omega) d (by omega) hd
  have hp : ((run n s (u + 1)).g i).p = 5 := by
    rcases run_does h hn h0 u i a3 with ⟨c, hc8, _, _, _, hv, _, _⟩ | ⟨c, hc8, _, _, hv, _, _⟩ | ⟨_, _, h1 | h1⟩ | ⟨c, hc8, _, hv, _⟩ | ⟨_, _, h1⟩
    · have := f1 c hc8; omega
    · exact absurd (f0 c hc8) hv
    · have hI := run_inv h hn h0 (u + 1)
      have hi' : i < (run n s (u + 1)).gs.length := by rw [hI.2]; exact hi
      obtain ⟨d, hd, hv⟩ := some_held hI.1 hi' (by have := (hI.1.ok i hi').ph; omega)
      have := f1 d hd; omega
    · exact h1
    · have := f0 c hc8; omega
    · exact h1
  have := done_stays h hn h0 i (u + 1) (t - (u + 1)) hp
  rwa [show u + 1 + (t - (u + 1)) = t by omega] at this
/-- How many have not had all yet. -/
def busy (n : Nat) (s : St) : Nat := (List.range n).countP (fun i => decide ((s.g i).p = 1 ∨ (s.g i).p = 3))
theorem busy_each (h : Inv s) (hn : s.gs.length = n) (h0 : 0 < n) (t i : Nat) (hp : ((run n s (t + 1)).g i).p = 1 ∨ ((run n s (t + 1)).g i).p = 3) : ((run n s t).g i).p = 1 ∨ ((run n s t).g i).p = 3 := by
  by_cases e : t % n = i
  · rcases run_does h hn h0 t i e with ⟨c, _, h1, _⟩ | ⟨c, _, h1, _⟩ | ⟨h1, _, h2⟩ | ⟨c, _, h1, _, _, _, _, h3, h4⟩ | ⟨_, _, h1⟩
    · exact .inl h1
    · exact .inl h1
    · omega
    · rcases h1 with h1 | h1
      · exact .inr h1
      · have := h4 h1; omega
    · omega
  · rwa [run_other h hn h0 i t e] at hp
theorem busy_step (h : Inv s) (hn : s.gs.length = n) (h0 : 0 < n) (t : Nat) : busy n (run n s (t + 1)) ≤ busy n (run n s t) := by
  refine count_mono (fun i _ hp => ?_)
  simp only [decide_eq_true_eq] at hp ⊢
  exact busy_each h hn h0 t i hp
theorem busy_le (h : Inv s) (hn : s.gs.length = n) (h0 : 0 < n) (t k : Nat) : busy n (run n s (t + k)) ≤ busy n (run n s t) := by
  induction k with
  | zero => exact Nat.le_refl _
  | succ k ih => exact Nat.le_trans (busy_step h hn h0 (t + k)) ih
theorem ends_in (h : Inv s) (hn : s.gs.length = n) (h0 : 0 < n) : ∀ k a, busy n (run n s a) ≤ k → ∀ t, a + 137 * (n + 1) * (k + 1) ≤ t → ∀ i, i < n → ((run n s t).g i).p = 5 := by
  intro k
  induction k with
  | zero =>
    intro a hb t ht i hi
    by_cases hH : NoHave n s a (a + 137 * (n + 1))
    · exact all_done h hn h0 hH t (by omega) i hi
    · exfalso
      apply hH
      intro t0 h1 h2 j hj hp hp'
      have hle := busy_le h hn h0 a (t0 - a)
      rw [show a + (t0 - a) = t0 by omega] at hle
      have hlt : busy n (run n s (t0 + 1)) < busy n (run n s t0) := by
        refine count_lt (fun i _ hp => ?_) j (by simpa using hj) (by simp [hp]) (by simp [hp'])
        simp only [decide_eq_true_eq] at hp ⊢
        exact busy_each h hn h0 t0 i hp
      omega
  | succ k ih =>
    intro a hb t ht i hi
    have hm : 137 * (n + 1) * (k + 1 + 1) = 137 * (n + 1) * (k + 1) + 137 * (n + 1) := Nat.mul_succ _ _
    by_cases hH : NoHave n s a (a + 137 * (n + 1))
    · exact all_done h hn h0 hH t (by omega) i hi
    · apply Classical.byContradiction
      intro hne
      apply hH
      intro t0 h1 h2 j hj hp hp'
      have hle := busy_le h hn h0 a (t0 - a)
      rw [show a + (t0 - a) = t0 by omega] at hle
      have hlt : busy n (run n s (t0 + 1)) < busy n (run n s t0) := by
        refine count_lt (fun i _ hp => ?_) j (by simpa using hj) (by simp [hp]) (by simp [hp'])
        simp only [decide_eq_true_eq] at hp ⊢
        exact busy_each h hn h0 t0 i hp
      exact hne (ih (t0 + 1) (by omega) t (by omega) i hi)
/-- ALL COME TO THEIR END, WITHIN 2000 ROUNDS. -/
theorem ends_all (h : Inv s) (hn : s.gs.length = n) (h0 : 0 < n) (h6 : n ≤ 6) (i : Nat) (hi : i < n) : ((run n s (2000 * n)).g i).p = 5 := by
  have hb : busy n (run n s 0) ≤ n := by
    have := List.countP_le_length (p := fun i => decide (((run n s 0).g i).p = 1 ∨ ((run n s 0).g i).p = 3)) (l := List.range n)
    rwa [List.length_range] at this
  refine ends_in h hn h0 n 0 hb (2000 * n) ?_ i hi
  have : n = 1 ∨ n = 2 ∨ n = 3 ∨ n = 4 ∨ n = 5 ∨ n = 6 := by omega
  rcases this with rfl | rfl | rfl | rfl | rfl | rfl <;> decide
/-- Then all locks are free. -/
theorem all_free (h : Inv s) (hd : ∀ i, i < s.gs.length → (s.g i).p = 5) (c : Nat) (hc : c < 8) : s.v c = 0 := by
  rcases h.free c hc with e | ⟨i, hi, e⟩
  · exact e
  · exact absurd e (none_held h hi (hd i hi) hc)
end
end Go.Proofs.Ytaihabkacjbfjaa.Gr
