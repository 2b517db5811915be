/- How long a piece of a script is in which a core is missing; rounds; how often a core is picked. No program in this text. -/
import Derived.Test.YtaooijjppdfnfabDoorScMath
namespace Go.Proofs.YtaooijjppdfnfabDoor.Sc

/-! ### Pieces without a core -/
def Free (l : List Int) (c : Int) (s t : Nat) : Prop := ∀ j, s ≤ j → j < t → l.getD j 0 ≠ c
/-- g is the length of a longest piece in which one of the cores is missing. -/
structure Gap (l : List Int) (n : Int) (g : Nat) : Prop where
  most : ∀ (c : Int) (s t : Nat), 0 ≤ c → c < n → s ≤ t → t ≤ l.length → Free l c s t → t - s ≤ g
  some : g = 0 ∨ ∃ (c : Int) (s t : Nat), 0 ≤ c ∧ c < n ∧ s ≤ t ∧ t ≤ l.length ∧ Free l c s t ∧ t - s = g
theorem exists_max (P : Nat → Prop) (h0 : P 0) (N : Nat) : ∃ g, g ≤ N ∧ P g ∧ ∀ k, k ≤ N → P k → k ≤ g := by
  induction N with
  | zero => exact ⟨0, Nat.le_refl _, h0, fun k hk _ => hk⟩
  | succ N ih =>
    obtain ⟨g, h1, h2, h3⟩ := ih
    by_cases h : P (N + 1)
    · exact ⟨N + 1, Nat.le_refl _, h, fun k hk _ => hk⟩
    · refine ⟨g, by omega, h2, fun k hk hp => ?_⟩
      by_cases e : k = N + 1
      · subst e; exact absurd hp h
      · exact h3 k (by omega) hp
theorem gap_is (l : List Int) (n : Int) : ∃ g, Gap l n g ∧ g ≤ l.length := by
  obtain ⟨g, h1, h2, h3⟩ := exists_max (fun g => g = 0 ∨ ∃ (c : Int) (s t : Nat), 0 ≤ c ∧ c < n ∧ s ≤ t ∧ t ≤ l.length ∧ Free l c s t ∧ t - s = g) (.inl rfl) l.length
  exact ⟨g, ⟨fun c s t hc hn hs ht hf => h3 _ (by omega) (.inr ⟨c, s, t, hc, hn, hs, ht, hf, rfl⟩), h2⟩, h1⟩
theorem Gap.le {l : List Int} {n : Int} {g : Nat} (h : Gap l n g) : g ≤ l.length := by
  rcases h.some with h | ⟨c, s, t, _, _, _, ht, _, e⟩ <;> omega
theorem Gap.one {l : List Int} {n : Int} {g g' : Nat} (h : Gap l n g) (k : Gap l n g') : g = g' := by
  have a : g ≤ g' := by
    rcases h.some with e | ⟨c, s, t, hc, hn, hs, ht, hf, e⟩
    · omega
    · have := k.most c s t hc hn hs ht hf; omega
  have b : g' ≤ g := by
    rcases k.some with e | ⟨c, s, t, hc, hn, hs, ht, hf, e⟩
    · omega
    · have := h.most c s t hc hn hs ht hf; omega
  omega
theorem gap_none (l : List Int) (n : Int) (h : n < 1) : Gap l n 0 := ⟨fun c s t hc hn => by omega, .inl rfl⟩
/-- Of fewer cores the piece is no longer. -/
theorem Gap.less {l : List Int} {n m : Int} {g g' : Nat} (h : Gap l n g) (k : Gap l m g') (hm : m ≤ n) : g' ≤ g := by
  rcases k.some with e | ⟨c, s, t, hc, hn, hs, ht, hf, e⟩
  · omega
  · have := h.most c s t hc (by omega) hs ht hf; omega
/-- As many unlike cores want as many picks. -/
theorem pigeon (n : Nat) (l : List Int) (h : ∀ c : Nat, c < n → (c : Int) ∈ l) : n ≤ l.length := by
  induction n generalizing l with
  | zero => omega
  | succ n ih =>
    have hn := h n (by omega)
    have := ih (l.erase (n : Int)) (fun c hc => (List.mem_erase_of_ne (by omega)).2 (h c (by omega)))
    rw [List.length_erase_of_mem hn] at this
    have : 0 < l.length := List.length_pos_of_mem hn
    omega
theorem gap_many (l : List Int) (n : Int) (h : (l.length : Int) < n) : Gap l n l.length := by
  refine ⟨fun c s t _ _ _ ht _ => by omega, ?_⟩
  by_cases ex : ∃ c : Nat, c < n.toNat ∧ (c : Int) ∉ l
  · obtain ⟨c, hc, hm⟩ := ex
    refine .inr ⟨c, 0, l.length, by omega, by omega, by omega, by omega, fun j _ hj e => hm ?_, rfl⟩
    rw [← e]
    simp [List.getD, hj]
  · have := pigeon n.toNat l (fun c hc => by
      by_cases h : (c : Int) ∈ l
      · exact h
      · exact absurd ⟨c, hc, h⟩ ex)
    omega

/-! ### How the program finds it -/
/-- Behind k picks: p is the place behind the last pick of c. -/
structure Behind (l : List Int) (c : Int) (p k : Nat) : Prop where
  le : p ≤ k
  free : Free l c p k
  last : p = 0 ∨ l.getD (p - 1) 0 = c
theorem behind_zero (l : List Int) (c : Int) : Behind l c 0 0 := ⟨Nat.le_refl _, fun j _ h => by omega, .inl rfl⟩
theorem Behind.other {l : List Int} {c : Int} {p k : Nat} (h : Behind l c p k) (hne : l.getD k 0 ≠ c) : Behind l c p (k + 1) :=
  ⟨by have := h.le; omega, fun j h1 h2 => by by_cases e : j = k; · subst e; exact hne
                                             · exact h.free j h1 (by omega), h.last⟩
theorem behind_new {l : List Int} {c : Int} {k : Nat} (h : l.getD k 0 = c) : Behind l c (k + 1) (k + 1) := ⟨Nat.le_refl _, fun j _ h => by omega, .inr (by simpa using h)⟩
/-- A piece without c that begins ahead of the last pick ends there. -/
theorem Behind.ends {l : List Int} {c : Int} {p k s t : Nat} (h : Behind l c p k) (hf : Free l c s t) (hs : s < p) : t < p := by
  rcases h.last with h0 | h0
  · omega
  · by_cases e : t < p
    · exact e
    · exact absurd h0 (hf (p - 1) (by omega) (by omega))
structure WInv (l : List Int) (n k : Nat) (nx : List Int) (g : Nat) : Prop where
  len : nx.length = n
  at_ : ∀ c, c < n → ∃ p : Nat, nx.getD c 0 = p ∧ Behind l c p k ∧ ∀ s t, s ≤ t → t < p → Free l c s t → t - s ≤ g
  some : g = 0 ∨ ∃ (c : Int) (s t : Nat), 0 ≤ c ∧ c < n ∧ s ≤ t ∧ t ≤ k ∧ Free l c s t ∧ t - s = g
theorem winv_zero (l : List Int) (n : Nat) : WInv l n 0 (List.replicate n 0) 0 :=
  ⟨by simp, fun c hc => ⟨0, by simp [List.getD, hc], behind_zero l c, fun s t h1 h2 _ => by omega⟩, .inl rfl⟩
theorem WInv.bounds {l : List Int} {n k : Nat} {nx : List Int} {g : Nat} (h : WInv l n k nx g) (c : Nat) (hc : c < n) : 0 ≤ nx.getD c 0 ∧ nx.getD c 0 ≤ k := by
  obtain ⟨p, e, hb, _⟩ := h.at_ c hc
  have := hb.le
  omega
theorem WInv.gle {l : List Int} {n k : Nat} {nx : List Int} {g : Nat} (h : WInv l n k nx g) : g ≤ k := by
  rcases h.some with h | ⟨c, s, t, _, _, _, ht, _, e⟩ <;> omega
theorem WInv.skip {l : List Int} {n k : Nat} {nx : List Int} {g : Nat} (h : WInv l n k nx g) (hx : ¬ (0 ≤ l.getD k 0 ∧ l.getD k 0 < n)) : WInv l n (k + 1) nx g := by
  refine ⟨h.len, fun c hc => ?_, ?_⟩
  · obtain ⟨p, e, hb, hs⟩ := h.at_ c hc
    exact ⟨p, e, hb.other (fun e => hx (by omega)), hs⟩
  · rcases h.some with e | ⟨c, s, t, a1, a2, a3, a4, a5, a6⟩
    · exact .inl e
    · exact .inr ⟨c, s, t, a1, a2, a3, by omega, a5, a6⟩
theorem WInv.take {l : List Int} {n k c0 : Nat} {nx : List Int} {g g' p0 : Nat} (h : WInv l n k nx g) (hc0 : c0 < n) (hx : l.getD k 0 = c0) (hp : nx.getD c0 0 = p0) (hg : g' = max g (k - p0)) : WInv l n (k + 1) (nx.set c0 ((k : Int) + 1)) g' := by
  obtain ⟨p1, e1, hb1, hs1⟩ := h.at_ c0 hc0
  have e2 : p1 = p0 := by omega
  subst e2
  have hl := h.len
  refine ⟨by simpa using hl, fun c hc => ?_, ?_⟩
  · by_cases e : c = c0
    · subst e
      refine ⟨k + 1, by simp [List.getD, hl, hc], behind_new hx, fun s t a1 a2 hf => ?_⟩
      by_cases hs : s < p1
      · have := hs1 s t a1 (hb1.ends hf hs) hf; omega
      · omega
    · obtain ⟨p, e3, hb, hs⟩ := h.at_ c hc
      refine ⟨p, by rw [← e3]; simp [List.getD, Ne.symm e], hb.other (by rw [hx]; omega), fun s t a1 a2 hf => ?_⟩
      have := hs s t a1 a2 hf; omega
  · by_cases e : g' = g
    · rw [e]
      rcases h.some with e | ⟨c, s, t, a1, a2, a3, a4, a5, a6⟩
      · exact .inl e
      · exact .inr ⟨c, s, t, a1, a2, a3, by omega, a5, a6⟩
    · have := hb1.le
      exact .inr ⟨c0, p1, k, by omega, by omega, this, by omega, hb1.free, by omega⟩
/-- At the end: with the least place of them all. -/
theorem WInv.gap {l : List Int} {n m : Nat} {nx : List Int} {g : Nat} (h : WInv l n l.length nx g) (hm : ∃ c, c < n ∧ nx.getD c 0 = m) (hl : ∀ c, c < n → (m : Int) ≤ nx.getD c 0) : Gap l n (max g (l.length - m)) := by
  refine ⟨fun c s t hc hn hs ht hf => ?_, ?_⟩
  · obtain ⟨i, rfl⟩ := Int.eq_ofNat_of_zero_le hc
    obtain ⟨p, e, hb, hp⟩ := h.at_ i (by omega)
    have := hl i (by omega)
    by_cases hsp : s < p
    · have := hp s t hs (hb.ends hf hsp) hf; omega
    · omega
  · obtain ⟨c, hc, e⟩ := hm
    obtain ⟨p, e2, hb, _⟩ := h.at_ c hc
    have hp : p = m := by omega
    subst hp
    by_cases hg : max g (l.length - p) = g
    · rw [hg]
      rcases h.some with e | ⟨c, s, t, a1, a2, a3, a4, a5, a6⟩
      · exact .inl e
      · exact .inr ⟨c, s, t, a1, a2, a3, a4, a5, a6⟩
    · exact .inr ⟨c, p, l.length, by omega, by omega, hb.le, Nat.le_refl _, hb.free, by omega⟩

/-! ### The document's way -/
/-- All pieces without c that end by k are shorter than w. -/
def Short (l : List Int) (c w : Int) (k : Nat) : Prop := ∀ s t : Nat, s ≤ t → t ≤ k → Free l c s t → ((t - s : Nat) : Int) < w
theorem short_zero (l : List Int) (c w : Int) (h : 1 ≤ w) : Short l c w 0 := fun s t _ _ _ => by omega
theorem Short.step {l : List Int} {c w : Int} {p k : Nat} (h : Short l c w k) (hb : Behind l c p (k + 1)) (hw : (k : Int) + 1 - p < w) : Short l c w (k + 1) := by
  intro s t hs ht hf
  by_cases e : t = k + 1
  · subst e
    by_cases hsp : s < p
    · have := hb.ends hf hsp; have := hb.le; omega
    · omega
  · exact h s t hs (by omega) hf
theorem fair_yes {l : List Int} {n w : Int} {g : Nat} (hg : Gap l n g) (h1 : 1 ≤ w) (h : ∀ c : Int, 0 ≤ c → c < n → Short l c w l.length) : (g : Int) + 1 ≤ w := by
  rcases hg.some with e | ⟨c, s, t, hc, hn, hs, ht, hf, e⟩
  · omega
  · have := h c hc hn s t hs ht hf; omega
theorem fair_no {l : List Int} {n w c : Int} {g p k : Nat} (hg : Gap l n g) (hc : 0 ≤ c) (hn : c < n) (hk : k < l.length) (hb : Behind l c p (k + 1)) (hw : ¬ ((k : Int) + 1 - p < w)) : w ≤ (g : Int) := by
  have := hg.most c p (k + 1) hc hn hb.le (by omega) hb.free
  omega

/-! ### How often a core is picked -/
def cnt (l : List Int) (c : Int) : Nat := l.countP fun x => x == c
def low (l : List Int) (c : Int) : Nat := l.countP fun x => decide (x < c)
theorem cnt_snoc (l : List Int) (x c : Int) : cnt (l ++ [x]) c = cnt l c + if x = c then 1 else 0 := by
  simp only [cnt, List.countP_append, List.countP_cons, List.countP_nil, beq_iff_eq, Nat.zero_add]
theorem cnt_append (l m : List Int) (c : Int) : cnt (l ++ m) c = cnt l c + cnt m c := by simp [cnt]
theorem cnt_le (l : List Int) (c : Int) : cnt l c ≤ l.length := List.countP_le_length
theorem low_step (l : List Int) (c : Int) : low l (c + 1) = low l c + cnt l c := by
  induction l with
  | nil => rfl
  | cons x r ih =>
    simp only [low, cnt, List.countP_cons, beq_iff_eq, decide_eq_true_eq] at ih ⊢
    rw [ih]
    split <;> split <;> (try split) <;> omega
theorem low_zero {l : List Int} (h : ∀ x ∈ l, 0 ≤ x) : low l 0 = 0 := by
  unfold low
  rw [List.countP_eq_zero]
  intro x hx
  have := h x hx
  simp; omega
theorem low_all {l : List Int} {n : Int} (h : ∀ x ∈ l, x < n) : low l n = l.length := by
  unfold low
  rw [List.countP_eq_length]
  intro x hx
  have := h x hx
  simp; omega
theorem low_le (l : List Int) (c : Int) : low l c ≤ l.length := List.countP_le_length

/-! ### Rounds -/
def rds (n k : Nat) : List Int := (List.range (n * k)).map fun i => ((i % n : Nat) : Int)
def rdsI (n k : Int) : List Int := if 1 ≤ n ∧ n ≤ 64 ∧ 1 ≤ k ∧ k ≤ 10000 then rds n.toNat k.toNat else []
def fst (n i : Nat) : List Int := (List.range i).map fun i => ((i % n : Nat) : Int)
theorem fst_snoc (n i : Nat) : fst n (i + 1) = fst n i ++ [((i % n : Nat) : Int)] := by simp [fst, List.range_succ]
theorem fst_len (n i : Nat) : (fst n i).length = i := by simp [fst]
theorem rds_fst (n k : Nat) : rds n k = fst n (n * k) := rfl
theorem rds_len (n k : Nat) : (rds n k).length = n * k := by simp [rds]
theorem rds_at (n k j : Nat) (h : j < n * k) : (rds n k).getD j 0 = ((j % n : Nat) : Int) := by simp [rds, List.getD, h]
theorem rds_ok (n k : Nat) (h1 : 1 ≤ n) (h2 : n ≤ 64) : okL (rds n k) n = true := by
  rw [okL_iff]
  refine ⟨by omega, by omega, fun x hx => ?_⟩
  simp only [rds, List.mem_map] at hx
  obtain ⟨i, _, rfl⟩ := hx
  have := Nat.mod_lt i h1
  omega
theorem cnt_range (n : Nat) (c : Nat) : ((List.range n).map fun i : Nat => (i : Int)).countP (fun x => x == (c : Int)) = if c < n then 1 else 0 := by
  induction n with
  | zero => simp
  | succ n ih =>
    rw [List.range_succ, List.map_append, List.countP_append, ih]
    simp only [List.map_cons, List.map_nil, List.countP_cons, List.countP_nil, beq_iff_eq]
    split <;> split <;> (try split) <;> omega
theorem rds_cnt (n k c : Nat) (hc : c < n) : cnt (rds n k) c = k := by
  induction k with
  | zero => simp [rds, cnt]
  | succ k ih =>
    have e : rds n (k + 1) = rds n k ++ (List.range n).map fun i : Nat => (i : Int) := by
      unfold rds
      rw [Nat.mul_succ, List.range_add, List.map_append]
      congr 1
      rw [List.map_map]
      refine List.map_congr_left fun i hi => ?_
      simp only [List.mem_range] at hi
      show (((n * k + i) % n : Nat) : Int) = i
      rw [Nat.mul_add_mod, Nat.mod_eq_of_lt hi]
    rw [e, cnt_append, ih]
    have := cnt_range n c
    rw [if_pos hc] at this
    simp only [cnt, this]
theorem rds_gap (n k : Nat) (h1 : 1 ≤ n) (hk : 1 ≤ k) : Gap (rds n k) n (n - 1) := by
  have hnk : n ≤ n * k := Nat.le_mul_of_pos_right n hk
  refine ⟨fun c s t hc hn hs ht hf => ?_, ?_⟩
  · rw [rds_len] at ht
    obtain ⟨i, rfl⟩ := Int.eq_ofNat_of_zero_le hc
    by_cases h : t - s ≤ n - 1
    · exact h
    · exfalso
      -- among n picks one behind the other one is the core's
      have hi : i < n := by omega
      have hm := Nat.mod_lt s h1
      have hd := Nat.div_add_mod s n
      by_cases hle : s % n ≤ i
      · have hj : s + (i - s % n) < t := by omega
        refine hf (s + (i - s % n)) (by omega) hj ?_
        rw [rds_at n k _ (by omega), show s + (i - s % n) = i + n * (s / n) by omega, Nat.add_mul_mod_self_left, Nat.mod_eq_of_lt hi]
      · have hj : s + (n + i - s % n) < t := by omega
        refine hf (s + (n + i - s % n)) (by omega) hj ?_
        rw [rds_at n k _ (by omega), show s + (n + i - s % n) = i + n * (s / n + 1) by rw [Nat.mul_add]; omega, Nat.add_mul_mod_self_left, Nat.mod_eq_of_lt hi]
  · by_cases h : n = 1
    · subst h; exact .inl rfl
    · refine .inr ⟨0, 1, n, by omega, by omega, by omega, by rw [rds_len]; exact hnk, fun j a1 a2 => ?_, rfl⟩
      rw [rds_at n k j (by omega), Nat.mod_eq_of_lt a2]
      omega
end Go.Proofs.YtaooijjppdfnfabDoor.Sc
