/- As the tree; for good; those above are older; in two parts. Without any program. -/
import Derived.Test.YtcldnacpddebcaaPkA
import Derived.Test.YtcldnacpddebcaaGhTr
namespace Go.Proofs.Ytcldnacpddebcaa.Gh
open Go.Proofs.Ytcldnacpddebcaa.Tr

theorem whB_has {g : Gt} (h : Ok g) (k : P) : whB g k = hasG g k := by
  unfold whB hasG
  cases hk : fk k g.ks with
  | none => rw [who_no hk]; rfl
  | some i => rw [who_at h hk]; rfl
theorem has_born {g : Gt} {k : P} {v w : Int} (hn : fk k g.ks = none) (o : P) : hasG ⟨g.ks ++ [k], g.is ++ [v], g.fr ++ [w]⟩ o = (decide (o = k) || hasG g o) := by
  unfold hasG
  simp only [fk_app hn]
  by_cases e : o = k
  · simp [e]
  · simp [e]
theorem hasG_move {g : Gt} (h : Ok g) {f k : P} {i : Nat} (hf : fk f g.ks = some i) (hn : fk k g.ks = none) (o : P) : hasG ⟨g.ks.set i k, g.is, g.fr⟩ o = if o = k then true else if o = f then false else hasG g o := by
  unfold hasG
  simp only [fk_set h.kun hf hn]
  by_cases e : o = k
  · simp [e]
  · by_cases e2 : o = f
    · rw [if_neg e, if_pos e2, if_neg e, if_pos e2]
      rfl
    · simp [e, e2]
theorem hasG_die {g : Gt} (h : Ok g) {k : P} {i : Nat} (hk : fk k g.ks = some i) (o : P) : hasG ⟨g.ks.eraseIdx i, g.is.eraseIdx i, g.fr⟩ o = (decide (o ≠ k) && hasG g o) := by
  unfold hasG
  simp only [fk_er h.kun hk]
  by_cases e : o = k
  · simp [e]
  · simp [e]
/-- WHAT A TREE AND A GHOST HAVE IN COMMON. -/
structure Rel (t : List Br) (g : Gt) : Prop where
  tr : Tree t
  ok : Ok g
  has : ∀ o, hasK t o = hasG g o
  len : g.ks.length = t.length
  ds : ∀ a b, dsB t a b = dsG g a b
theorem rel_nil : Rel [] g0 := ⟨tree_nil, ok_nil, fun o => rfl, rfl, fun a b => by
  rw [des_gone tree_nil (.inl rfl), ds_gone (.inl rfl)]⟩
def trE (t : List Br) (x : Bi) : Int := if x.kind = 1 then roE t x.key else if x.kind = 2 then inE t x.fm x.key else if x.kind = 3 then moE t x.fm x.key else if x.kind = 4 then reE t x.key else 2
def trA (t : List Br) (x : Bi) : List Br := if x.kind = 1 then roA t x.key else if x.kind = 2 then inA t x.fm x.key else if x.kind = 3 then moA t x.fm x.key else if x.kind = 4 then reA t x.key else t
theorem fk_of {t : List Br} {g : Gt} (h : Rel t g) {k : P} (hk : fd k t = none) : fk k g.ks = none := has_n (by rw [← h.has]; simp [hasK, hk])
theorem fk_is {t : List Br} {g : Gt} (h : Rel t g) {k : P} {i : Nat} (hk : fd k t = some i) : ∃ j, fk k g.ks = some j := has_i (by rw [← h.has]; exact has_of hk)
/-- AS THE TREE. -/
theorem rel_step {t : List Br} {g : Gt} (h : Rel t g) (hm : g.fr.length < 4096) (x : Bi) (e : trE t x = 0) : adE g x = 0 ∧ Rel (trA t x) (adA g x) ∧ (adA g x).fr.length ≤ g.fr.length + 1 := by
  have ho : okB g = true := okB_iff.2 h.ok
  unfold trE at e
  by_cases k1 : x.kind = 1
  · rw [if_pos k1] at e
    have hA : trA t x = roA t x.key := by unfold trA; rw [if_pos k1]
    obtain ⟨ht, hk, hn, hl, eA⟩ := ro_ok e
    have hnk := fk_of h hn
    have hE : adE g x = 0 := by
      have h1 : two x = false := by simp [two, k1]
      have h2 : hasG g x.key = false := by simp [hasG, hnk]
      simp [adE, ho, k1, hk, h1, h2]
      omega
    obtain ⟨_, _, hd⟩ := ad_did hE
    rcases hd with ⟨_, _, eG, _⟩ | ⟨hk', _⟩ | ⟨hk', _⟩ | ⟨hk', _⟩
    · refine ⟨hE, ⟨by rw [hA]; exact ro_tree ht, ad_ok h.ok x, fun o => ?_, ?_, fun a b => ?_⟩, by rw [eG]; simp⟩
      · rw [hA, eA, eG, has_ins (Nat.le_refl _) hn, has_born hnk, h.has]
      · rw [hA, eA, eG, ins_len]; simp [h.len]
      · rw [hA, des_root e, eG, ds_root h.ok hnk, h.ds]
    · omega
    · omega
    · omega
  rw [if_neg k1] at e
  by_cases k2 : x.kind = 2
  · rw [if_pos k2] at e
    have hA : trA t x = inA t x.fm x.key := by unfold trA; rw [if_neg k1, if_pos k2]
    obtain ⟨i, hok, eA⟩ := in_ok e
    have hnk := fk_of h hok.non
    obtain ⟨j, hj⟩ := fk_is h hok.at'
    have hil := (fd_some.1 hok.at').1
    have hE : adE g x = 0 := by
      have h1 : two x = true := by simp [two, k2]
      have h2 : hasG g x.key = false := by simp [hasG, hnk]
      have h3 : hasG g x.fm = true := by simp [hasG, hj]
      simp [adE, ho, k2, hok.kk, hok.kf, h1, h2, h3]
      omega
    obtain ⟨_, _, hd⟩ := ad_did hE
    rcases hd with ⟨hk', _⟩ | ⟨_, i', hf', _, eG, _⟩ | ⟨hk', _⟩ | ⟨hk', _⟩
    · omega
    · refine ⟨hE, ⟨by rw [hA]; exact in_keep hok.tree, ad_ok h.ok x, fun o => ?_, ?_, fun a b => ?_⟩, by rw [eG]; simp⟩
      · rw [hA, eA, eG, has_ins (by omega) hok.non, has_born hnk, h.has]
      · rw [hA, eA, eG, ins_len]; simp [h.len]
      · rw [hA, des_insert e, eG, ds_der h.ok hf' hnk, h.ds, h.ds]
    · omega
    · omega
  rw [if_neg k2] at e
  by_cases k3 : x.kind = 3
  · rw [if_pos k3] at e
    have hA : trA t x = moA t x.fm x.key := by unfold trA; rw [if_neg k1, if_neg k2, if_pos k3]
    obtain ⟨i, ht, hk, hf, hn, eA⟩ := mo_ok e
    have hnk := fk_of h hn
    obtain ⟨j, hj⟩ := fk_is h hf
    have hkf : okK x.fm = true := by
      have := (fd_some.1 hf)
      rw [← this.2.1]
      exact ((tree_gd.1 ht).2 i this.1).key
    have hE : adE g x = 0 := by
      have h1 : two x = true := by simp [two, k3]
      have h2 : hasG g x.key = false := by simp [hasG, hnk]
      have h3 : hasG g x.fm = true := by simp [hasG, hj]
      simp [adE, ho, k3, hk, hkf, h1, h2, h3]
    obtain ⟨_, _, hd⟩ := ad_did hE
    rcases hd with ⟨hk', _⟩ | ⟨hk', _⟩ | ⟨_, i', hf', _, eG⟩ | ⟨hk', _⟩
    · omega
    · omega
    · have hfk : x.fm ≠ x.key := by
        intro e2
        rw [e2, hnk] at hf'
        cases hf'
      have hu : Tree (moA t x.fm x.key) := mo_tree ht
      refine ⟨hE, ⟨by rw [hA]; exact hu, ad_ok h.ok x, fun o => ?_, ?_, fun a b => ?_⟩, by rw [eG]; simp⟩
      · rw [hA, eG, has_move e, hasG_move h.ok hf' hnk, h.has]
      · rw [hA, eA, eG]; simp [h.len]
      · rw [hA, eG]
        have back : ∀ o, hasK (moA t x.fm x.key) o = true → ∃ p, p ≠ x.key ∧ o = if p = x.fm then x.key else p := fun o hh => by
          rw [has_move e] at hh
          by_cases e1 : o = x.key
          · exact ⟨x.fm, hfk, by rw [if_pos rfl]; exact e1⟩
          · rw [if_neg e1] at hh
            by_cases e2 : o = x.fm
            · rw [if_pos e2] at hh; cases hh
            · exact ⟨o, e1, by rw [if_neg e2]⟩
        have hg : ∀ o, hasK (moA t x.fm x.key) o = false → who ⟨g.ks.set i' x.key, g.is, g.fr⟩ o = none := fun o hh => by
          have h1 : hasG ⟨g.ks.set i' x.key, g.is, g.fr⟩ o = false := by rw [hasG_move h.ok hf' hnk, ← h.has, ← has_move e]; exact hh
          exact who_no (has_n h1)
        cases ha : hasK (moA t x.fm x.key) a with
        | false => rw [des_gone hu (.inl ha), ds_gone (.inl (hg a ha))]
        | true =>
          cases hb : hasK (moA t x.fm x.key) b with
          | false => rw [des_gone hu (.inr hb), ds_gone (.inr (hg b hb))]
          | true =>
            obtain ⟨p, hp, rfl⟩ := back a ha
            obtain ⟨q, hq, rfl⟩ := back b hb
            have h1 := (mo_des ht e hp hq).1
            unfold rn at h1
            rw [h1, ds_move h.ok hf' hnk hp hq, h.ds]
    · omega
  rw [if_neg k3] at e
  by_cases k4 : x.kind = 4
  · rw [if_pos k4] at e
    have hA : trA t x = reA t x.key := by unfold trA; rw [if_neg k1, if_neg k2, if_neg k3, if_pos k4]
    obtain ⟨i, ht, hk, hf, hc, eA⟩ := re_ok e
    obtain ⟨j, hj⟩ := fk_is h hf
    have hil := (fd_some.1 hf).1
    have hE : adE g x = 0 := by
      have h1 : two x = false := by simp [two, k4]
      have h3 : hasG g x.key = true := by simp [hasG, hj]
      simp [adE, ho, k4, hk, h1, h3]
    obtain ⟨_, _, hd⟩ := ad_did hE
    rcases hd with ⟨hk', _⟩ | ⟨hk', _⟩ | ⟨hk', _⟩ | ⟨_, i', hf', eG⟩
    · omega
    · omega
    · omega
    · have hjl := (fk_some.1 hf').1
      refine ⟨hE, ⟨by rw [hA]; exact re_tree ht, ad_ok h.ok x, fun o => ?_, ?_, fun a b => ?_⟩, by rw [eG]; simp⟩
      · rw [hA, eG, has_remove e, hasG_die h.ok hf', h.has]
      · rw [hA, eA, eG]
        have h1 := len_er hjl
        have h2 : (del t i).length + 1 = t.length := by unfold del; simp; omega
        have h3 := h.len
        show (g.ks.eraseIdx i').length = (del t i).length
        omega
      · rw [hA, des_remove e, eG, ds_die h.ok hf', h.ds]
  · rw [if_neg k4] at e
    cases e
theorem tr_no {t : List Br} {x : Bi} (e : trE t x ≠ 0) : trA t x = t := by
  unfold trE at e
  unfold trA
  split
  · rename_i k; rw [if_pos k] at e; unfold roA; rw [if_neg e]
  · rename_i k; rw [if_neg k] at e
    split
    · rename_i k; rw [if_pos k] at e; unfold inA; rw [if_neg e]
    · rename_i k; rw [if_neg k] at e
      split
      · rename_i k; rw [if_pos k] at e; unfold moA; rw [if_neg e]
      · rename_i k; rw [if_neg k] at e
        split
        · rename_i k; rw [if_pos k] at e; unfold reA; rw [if_neg e]
        · rfl
/-- What GhostTree holds: the tree, what befell, the ghost of it. -/
structure Tg (t : List Br) (d : List Bi) : Prop where
  rel : Rel t (rnA d)
  all : rnN d = 0
  few : (rnA d).fr.length ≤ d.length
theorem tg_nil : Tg [] [] := ⟨rel_nil, rfl, Nat.le_refl _⟩
theorem tg_yes {t : List Br} {d : List Bi} (h : Tg t d) (hd : d.length ≤ 4000) {x : Bi} (e : trE t x = 0) : Tg (trA t x) (d ++ [x]) := by
  obtain ⟨h1, h2, h3⟩ := rel_step h.rel (by have := h.few; omega) x e
  refine ⟨by rw [rn_snoc]; exact h2, by rw [rnN_snoc, h.all, h1]; simp, ?_⟩
  rw [rn_snoc]
  have := h.few
  simp
  omega
/-! ### For good -/
/-- Its name behind x. -/
def na (x : Bi) (a : P) : P := if x.kind = 3 ∧ x.fm = a then x.key else a
theorem stay_die {g : Gt} {x : Bi} {a b : P} (e : adE g x = 0) (hk : x.kind = 4) (hab : x.key = a ∨ x.key = b) : dsG (adA g x) a b = false := by
  obtain ⟨ho, _, hd⟩ := ad_did e
  rcases hd with ⟨hk', _⟩ | ⟨hk', _⟩ | ⟨hk', _⟩ | ⟨_, i, hf, eG⟩
  · omega
  · omega
  · omega
  · rw [eG, ds_die ho hf, if_pos (hab.elim (fun e => .inl e.symm) (fun e => .inr e.symm))]
theorem stay {g : Gt} {x : Bi} {a b : P} (e : adE g x = 0) (ha : hasG g a = true) (hb : hasG g b = true) (hn : ¬ (x.kind = 4 ∧ (x.key = a ∨ x.key = b))) : hasG (adA g x) (na x a) = true ∧ hasG (adA g x) (na x b) = true ∧ dsG (adA g x) (na x a) (na x b) = dsG g a b := by
  obtain ⟨ho, _, hd⟩ := ad_did e
  rcases hd with ⟨hk, hnk, eG, _⟩ | ⟨hk, i, hf, hnk, eG, _⟩ | ⟨hk, i, hf, hnk, eG⟩ | ⟨hk, i, hf, eG⟩
  · have en : ∀ o, na x o = o := fun o => if_neg (by omega)
    have ea : a ≠ x.key := by rintro rfl; simp [hasG, hnk] at ha
    have eb : b ≠ x.key := by rintro rfl; simp [hasG, hnk] at hb
    rw [en, en, eG, has_born hnk, has_born hnk, ha, hb, ds_root ho hnk, if_neg (by rintro (q | q); exact ea q; exact eb q)]
    simp
  · have en : ∀ o, na x o = o := fun o => if_neg (by omega)
    have ea : a ≠ x.key := by rintro rfl; simp [hasG, hnk] at ha
    have eb : b ≠ x.key := by rintro rfl; simp [hasG, hnk] at hb
    rw [en, en, eG, has_born hnk, has_born hnk, ha, hb, ds_der ho hf hnk, if_neg eb, if_neg ea]
    simp
  · have ea : a ≠ x.key := by rintro rfl; simp [hasG, hnk] at ha
    have eb : b ≠ x.key := by rintro rfl; simp [hasG, hnk] at hb
    have en : ∀ o, na x o = if o = x.fm then x.key else o := fun o => by
      unfold na
      by_cases q : x.fm = o
      · rw [if_pos ⟨hk, q⟩, if_pos q.symm]
      · rw [if_neg (fun h => q h.2), if_neg (Ne.symm q)]
    have hh : ∀ o, hasG g o = true → o ≠ x.key → hasG ⟨g.ks.set i x.key, g.is, g.fr⟩ (if o = x.fm then x.key else o) = true := fun o h1 h2 => by
      rw [hasG_move ho hf hnk]
      by_cases q : o = x.fm
      · rw [if_pos q, if_pos rfl]
      · rw [if_neg q, if_neg h2, if_neg q]; exact h1
    rw [en, en, eG]
    exact ⟨hh a ha ea, hh b hb eb, ds_move ho hf hnk ea eb⟩
  · have en : ∀ o, na x o = o := fun o => if_neg (by omega)
    have ea : a ≠ x.key := fun q => hn ⟨hk, .inl q.symm⟩
    have eb : b ≠ x.key := fun q => hn ⟨hk, .inr q.symm⟩
    rw [en, en, eG, hasG_die ho hf, hasG_die ho hf, ha, hb, ds_die ho hf, if_neg (by rintro (q | q); exact ea q; exact eb q)]
    simp [ea, eb]
/-! ### Those above are older -/
theorem up_dec {fr : List Int} : ∀ n i, i < (up fr n).length → (up fr n).getD i 0 < if i = 0 then n else (up fr n).getD (i - 1) 0 := by
  intro n
  induction n using Nat.strongRecOn with
  | ind n ih =>
    intro i hi
    by_cases h : 0 ≤ Ii fr n ∧ Ii fr n < n
    · obtain ⟨u, hu⟩ : ∃ u : Nat, Ii fr n = u := ⟨(Ii fr n).toNat, by omega⟩
      rw [up_yes hu (by omega)] at hi ⊢
      cases i with
      | zero => simp; omega
      | succ i =>
        have := ih u (by omega) i (by simpa using hi)
        rw [if_neg (by omega)]
        cases i with
        | zero => simpa using this
        | succ i => simpa using this
    · rw [up_no (by omega)] at hi
      simp at hi
theorem abv_dec {fr : List Int} {x : Int} (hx : 0 ≤ x) {i : Nat} (hi : i < (abv fr x).length) : Ii (abv fr x) i < if i = 0 then x else Ii (abv fr x) (i - 1) := by
  unfold abv at hi ⊢
  split at hi
  · rename_i h
    rw [if_pos h]
    simp only [List.length_map] at hi
    have g : ∀ j, j < (up fr x.toNat).length → Ii ((up fr x.toNat).map fun n : Nat => (n : Int)) j = ((up fr x.toNat).getD j 0 : Nat) := fun j hj => by
      simp [Ii, List.getD, hj]
    have := up_dec (fr := fr) x.toNat i hi
    rw [g i hi]
    by_cases q : i = 0
    · rw [if_pos q] at this ⊢; omega
    · rw [if_neg q] at this ⊢
      rw [g (i - 1) (by omega)]
      omega
  · simp at hi
end Go.Proofs.Ytcldnacpddebcaa.Gh
