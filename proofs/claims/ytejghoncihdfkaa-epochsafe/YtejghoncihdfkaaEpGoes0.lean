/- With no core pinned, two advances let all go that waits (P11.6); a list that is full; one core that is pinned; no program. -/
import Derived.Test.YtejghoncihdfkaaEpSafe0
namespace Go.Proofs.Ytejghoncihdfkaa.Ep

/-- How far the epoch can have come. -/
theorem now_up {e : E} {k : Int} (a : Ac) (h : e.now ≤ 1 + k) : (doE e a).now ≤ 1 + (k + 1) := by
  rw [do_now]
  split <;> omega
theorem new_now {n : Int} (h : newE n = 0) : (newA n).now = 1 ∧ (newA n).pins = List.replicate n.toNat 0 ∧ (newA n).lim = List.replicate n.toNat [] ∧ (1 ≤ n ∧ n ≤ 64) := by
  have hn : 1 ≤ n ∧ n ≤ 64 := by
    unfold newE at h
    split at h
    · assumption
    · omega
  unfold newA
  rw [if_pos hn]
  exact ⟨rfl, rfl, rfl, hn⟩
theorem new_yes {n : Int} (h1 : 1 ≤ n) (h2 : n ≤ 64) : newE n = 0 := by unfold newE; rw [if_pos ⟨h1, h2⟩]
theorem new_len {n : Int} (h : newE n = 0) : ((newA n).pins.length : Int) = n := by
  obtain ⟨_, h2, _, h4⟩ := new_now h
  rw [h2]
  simp
  omega
/-! ### All go -/
/-- While cores are unpinned: those ahead of k are. -/
structure Un (e0 e : E) (k : Nat) : Prop where
  ok : Ok e
  now : e.now = e0.now
  lim : e.lim = e0.lim
  len : e.pins.length = e0.pins.length
  zero : ∀ d, d < k → d < e.pins.length → e.pins.getD d 0 = 0
theorem un_start {e : E} (h : Ok e) : Un e e 0 := ⟨h, rfl, rfl, rfl, fun d hd => absurd hd (by omega)⟩
theorem un_step {e0 e : E} {k : Nat} (h : Un e0 e k) (hk : k < e.pins.length) : Un e0 (unA e (k : Int)) (k + 1) := by
  have hok := ok_un (k : Int) h.ok
  have hlen := len_un e (k : Int)
  have hco : coB e (k : Int) = true := co_iff.2 ⟨h.ok, by omega, by omega⟩
  by_cases h0 : unE e (k : Int) = 0
  · have e1 : unA e (k : Int) = setP e (k : Int) 0 := by unfold unA; rw [if_pos h0]
    rw [e1] at hok hlen ⊢
    refine ⟨hok, h.now, h.lim, by rw [hlen]; exact h.len, fun d hd hdl => ?_⟩
    rw [hlen] at hdl
    simp only [setP]
    rw [set_get hdl]
    by_cases e2 : (k : Int).toNat = d
    · rw [if_pos e2]
    · rw [if_neg e2]; exact h.zero d (by simp at e2; omega) hdl
  · have e1 := un_same h0
    rw [e1]
    refine ⟨h.ok, h.now, h.lim, h.len, fun d hd hdl => ?_⟩
    by_cases e2 : d = k
    · subst e2
      apply Classical.byContradiction
      intro hn
      exact h0 (unE_zero.2 ⟨hco, by unfold pinOf; simpa using hn⟩)
    · exact h.zero d (by omega) hdl
/-- No core is pinned. -/
structure Zr (e : E) : Prop where
  ok : Ok e
  zero : ∀ d, d < e.pins.length → e.pins.getD d 0 = 0
theorem zr_un {e0 e : E} {k : Nat} (h : Un e0 e k) (hk : e.pins.length ≤ k) : Zr e := ⟨h.ok, fun d hd => h.zero d (by omega) hd⟩
theorem zr_ad {e : E} (h : Zr e) (hn : e.now < MaxE) : adB e = true ∧ adA e = ⟨e.now + 1, e.pins, e.lim⟩ ∧ Zr (adA e) := by
  have hb : adB e = true := ad_iff.2 ⟨h.ok, hn, fun c hc => .inl (h.zero c hc)⟩
  have e1 : adA e = ⟨e.now + 1, e.pins, e.lim⟩ := by unfold adA; rw [if_pos hb]
  refine ⟨hb, e1, ok_ad h.ok, ?_⟩
  rw [e1]
  exact h.zero
/-- While all that waits goes, core by core: L is what waited. -/
structure Gn (L : List (List W)) (e : E) (k : Nat) : Prop where
  ok : Ok e
  len : e.pins.length = L.length
  old : ∀ d, d < L.length → ∀ a ∈ L.getD d [], goes e a = true
  lim : ∀ d, d < L.length → e.lim.getD d [] = if d < k then [] else L.getD d []
theorem gn_start {e : E} (h : Ok e) (hg : ∀ d, d < e.lim.length → ∀ a ∈ e.lim.getD d [], goes e a = true) : Gn e.lim e 0 :=
  ⟨h, h.len.symm, hg, fun d _ => by simp⟩
theorem filter_all {e : E} {l : List W} (h : ∀ a ∈ l, goes e a = true) : l.filter (goes e) = l ∧ l.filter (fun a => !goes e a) = [] := by
  refine ⟨List.filter_eq_self.2 h, ?_⟩
  rw [List.filter_eq_nil_iff]
  intro a ha
  simp [h a ha]
theorem gn_step {L : List (List W)} {e : E} {k : Nat} (h : Gn L e k) (hk : k < L.length) :
    rpL e (k : Int) = (L.getD k []).map (·.1) ∧ (rpA e (k : Int)).lim.getD k [] = [] ∧ Gn L (rpA e (k : Int)) (k + 1) := by
  have hco : coB e (k : Int) = true := co_iff.2 ⟨h.ok, by omega, by rw [h.len]; omega⟩
  have hl : limOf e (k : Int) = L.getD k [] := by
    have := h.lim k hk
    rw [if_neg (by omega)] at this
    unfold limOf
    simpa using this
  obtain ⟨f1, f2⟩ := filter_all (h.old k hk)
  have e1 : rpA e (k : Int) = setL e (k : Int) [] := by unfold rpA; rw [if_pos hco, hl, f2]
  have hll : k < e.lim.length := by rw [h.ok.len, h.len]; exact hk
  refine ⟨by unfold rpL; rw [if_pos hco, hl, f1], ?_, ?_⟩
  · rw [e1]
    simp only [setL]
    rw [set_get hll]
    simp
  · have hok := ok_rp (k : Int) h.ok
    rw [e1] at hok ⊢
    refine ⟨hok, h.len, h.old, fun d hd => ?_⟩
    simp only [setL]
    rw [set_get (by rw [h.ok.len, h.len]; exact hd)]
    by_cases e2 : (k : Int).toNat = d
    · have : d = k := by simpa using e2.symm
      rw [if_pos e2, if_pos (by omega)]
    · have hne : ¬ d = k := by intro e; apply e2; simp [e]
      rw [if_neg e2, h.lim d hd]
      by_cases hdk : d < k
      · rw [if_pos hdk, if_pos (by omega)]
      · rw [if_neg hdk, if_neg (by omega)]
/-- THEY GO. -/
theorem all_go {e : E} (h : Zr e) (hn : e.now + 1 < MaxE) : adB e = true ∧ adB (adA e) = true ∧ (adA (adA e)).lim = e.lim ∧ (adA (adA e)).pins = e.pins ∧ Gn e.lim (adA (adA e)) 0 := by
  obtain ⟨a1, a2, a3⟩ := zr_ad h (by omega)
  obtain ⟨b1, b2, b3⟩ := zr_ad a3 (by rw [a2]; show e.now + 1 < MaxE; omega)
  rw [a2] at b2
  have e1 : (adA (adA e)).lim = e.lim := by rw [a2, b2]
  have e2 : (adA (adA e)).pins = e.pins := by rw [a2, b2]
  have e3 : (adA (adA e)).now = e.now + 2 := by rw [a2, b2]; show e.now + 1 + 1 = e.now + 2; omega
  refine ⟨a1, b1, e1, e2, ?_⟩
  have := gn_start b3.ok (by
    intro d hd a ha
    rw [e1] at hd ha
    have hw := h.ok.wait d (by rw [← h.ok.len]; exact hd)
    have := okW_iff.1 ((okL_iff.1 hw).2.1 a ha)
    unfold goes
    rw [e3]
    simp
    omega)
  rw [e1] at this
  exact this

/-! ### A list that is full -/
/-- i of the same wait for a core. -/
structure Fu (n : Nat) (c : Nat) (o : Int) (i : Nat) (e : E) : Prop where
  zr : Zr e
  now : e.now = 1
  len : e.pins.length = n
  lim : ∀ d, d < n → e.lim.getD d [] = if d = c then List.replicate i (o, 1) else []
theorem fu_start {n : Int} {c : Nat} (h : newE n = 0) (o : Int) : Fu n.toNat c o 0 (newA n) := by
  obtain ⟨h1, h2, h3, h4⟩ := new_now h
  refine ⟨⟨ok_new h, fun d hd => ?_⟩, h1, by rw [h2]; simp, fun d hd => ?_⟩
  · rw [h2] at hd ⊢
    simp only [List.length_replicate] at hd
    simp [List.getD, hd]
  · rw [h3]
    simp [List.getD, hd]
theorem fu_co {n c i : Nat} {o : Int} {e : E} (h : Fu n c o i e) {d : Nat} (hd : d < n) : coB e (d : Int) = true := co_iff.2 ⟨h.zr.ok, by omega, by rw [h.len]; omega⟩
theorem fu_lim {n c i : Nat} {o : Int} {e : E} (h : Fu n c o i e) {d : Nat} (hd : d < n) : limOf e (d : Int) = if d = c then List.replicate i (o, 1) else [] := by
  have := h.lim d hd
  unfold limOf
  simpa using this
theorem fu_step {n c i : Nat} {o : Int} {e : E} (h : Fu n c o i e) (hc : c < n) (hi : i < 8) (ho : 0 ≤ o ∧ o ≤ 63) : reE e (c : Int) o = 0 ∧ Fu n c o (i + 1) (reA e (c : Int) o) := by
  have hl := fu_lim h hc
  rw [if_pos rfl] at hl
  have h0 : reE e (c : Int) o = 0 := reE_zero.2 ⟨fu_co h hc, ho, by rw [hl]; simpa using hi⟩
  have e1 : reA e (c : Int) o = setL e (c : Int) (List.replicate (i + 1) (o, 1)) := by
    unfold reA
    rw [if_pos h0, hl, h.now, List.replicate_succ']
  refine ⟨h0, ?_⟩
  have hok := ok_re (c : Int) o h.zr.ok
  rw [e1] at hok ⊢
  refine ⟨⟨hok, h.zr.zero⟩, h.now, h.len, fun d hd => ?_⟩
  simp only [setL]
  rw [set_get (by rw [h.zr.ok.len, h.len]; exact hd)]
  by_cases e2 : (c : Int).toNat = d
  · have : d = c := by simpa using e2.symm
    rw [if_pos e2, if_pos this]
  · have : ¬ d = c := by intro e; apply e2; simp [e]
    rw [if_neg e2, if_neg this, h.lim d hd, if_neg this]
/-- AS MANY AS MAY: one more is refused, another core's is not. -/
theorem fu_full {n c : Nat} {o : Int} {e : E} (h : Fu n c o 8 e) (hc : c < n) (ho : 0 ≤ o ∧ o ≤ 63) : reE e (c : Int) o = 5 ∧ reA e (c : Int) o = e ∧ ∀ d, d < n → d ≠ c → reE e (d : Int) o = 0 := by
  have hl := fu_lim h hc
  rw [if_pos rfl] at hl
  have h5 : reE e (c : Int) o = 5 := by
    unfold reE
    rw [fu_co h hc, hl]
    simp [ho]
  refine ⟨h5, re_same (by rw [h5]; decide), fun d hd hne => ?_⟩
  have hl2 := fu_lim h hd
  rw [if_neg hne] at hl2
  exact reE_zero.2 ⟨fu_co h hd, ho, by rw [hl2]; decide⟩
theorem set_self {α : Type} (l : List α) (i : Nat) (d : α) (hi : i < l.length) : l.set i (l.getD i d) = l := by
  apply List.ext_getElem
  · simp
  · intro j h1 h2
    rw [List.getElem_set]
    split
    · rename_i e
      subst e
      simp [List.getD, hi]
    · rfl
/-- BEHIND ONE ADVANCE NONE GOES, BEHIND TWO ALL DO, AND THERE IS ROOM AGAIN. -/
theorem fu_room {n c : Nat} {o : Int} {e : E} (h : Fu n c o 8 e) (hc : c < n) (ho : 0 ≤ o ∧ o ≤ 63) :
    rpL (adA e) (c : Int) = [] ∧ (rpL (adA (rpA (adA e) (c : Int))) (c : Int)).length = 8 ∧ reE (rpA (adA (rpA (adA e) (c : Int))) (c : Int)) (c : Int) o = 0 := by
  have hl := fu_lim h hc
  rw [if_pos rfl] at hl
  obtain ⟨a1, a2, a3⟩ := zr_ad h.zr (by rw [h.now]; decide)
  have hlim1 : (adA e).lim = e.lim := by rw [a2]
  have hnow1 : (adA e).now = 2 := by rw [a2, h.now]; rfl
  have hlen1 : (adA e).pins.length = n := by rw [a2]; exact h.len
  have hco1 : coB (adA e) (c : Int) = true := co_iff.2 ⟨a3.ok, by omega, by rw [hlen1]; omega⟩
  have hl1 : limOf (adA e) (c : Int) = List.replicate 8 (o, 1) := by unfold limOf at hl ⊢; rw [hlim1]; exact hl
  have f1 : (List.replicate 8 ((o, 1) : W)).filter (goes (adA e)) = [] := by
    rw [List.filter_eq_nil_iff]
    intro a ha
    rw [List.eq_of_mem_replicate ha]
    unfold goes
    rw [hnow1]
    simp
  have f2 : (List.replicate 8 ((o, 1) : W)).filter (fun a => !goes (adA e) a) = List.replicate 8 (o, 1) := by
    rw [List.filter_eq_self]
    intro a ha
    rw [List.eq_of_mem_replicate ha]
    unfold goes
    rw [hnow1]
    simp
  have r1 : rpL (adA e) (c : Int) = [] := by unfold rpL; rw [if_pos hco1, hl1, f1]; rfl
  have r2 : rpA (adA e) (c : Int) = adA e := by
    unfold rpA
    rw [if_pos hco1, hl1, f2]
    have := set_self (adA e).lim c [] (by rw [a3.ok.len, hlen1]; exact hc)
    have hg : (adA e).lim.getD c [] = List.replicate 8 (o, 1) := by unfold limOf at hl1; simpa using hl1
    rw [hg] at this
    unfold setL
    simp only [Int.toNat_natCast]
    rw [this]
  refine ⟨r1, ?_⟩
  rw [r2]
  obtain ⟨b1, b2, b3⟩ := zr_ad a3 (by rw [hnow1]; decide)
  have hnow2 : (adA (adA e)).now = 3 := by rw [b2, hnow1]; rfl
  have hlim2 : (adA (adA e)).lim = (adA e).lim := by rw [b2]
  have hlen2 : (adA (adA e)).pins.length = n := by rw [b2]; exact hlen1
  have hco2 : coB (adA (adA e)) (c : Int) = true := co_iff.2 ⟨b3.ok, by omega, by rw [hlen2]; omega⟩
  have hl2 : limOf (adA (adA e)) (c : Int) = List.replicate 8 (o, 1) := by unfold limOf at hl1 ⊢; rw [hlim2]; exact hl1
  have ha : ∀ a ∈ List.replicate 8 ((o, 1) : W), goes (adA (adA e)) a = true := by
    intro a ha
    rw [List.eq_of_mem_replicate ha]
    unfold goes
    rw [hnow2]
    simp
  obtain ⟨f3, f4⟩ := filter_all ha
  have r3 : rpA (adA (adA e)) (c : Int) = setL (adA (adA e)) (c : Int) [] := by unfold rpA; rw [if_pos hco2, hl2, f4]
  refine ⟨by unfold rpL; rw [if_pos hco2, hl2, f3]; simp, ?_⟩
  have hok := ok_rp (c : Int) b3.ok
  rw [r3] at hok ⊢
  refine reE_zero.2 ⟨co_iff.2 ⟨hok, by omega, by show (c : Int) < ((adA (adA e)).pins.length : Int); rw [hlen2]; omega⟩, ho, ?_⟩
  unfold limOf
  simp only [setL]
  rw [set_get (by rw [b3.ok.len, hlen2]; simpa using hc)]
  simp

/-! ### One core that is pinned -/
/-- All pins but one are 0. -/
structure On (n c : Nat) (p : Int) (e : E) : Prop where
  ok : Ok e
  len : e.pins.length = n
  pin : ∀ d, d < n → e.pins.getD d 0 = if d = c then p else 0
theorem on_start {n : Int} (c : Nat) (h : newE n = 0) : On n.toNat c 0 (newA n) := by
  obtain ⟨h1, h2, h3, h4⟩ := new_now h
  refine ⟨ok_new h, by rw [h2]; simp, fun d hd => ?_⟩
  rw [h2]
  simp [List.getD, hd]
theorem on_co {n c : Nat} {p : Int} {e : E} (h : On n c p e) (hc : c < n) : coB e (c : Int) = true ∧ pinOf e (c : Int) = p := by
  refine ⟨co_iff.2 ⟨h.ok, by omega, by rw [h.len]; omega⟩, ?_⟩
  have := h.pin c hc
  rw [if_pos rfl] at this
  unfold pinOf
  simpa using this
theorem on_set {n c : Nat} {p : Int} {e : E} (h : On n c p e) (q : Int) (hq : okP e.now q = true) : On n c q (setP e (c : Int) q) := by
  refine ⟨ok_setP h.ok hq, by simpa [setP] using h.len, fun d hd => ?_⟩
  simp only [setP]
  rw [set_get (by rw [h.len]; exact hd)]
  by_cases e2 : (c : Int).toNat = d
  · have : d = c := by simpa using e2.symm
    rw [if_pos e2, if_pos this]
  · have : ¬ d = c := by intro e; apply e2; simp [e]
    rw [if_neg e2, if_neg this, h.pin d hd, if_neg this]
theorem on_pin {n c : Nat} {e : E} (h : On n c 0 e) (hc : c < n) : pinE e (c : Int) = 0 ∧ On n c (e.now + 1) (pinA e (c : Int)) ∧ (pinA e (c : Int)).now = e.now := by
  obtain ⟨h1, h2⟩ := on_co h hc
  have h0 : pinE e (c : Int) = 0 := pinE_zero.2 ⟨h1, h2⟩
  have e1 : pinA e (c : Int) = setP e (c : Int) (e.now + 1) := by unfold pinA; rw [if_pos h0]
  rw [e1]
  exact ⟨h0, on_set h _ (okP_iff.2 (by omega)), rfl⟩
theorem on_there {n c : Nat} {p : Int} {e : E} (h : On n c p e) (hc : c < n) (hp : p ≠ 0) : pinE e (c : Int) = 8 := by
  obtain ⟨h1, h2⟩ := on_co h hc
  unfold pinE
  rw [if_pos h1, h2, if_neg hp]
theorem on_un {n c : Nat} {p : Int} {e : E} (h : On n c p e) (hc : c < n) (hp : p ≠ 0) : unE e (c : Int) = 0 ∧ On n c 0 (unA e (c : Int)) ∧ (unA e (c : Int)).now = e.now := by
  obtain ⟨h1, h2⟩ := on_co h hc
  have h0 : unE e (c : Int) = 0 := unE_zero.2 ⟨h1, by rw [h2]; exact hp⟩
  have e1 : unA e (c : Int) = setP e (c : Int) 0 := by unfold unA; rw [if_pos h0]
  rw [e1]
  exact ⟨h0, on_set h _ (okP_iff.2 (by omega)), rfl⟩
theorem on_none {n c : Nat} {e : E} (h : On n c 0 e) (hc : c < n) : unE e (c : Int) = 7 := by
  obtain ⟨h1, h2⟩ := on_co h hc
  unfold unE
  rw [if_pos h1, h2]
  rfl
theorem on_ad {n c : Nat} {p : Int} {e : E} (h : On n c p e) (hn : e.now < MaxE) (hp : p = 0 ∨ p = e.now + 1) : adB e = true ∧ On n c p (adA e) ∧ (adA e).now = e.now + 1 := by
  have hb : adB e = true := by
    refine ad_iff.2 ⟨h.ok, hn, fun d hd => ?_⟩
    rw [h.len] at hd
    rw [h.pin d hd]
    split
    · exact hp
    · exact .inl rfl
  have e1 : adA e = ⟨e.now + 1, e.pins, e.lim⟩ := by unfold adA; rw [if_pos hb]
  have hok := ok_ad h.ok
  rw [e1] at hok ⊢
  exact ⟨hb, ⟨hok, h.len, h.pin⟩, rfl⟩
theorem on_stuck {n c : Nat} {p : Int} {e : E} (h : On n c p e) (hc : c < n) (hp : p ≠ 0) (hq : p ≠ e.now + 1) : adB e = false ∧ adA e = e := by
  have hb : adB e = false := by
    cases hh : adB e with
    | false => rfl
    | true =>
      obtain ⟨_, _, h3⟩ := ad_iff.1 hh
      have := h3 c (by rw [h.len]; exact hc)
      rw [h.pin c hc, if_pos rfl] at this
      omega
  exact ⟨hb, by unfold adA; rw [hb]; rfl⟩
end Go.Proofs.Ytejghoncihdfkaa.Ep
