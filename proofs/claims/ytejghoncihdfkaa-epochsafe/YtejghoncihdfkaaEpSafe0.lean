/- What was retired while a core was pinned is not reaped before that core is unpinned (P11.5); no program. -/
import Derived.Test.YtejghoncihdfkaaEpMath
namespace Go.Proofs.Ytejghoncihdfkaa.Ep

/-- One that waits: whose it is, its epoch, for whom it waits. -/
structure En where
  c : Int
  ep : Int
  see : List Bool
/-- Those of a core. -/
def mine (G : List En) (c : Int) : List Int := (G.filter (fun g => decide (g.c = c))).map (·.ep)
/-- WHAT IS KNOWN OF THOSE THAT WAIT. -/
structure Sf (e : E) (pd : List Bool) (G : List En) : Prop where
  ok : Ok e
  pdl : pd.length = e.pins.length
  pd : ∀ c, c < e.pins.length → (pd.getD c false = true ↔ e.pins.getD c 0 ≠ 0)
  lim : ∀ c : Nat, c < e.pins.length → (e.lim.getD c []).map (·.2) = mine G c
  seel : ∀ g ∈ G, g.see.length = e.pins.length
  see : ∀ g ∈ G, ∀ c, c < e.pins.length → g.see.getD c false = true → e.pins.getD c 0 ≠ 0 ∧ e.pins.getD c 0 ≤ g.ep + 1
theorem sf_new {n : Int} (h : newE n = 0) : Sf (newA n) (List.replicate n.toNat false) [] := by
  have hok := ok_new h
  have hn : 1 ≤ n ∧ n ≤ 64 := by
    unfold newE at h
    split at h
    · assumption
    · omega
  have e : newA n = ⟨1, List.replicate n.toNat 0, List.replicate n.toNat []⟩ := by unfold newA; rw [if_pos hn]
  refine ⟨hok, by rw [e]; simp, ?_, ?_, fun g hg => by simp at hg, fun g hg => by simp at hg⟩
  · intro c hc
    rw [e] at hc ⊢
    simp only [List.length_replicate] at hc
    simp [List.getD, hc]
  · intro c hc
    rw [e] at hc ⊢
    simp only [List.length_replicate] at hc
    simp [List.getD, hc, mine]
theorem sf_pin {e : E} {pd : List Bool} {G : List En} {c : Int} (h : Sf e pd G) (h0 : pinE e c = 0) : Sf (pinA e c) (pd.set c.toNat true) G := by
  obtain ⟨h1, h2⟩ := pinE_zero.1 h0
  obtain ⟨-, hc0, hc1⟩ := co_iff.1 h1
  have hok := ok_pin c h.ok
  have e1 : pinA e c = setP e c (e.now + 1) := by unfold pinA; rw [if_pos h0]
  rw [e1] at hok ⊢
  have hl : (setP e c (e.now + 1)).pins.length = e.pins.length := by simp [setP]
  refine ⟨hok, by rw [hl]; simpa using h.pdl, ?_, ?_, fun g hg => by rw [hl]; exact h.seel g hg, ?_⟩
  · intro k hk
    rw [hl] at hk
    simp only [setP]
    rw [set_get hk, set_get (by rw [h.pdl]; exact hk)]
    have := h.ok.now1
    by_cases e2 : c.toNat = k
    · rw [if_pos e2, if_pos e2]; simp; omega
    · rw [if_neg e2, if_neg e2]; exact h.pd k hk
  · intro k hk
    rw [hl] at hk
    exact h.lim k hk
  · intro g hg k hk hs
    rw [hl] at hk
    obtain ⟨a1, a2⟩ := h.see g hg k hk hs
    simp only [setP]
    rw [set_get hk]
    by_cases e2 : c.toNat = k
    · subst e2
      exact absurd h2 a1
    · rw [if_neg e2]; exact ⟨a1, a2⟩
/-- A core that is unpinned is waited for no more. -/
def unsee (c : Int) (g : En) : En := ⟨g.c, g.ep, g.see.set c.toNat false⟩
theorem mine_unsee (c d : Int) (G : List En) : mine (G.map (unsee c)) d = mine G d := by
  induction G with
  | nil => rfl
  | cons g r ih =>
    unfold mine at *
    simp only [List.map_cons, List.filter_cons]
    have : (unsee c g).c = g.c := rfl
    rw [this]
    split
    · simp only [List.map_cons, ih]; rfl
    · exact ih
theorem sf_un {e : E} {pd : List Bool} {G : List En} {c : Int} (h : Sf e pd G) (h0 : unE e c = 0) : Sf (unA e c) (pd.set c.toNat false) (G.map (unsee c)) := by
  obtain ⟨h1, h2⟩ := unE_zero.1 h0
  obtain ⟨-, hc0, hc1⟩ := co_iff.1 h1
  have hok := ok_un c h.ok
  have e1 : unA e c = setP e c 0 := by unfold unA; rw [if_pos h0]
  rw [e1] at hok ⊢
  have hl : (setP e c 0).pins.length = e.pins.length := by simp [setP]
  refine ⟨hok, by rw [hl]; simpa using h.pdl, ?_, ?_, ?_, ?_⟩
  · intro k hk
    rw [hl] at hk
    simp only [setP]
    rw [set_get hk, set_get (by rw [h.pdl]; exact hk)]
    by_cases e2 : c.toNat = k
    · rw [if_pos e2, if_pos e2]; simp
    · rw [if_neg e2, if_neg e2]; exact h.pd k hk
  · intro k hk
    rw [hl] at hk
    rw [mine_unsee]
    exact h.lim k hk
  · intro g hg
    obtain ⟨g0, hg0, rfl⟩ := List.mem_map.1 hg
    rw [hl]
    simpa [unsee] using h.seel g0 hg0
  · intro g hg k hk hs
    obtain ⟨g0, hg0, rfl⟩ := List.mem_map.1 hg
    rw [hl] at hk
    simp only [unsee] at hs ⊢
    rw [set_get (by rw [h.seel g0 hg0]; exact hk)] at hs
    simp only [setP]
    rw [set_get hk]
    by_cases e2 : c.toNat = k
    · rw [if_pos e2] at hs; cases hs
    · rw [if_neg e2] at hs ⊢
      exact h.see g0 hg0 k hk hs
theorem mine_app (G : List En) (g : En) (d : Int) : mine (G ++ [g]) d = mine G d ++ (if g.c = d then [g.ep] else []) := by
  unfold mine
  rw [List.filter_append, List.map_append]
  by_cases h : g.c = d
  · simp [h]
  · simp [h]
theorem sf_re {e : E} {pd : List Bool} {G : List En} {c o : Int} (h : Sf e pd G) (h0 : reE e c o = 0) : Sf (reA e c o) pd (G ++ [⟨c, e.now, pd⟩]) := by
  obtain ⟨h1, h2, h3⟩ := reE_zero.1 h0
  obtain ⟨-, hc0, hc1⟩ := co_iff.1 h1
  have hok := ok_re c o h.ok
  have e1 : reA e c o = setL e c (limOf e c ++ [(o, e.now)]) := by unfold reA; rw [if_pos h0]
  rw [e1] at hok ⊢
  refine ⟨hok, h.pdl, h.pd, ?_, ?_, ?_⟩
  · intro k hk
    have hk' : k < e.pins.length := hk
    simp only [setL]
    rw [set_get (by rw [h.ok.len]; exact hk'), mine_app]
    by_cases e2 : c.toNat = k
    · have : c = (k : Int) := by omega
      rw [if_pos e2, if_pos this]
      simp only [List.map_append, limOf, e2]
      rw [h.lim k hk']
      rfl
    · have : ¬ c = (k : Int) := by omega
      rw [if_neg e2, if_neg this, List.append_nil]
      exact h.lim k hk'
  · intro g hg
    rcases List.mem_append.1 hg with hg | hg
    · exact h.seel g hg
    · rw [List.mem_singleton.1 hg]; exact h.pdl
  · intro g hg k hk hs
    rcases List.mem_append.1 hg with hg | hg
    · exact h.see g hg k hk hs
    · rw [List.mem_singleton.1 hg] at hs ⊢
      have hk' : k < e.pins.length := hk
      have hp := h.pd k hk'
      simp only at hs
      have hp' : e.pins.getD k 0 ≠ 0 := hp.1 hs
      refine ⟨hp', ?_⟩
      have := pin_near h.ok hk'
      simp only [setL]
      omega
theorem sf_ad {e : E} {pd : List Bool} {G : List En} (h : Sf e pd G) : Sf (adA e) pd G := by
  have hok := ok_ad h.ok
  unfold adA at hok ⊢
  split
  · rename_i h0
    rw [if_pos h0] at hok
    exact ⟨hok, h.pdl, h.pd, h.lim, h.seel, h.see⟩
  · exact h
/-- One of them is taken out. -/
theorem mem_erase {G : List En} {i : Nat} {g : En} (h : g ∈ G.eraseIdx i) : g ∈ G := List.mem_of_mem_eraseIdx h
/-- While those of the core c that go are taken out, one behind the other: k of them are. -/
structure Rp (e : E) (pd : List Bool) (c : Int) (k : Nat) (G : List En) : Prop where
  ok : Ok e
  pdl : pd.length = e.pins.length
  pd : ∀ d, d < e.pins.length → (pd.getD d false = true ↔ e.pins.getD d 0 ≠ 0)
  co : 0 ≤ c ∧ c < e.pins.length
  lim : ∀ d : Nat, d < e.pins.length → mine G d = if (d : Int) = c then ((e.lim.getD d []).map (·.2)).drop k else (e.lim.getD d []).map (·.2)
  seel : ∀ g ∈ G, g.see.length = e.pins.length
  see : ∀ g ∈ G, ∀ d, d < e.pins.length → g.see.getD d false = true → e.pins.getD d 0 ≠ 0 ∧ e.pins.getD d 0 ≤ g.ep + 1
theorem rp_start {e : E} {pd : List Bool} {G : List En} {c : Int} (h : Sf e pd G) (hc : 0 ≤ c ∧ c < e.pins.length) : Rp e pd c 0 G :=
  ⟨h.ok, h.pdl, h.pd, hc, fun d hd => by rw [← h.lim d hd]; simp, h.seel, h.see⟩
/-- Where the first one of a core is. -/
def firstAt (c : Int) : List En → Nat
  | [] => 0
  | g :: r => if g.c = c then 0 else firstAt c r + 1
theorem first_le (c : Int) (G : List En) : firstAt c G ≤ G.length := by
  induction G with
  | nil => exact Nat.le_refl _
  | cons g r ih =>
    unfold firstAt
    split
    · exact Nat.zero_le _
    · simp; omega
theorem first_other {c : Int} {G : List En} {i : Nat} (h : i < firstAt c G) (g : En) (hg : G[i]? = some g) : g.c ≠ c := by
  induction G generalizing i with
  | nil => simp at hg
  | cons a r ih =>
    unfold firstAt at h
    split at h
    · omega
    · rename_i hne
      cases i with
      | zero => simp at hg; subst hg; exact hne
      | succ i => exact ih (i := i) (by omega) (by simpa using hg)
theorem first_at {c : Int} {G : List En} {x : Int} {r : List Int} (h : mine G c = x :: r) : ∃ g, G[firstAt c G]? = some g ∧ g.c = c ∧ g.ep = x ∧ mine (G.eraseIdx (firstAt c G)) c = r ∧ (∀ d, d ≠ c → mine (G.eraseIdx (firstAt c G)) d = mine G d) := by
  induction G with
  | nil => simp [mine] at h
  | cons a r' ih =>
    by_cases ha : a.c = c
    · have e : firstAt c (a :: r') = 0 := by simp [firstAt, ha]
      rw [e]
      unfold mine at h
      simp only [List.filter_cons, ha, decide_true, if_true, List.map_cons] at h
      obtain ⟨h1, h2⟩ := List.cons.inj h
      refine ⟨a, rfl, ha, h1, by simpa [mine] using h2, fun d hd => ?_⟩
      have : ¬ c = d := fun e => hd e.symm
      simp [mine, ha, this]
    · have e : firstAt c (a :: r') = firstAt c r' + 1 := by simp [firstAt, ha]
      rw [e]
      have h' : mine r' c = x :: r := by
        unfold mine at h ⊢
        simpa [List.filter_cons, ha] using h
      obtain ⟨g, g1, g2, g3, g4, g5⟩ := ih h'
      refine ⟨g, by simpa using g1, g2, g3, ?_, fun d hd => ?_⟩
      · simp only [List.eraseIdx_cons_succ]
        unfold mine at g4 ⊢
        simpa [List.filter_cons, ha] using g4
      · simp only [List.eraseIdx_cons_succ]
        have := g5 d hd
        unfold mine at this ⊢
        simp only [List.filter_cons]
        split
        · simp [this]
        · exact this
/-- Those that go are the first ones. -/
theorem goes_take {e : E} {l : List W} (h : nf l = true) : ∃ r, r = (l.filter (goes e)).length ∧ (∀ i, i < r → goes e (l.getD i (0, 0)) = true) ∧ l.filter (goes e) = l.take r ∧ l.filter (fun a => !goes e a) = l.drop r := by
  induction l with
  | nil => exact ⟨0, rfl, fun i hi => absurd hi (by omega), rfl, rfl⟩
  | cons a t ih =>
    have h' : nf t = true := by
      unfold nf at h
      rw [Bool.and_eq_true] at h
      exact h.2
    cases ha : goes e a with
    | true =>
      obtain ⟨r, hr, h1, h2, h3⟩ := ih h'
      refine ⟨r + 1, ?_, ?_, ?_, ?_⟩
      · simp [ha, ← hr]
      · intro i hi
        cases i with
        | zero => simpa [List.getD] using ha
        | succ i => simpa [List.getD] using h1 i (by omega)
      · simp [ha, h2]
      · simp [ha, h3]
    | false =>
      have hn : ∀ b ∈ t, goes e b = false := by
        intro b hb
        unfold nf at h
        rw [Bool.and_eq_true, List.all_eq_true] at h
        have := h.1 b hb
        unfold goes at ha ⊢
        simp at this ha ⊢
        omega
      have f1 : (a :: t).filter (goes e) = [] := by
        rw [List.filter_eq_nil_iff]
        intro b hb
        rcases List.mem_cons.1 hb with rfl | hb
        · simp [ha]
        · simp [hn b hb]
      refine ⟨0, by rw [f1]; rfl, fun i hi => absurd hi (by omega), by rw [f1]; rfl, ?_⟩
      rw [List.drop_zero, List.filter_eq_self]
      intro b hb
      rcases List.mem_cons.1 hb with rfl | hb
      · simp [ha]
      · simp [hn b hb]
/-- NOBODY IS WAITED FOR BY ONE THAT GOES. -/
theorem rp_step {e : E} {pd : List Bool} {G : List En} {c : Int} {k : Nat} (h : Rp e pd c k G) (hk : k < ((limOf e c).filter (goes e)).length) :
    ∃ g, G[firstAt c G]? = some g ∧ g.c = c ∧ firstAt c G < G.length ∧ (∀ d, d < e.pins.length → g.see.getD d false = false) ∧ Rp e pd c (k + 1) (G.eraseIdx (firstAt c G)) := by
  obtain ⟨c0, c1⟩ := h.co
  have hco : coB e c = true := co_iff.2 ⟨h.ok, c0, c1⟩
  obtain ⟨l1, l2, l3⟩ := okL_iff.1 (okL_at hco)
  obtain ⟨r, hr, g1, g2, g3⟩ := goes_take (e := e) l3
  rw [← hr] at hk
  have hcd : ((c.toNat : Nat) : Int) = c := by omega
  have hlim := h.lim c.toNat (by omega)
  rw [if_pos hcd, hcd] at hlim
  have hrl : r ≤ (limOf e c).length := by rw [hr]; exact List.length_filter_le _ _
  have hkl : k < (e.lim.getD c.toNat []).length := by have : k < (limOf e c).length := by omega
                                                      exact this
  have hdrop : ((e.lim.getD c.toNat []).map (·.2)).drop k = ((limOf e c).getD k (0, 0)).2 :: ((e.lim.getD c.toNat []).map (·.2)).drop (k + 1) := by
    rw [List.drop_eq_getElem_cons (by simpa using hkl)]
    congr 1
    simp only [limOf]
    rw [get_lt hkl]
    simp
  rw [hdrop] at hlim
  obtain ⟨g, q1, q2, q3, q4, q5⟩ := first_at hlim
  have hlt : firstAt c G < G.length := (List.getElem?_eq_some_iff.1 q1).1
  have hmem : g ∈ G := List.mem_of_getElem? q1
  refine ⟨g, q1, q2, hlt, ?_, ⟨h.ok, h.pdl, h.pd, h.co, ?_, fun x hx => h.seel x (mem_erase hx), fun x hx => h.see x (mem_erase hx)⟩⟩
  · intro d hd
    cases hs : g.see.getD d false with
    | false => rfl
    | true =>
      obtain ⟨s1, s2⟩ := h.see g hmem d hd hs
      have hg := g1 k hk
      unfold goes at hg
      simp only [decide_eq_true_eq] at hg
      rw [q3] at s2
      have := pin_near h.ok hd
      omega
  · intro d hd
    by_cases e2 : (d : Int) = c
    · rw [if_pos e2, e2, q4]
      have : d = c.toNat := by omega
      rw [this]
    · rw [if_neg e2, q5 d e2]
      have := h.lim d hd
      rw [if_neg e2] at this
      exact this
theorem rp_end {e : E} {pd : List Bool} {G : List En} {c : Int} (h : Rp e pd c ((limOf e c).filter (goes e)).length G) : Sf (rpA e c) pd G := by
  obtain ⟨c0, c1⟩ := h.co
  have hco : coB e c = true := co_iff.2 ⟨h.ok, c0, c1⟩
  obtain ⟨l1, l2, l3⟩ := okL_iff.1 (okL_at hco)
  obtain ⟨r, hr, g1, g2, g3⟩ := goes_take (e := e) l3
  have hok := ok_rp c h.ok
  have e1 : rpA e c = setL e c ((limOf e c).filter (fun a => !goes e a)) := by unfold rpA; rw [if_pos hco]
  rw [e1] at hok ⊢
  refine ⟨hok, h.pdl, h.pd, ?_, h.seel, h.see⟩
  intro d hd
  have hd' : d < e.pins.length := hd
  simp only [setL]
  rw [set_get (by rw [h.ok.len]; exact hd'), h.lim d hd']
  by_cases e2 : c.toNat = d
  · have : (d : Int) = c := by omega
    rw [if_pos e2, if_pos this, g3, ← hr, ← List.map_drop]
    simp only [limOf, e2]
  · have : ¬ (d : Int) = c := by omega
    rw [if_neg e2, if_neg this]
theorem len_rpL {e : E} {c : Int} (h : coB e c = true) : (rpL e c).length = ((limOf e c).filter (goes e)).length := by simp [rpL, h]
/-- What the others leave as it was. -/
theorem sf_same {e f : E} {pd : List Bool} {G : List En} (h : Sf e pd G) (he : f = e) : Sf f pd G := he ▸ h
theorem pin_same {e : E} {c : Int} (h : pinE e c ≠ 0) : pinA e c = e := by unfold pinA; rw [if_neg h]
theorem un_same {e : E} {c : Int} (h : unE e c ≠ 0) : unA e c = e := by unfold unA; rw [if_neg h]
theorem re_same {e : E} {c o : Int} (h : reE e c o ≠ 0) : reA e c o = e := by unfold reA; rw [if_neg h]
theorem rp_same {e : E} {c : Int} (h : coB e c = false) : rpA e c = e ∧ rpL e c = [] := by simp [rpA, rpL, h]
theorem no_core {e : E} {c : Int} (h : ¬ (0 ≤ c ∧ c < e.pins.length)) : coB e c = false := by
  cases hc : coB e c with
  | false => rfl
  | true => exact absurd (co_iff.1 hc).2 h
end Go.Proofs.Ytejghoncihdfkaa.Ep
