/- Nodes of one's own: a list of rows, each in a block of its own. -/
import Derived.Test.YthnfekdoibhnpaaDoorAdCut
import Derived.Test.YthnfekdoibhnpaaDoorAdMake
namespace Go.Proofs.YthnfekdoibhnpaaDoor.Ad
open Go.RowKit
open Cp (K)

theorem infoH : (Tryd.prog.info? 59).map (fun i => (i.zero, i.size, i.bytes)) = some (some (.slice none 0 0), 1, 24) := by kernel_rfl
/-- Rows of unlike types lie in unlike blocks. -/
theorem own_types {W : World} {B B' s s' n n' : Nat} {e e' : TypeId} {v v' : Value} {cs cs' : List Value} (h : W.ownsRow B e s v n cs) (h' : W.ownsRow B' e' s' v' n' cs') (ne : e ≠ e') {b : Nat} (hb : v.ownBlock = some b) : v'.ownBlock ≠ some b := by
  intro hb'
  rcases h.2 with ⟨rfl, _⟩ | ⟨g, cap, cur, rfl, _, hg, _⟩
  · simp [Value.ownBlock] at hb
  · rcases h'.2 with ⟨rfl, _⟩ | ⟨g', cap', cur', rfl, _, hg', _⟩
    · simp [Value.ownBlock] at hb'
    · simp [Value.ownBlock] at hb hb'
      subst hb hb'
      rw [hg] at hg'
      injection hg' with h1
      injection h1 with _ h2
      exact ne h2
theorem one_row (w : World) (u : Value) (t : TypeId) : Row (w.alloc (.cells #[u] t)) (some ⟨w.heap.size, 0, none⟩) [u] := by
  refine ⟨fun j v hv => ⟨_, rfl, ?_⟩⟩
  match j, hv with
  | 0, hv => simp at hv; subst hv; simp [Addr.add]
theorem caps_ne : (41 : TypeId) ≠ 59 := by decide
/-- A node's capabilities, in the row that is told by its head. -/
structure Un (B : Nat) (W : World) (uo : Option Addr) (un uc : Nat) (hs : List Hd) (T : List (List K)) : Prop where
  num : un = hs.length
  len : hs.length = T.length
  own : W.ownsRow B 59 1 (.slice uo un uc) un (hds hs)
  each : ∀ i, i < hs.length → W.ownsRow B 41 5 (hs.getD i Hd.zero).v (hs.getD i Hd.zero).n (kps (T.getD i []))
  apart : ∀ i j, i < j → j < hs.length → ∀ b, (hs.getD i Hd.zero).v.ownBlock = some b → (hs.getD j Hd.zero).v.ownBlock ≠ some b
theorem un_nil (B : Nat) (W : World) : Un B W none 0 0 [] [] := ⟨rfl, rfl, World.ownsRow_nil _ _ _ _, fun i hi => absurd hi (by simp), fun i j _ hj => absurd hj (by simp)⟩
theorem Un.below {B : Nat} {W W' : World} {uo : Option Addr} {un uc : Nat} {hs : List Hd} {T : List (List K)} (h : Un B W uo un uc hs T) (q : Below W.heap.size W W') : Un B W' uo un uc hs T :=
  ⟨h.num, h.len, own_below h.own q, fun i hi => own_below (h.each i hi) q, h.apart⟩
theorem getD_app_l {α : Type} (l : List α) (x z : α) (i : Nat) (h : i < l.length) : (l ++ [x]).getD i z = l.getD i z := by
  simp [List.getD, List.getElem?_append_left h]
theorem getD_app_r {α : Type} (l : List α) (x z : α) : (l ++ [x]).getD l.length z = x := by simp [List.getD]
theorem own_len {W : World} {B n : Nat} {e : TypeId} {v : Value} {l : List K} (h : W.ownsRow B e 5 v n (kps l)) : n = l.length := by
  have := h.1
  rw [len_kps] at this
  omega
/-- One more row. -/
theorem Un.push {B : Nat} {W w1 w3 : World} {uo uo' : Option Addr} {un uc uc' : Nat} {hs : List Hd} {T : List (List K)} {ro : Option Addr} {rn rc : Nat} {row : List K} (h : Un B W uo un uc hs T) (hB : B ≤ W.heap.size) (q1 : Below W.heap.size W w1) (own1 : w1.ownsRow W.heap.size 41 5 (.slice ro rn rc) rn (kps row))
    (own3 : w3.ownsRow B 59 1 (.slice uo' (un + 1) uc') (un + 1) (hds hs ++ [.slice ro rn rc])) (grow3 : (w1.alloc (.cells #[.slice ro rn rc] 59)).grownBy w3 (Value.ownBlock (.slice uo un uc))) : Un B w3 uo' (un + 1) uc' (hs ++ [⟨ro, rn, rc⟩]) (T ++ [row]) := by
  have kg : Kept (fun b => some b = Value.ownBlock (.slice uo un uc)) w1 w3 := (kept_below (alloc_below w1 _)).trans (kept_grown grow3) (fun _ _ e => e)
  refine ⟨by rw [h.num]; simp, by simp [h.len], by rw [show hds (hs ++ [⟨ro, rn, rc⟩]) = hds hs ++ [.slice ro rn rc] by simp [hds, Hd.v]]; exact own3, fun i hi => ?_, fun i j hij hj b hb => ?_⟩
  · simp only [List.length_append, List.length_singleton] at hi
    rcases Nat.lt_or_ge i hs.length with hl | hl
    · rw [getD_app_l _ _ _ _ hl, getD_app_l _ _ _ _ (by rw [← h.len]; exact hl)]
      exact own_kept (own_below (h.each i hl) q1) kg (fun b e s => own_types (h.each i hl) h.own caps_ne e s.symm)
    · obtain rfl : i = hs.length := by omega
      rw [getD_app_r]
      rw [show (T ++ [row]).getD hs.length [] = row by rw [h.len, getD_app_r]]
      refine own_base (own_kept own1 kg (fun b e s => ?_)) (fun b e => ?_)
      · have h1 := (World.ownsRow.lt own1 b e).1
        have h2 := (World.ownsRow.lt h.own b s.symm).2
        omega
      · exact Nat.le_trans hB (World.ownsRow.lt own1 b e).1
  · simp only [List.length_append, List.length_singleton] at hj
    rcases Nat.lt_or_ge j hs.length with hl | hl
    · rw [getD_app_l _ _ _ _ (by omega)] at hb
      rw [getD_app_l _ _ _ _ hl]
      exact h.apart i j hij hl b hb
    · obtain rfl : j = hs.length := by omega
      rw [getD_app_l _ _ _ _ hij] at hb
      rw [getD_app_r]
      intro e
      have h1 := (World.ownsRow.lt own1 b e).1
      have h2 := (World.ownsRow.lt (h.each i hij) b hb).2
      omega
theorem Un.has {B : Nat} {W : World} {uo : Option Addr} {un uc : Nat} {hs : List Hd} {T : List (List K)} (h : Un B W uo un uc hs T) : HasN W uo un uc T := by
  obtain ⟨r1, r2, r3, _⟩ := own_row h.own
  refine ⟨by rw [h.num, h.len], r3, r2, hs, h.len, r1, fun i hi => ?_⟩
  have e := h.each i (by rw [h.len]; exact hi)
  obtain ⟨s1, s2, s3, _⟩ := own_row e
  exact ⟨own_len e, s3, s2, s1⟩
/-- Where a row lies that has something. -/
theorem Un.row {B : Nat} {W : World} {uo : Option Addr} {un uc : Nat} {hs : List Hd} {T : List (List K)} (h : Un B W uo un uc hs T) (o : Nat) (ho : o < un) (h0 : 0 < (T.getD o []).length) :
    ∃ ua g rc, uo = some ua ∧ W.cell? (ua.add o) = some (.slice (some ⟨g, 0, none⟩) (T.getD o []).length rc) ∧ (hs.getD o Hd.zero) = ⟨some ⟨g, 0, none⟩, (T.getD o []).length, rc⟩ ∧ B ≤ g := by
  have ho' : o < hs.length := by rw [← h.num]; exact ho
  have e := h.each o ho'
  have en := own_len e
  obtain ⟨ua, eu, cu⟩ := (own_row h.own).1.cell o _ (hds_at hs o ho')
  generalize hs.getD o Hd.zero = x at e en cu ⊢
  obtain ⟨xo, xn, xc⟩ := x
  simp only at en
  subst en
  rcases e.2 with ⟨_, e2⟩ | ⟨g, c, cur, e2, hb, _⟩
  · simp only at e2; omega
  · injection e2 with e3 e4 e5
    subst e3
    exact ⟨ua, g, xc, eu, cu, rfl, hb⟩
theorem set_kps (l : List K) (s : Nat) (c : K) : (((((kps l).set (s * 5) (.int .i64 c.t)).set (s * 5 + 1) (.int .i64 c.r)).set (s * 5 + 2) (.int .i64 c.b)).set (s * 5 + 3) (.int .i64 c.o)).set (s * 5 + 4) (.int .i64 c.g) = kps (l.set s c) := by
  induction l generalizing s with
  | nil => simp [kps]
  | cons x l ih =>
    cases s with
    | zero => simp [kps, kC]
    | succ s =>
      have := ih s
      simp only [kps, List.flatMap_cons, kC, List.set_cons_succ] at this ⊢
      rw [show (s + 1) * 5 = s * 5 + 1 + 1 + 1 + 1 + 1 by omega]
      simp only [List.cons_append, List.nil_append, show ∀ x, x + 1 + 1 + 1 + 1 + 1 + 1 = (x + 1) + 1 + 1 + 1 + 1 + 1 from fun x => rfl, show s * 5 + 1 + 1 + 1 + 1 + 1 + 2 = (s * 5 + 2) + 1 + 1 + 1 + 1 + 1 by omega, show s * 5 + 1 + 1 + 1 + 1 + 1 + 3 = (s * 5 + 3) + 1 + 1 + 1 + 1 + 1 by omega, show s * 5 + 1 + 1 + 1 + 1 + 1 + 4 = (s * 5 + 4) + 1 + 1 + 1 + 1 + 1 by omega, List.set_cons_succ]
      rw [this]
theorem kept5s (w : World) (d s : Nat) (u0 u1 u2 u3 u4 : Value) : Kept (fun i => i = d) w (((((w.setCell ⟨d, s, none⟩ u0).setCell ⟨d, s + 1, none⟩ u1).setCell ⟨d, s + 2, none⟩ u2).setCell ⟨d, s + 3, none⟩ u3).setCell ⟨d, s + 4, none⟩ u4) := by
  refine Kept.setCell ?_ ⟨d, s + 4, none⟩ u4 (fun _ => rfl)
  refine Kept.setCell ?_ ⟨d, s + 3, none⟩ u3 (fun _ => rfl)
  refine Kept.setCell ?_ ⟨d, s + 2, none⟩ u2 (fun _ => rfl)
  refine Kept.setCell ?_ ⟨d, s + 1, none⟩ u1 (fun _ => rfl)
  exact kept_set _ w ⟨d, s, none⟩ u0 rfl
/-- A slot is stored into. -/
theorem Un.stored {B : Nat} {W : World} {uo : Option Addr} {un uc : Nat} {hs : List Hd} {T : List (List K)} (h : Un B W uo un uc hs T) {o g rc n : Nat} (ho : o < un) (hx : (hs.getD o Hd.zero) = ⟨some ⟨g, 0, none⟩, n, rc⟩) (s : Nat) (c : K) :
    HasN (((((W.setCell ⟨g, s * 5, none⟩ (.int .i64 c.t)).setCell ⟨g, s * 5 + 1, none⟩ (.int .i64 c.r)).setCell ⟨g, s * 5 + 2, none⟩ (.int .i64 c.b)).setCell ⟨g, s * 5 + 3, none⟩ (.int .i64 c.o)).setCell ⟨g, s * 5 + 4, none⟩ (.int .i64 c.g)) uo un uc (T.set o ((T.getD o []).set s c)) := by
  have ho' : o < hs.length := by rw [← h.num]; exact ho
  have kg := kept5s W g (s * 5) (.int .i64 c.t) (.int .i64 c.r) (.int .i64 c.b) (.int .i64 c.o) (.int .i64 c.g)
  have eo := h.each o ho'
  rw [hx] at eo
  have hown := own_kept h.own kg (fun b e (hs : b = g) => own_types eo h.own caps_ne (b := g) rfl (hs ▸ e))
  have e5 := own_setS (j := s * 5 + 4) (.int .i64 c.g) (own_setS (j := s * 5 + 3) (.int .i64 c.o) (own_setS (j := s * 5 + 2) (.int .i64 c.b) (own_setS (j := s * 5 + 1) (.int .i64 c.r) (own_setS (j := s * 5) (.int .i64 c.t) eo))))
  rw [set_kps] at e5
  obtain ⟨r1, r2, r3, _⟩ := own_row hown
  refine ⟨by rw [h.num, h.len]; simp, r3, r2, hs, by rw [h.len]; simp, r1, fun i hi => ?_⟩
  simp only [List.length_set] at hi
  by_cases e : i = o
  · subst e
    rw [hx, show (T.set i ((T.getD i []).set s c)).getD i [] = (T.getD i []).set s c by simp [List.getD, hi]]
    obtain ⟨s1, s2, s3, _⟩ := own_row e5
    exact ⟨own_len e5, s3, s2, s1⟩
  · rw [show (T.set o ((T.getD o []).set s c)).getD i [] = T.getD i [] by simp [List.getD, List.getElem?_set_ne (Ne.symm e)]]
    have hi' : i < hs.length := by rw [h.len]; exact hi
    have ei := own_kept (h.each i hi') kg (fun b e2 (hb : b = g) => by
      subst hb
      have hxo : (hs.getD o Hd.zero).v.ownBlock = some b := by rw [hx]; rfl
      rcases Nat.lt_or_ge i o with hl | hl
      · exact h.apart i o hl ho' b e2 hxo
      · exact h.apart o i (by omega) hi' b hxo e2)
    obtain ⟨s1, s2, s3, _⟩ := own_row ei
    exact ⟨own_len ei, s3, s2, s1⟩
/-- What is read while a slot of one's own nodes is stored into. -/
abbrev SO (kb : Nat) (k : P) (a : Addr) (v : Value) (cb : Nat) (d : K) (w : World) : Prop :=
  w.cell? ⟨kb, 0, none⟩ = some (.int .i64 k.1) ∧ w.cell? ⟨kb, 1, none⟩ = some (.int .i64 k.2) ∧ w.cell? a = some v ∧ w.cell? ⟨cb, 0, none⟩ = some (.int .i64 d.t) ∧ w.cell? ⟨cb, 1, none⟩ = some (.int .i64 d.r) ∧ w.cell? ⟨cb, 2, none⟩ = some (.int .i64 d.b) ∧ w.cell? ⟨cb, 3, none⟩ = some (.int .i64 d.o) ∧ w.cell? ⟨cb, 4, none⟩ = some (.int .i64 d.g)
section
variable {kb cb g s : Nat} {k : P} {a : Addr} {v : Value} {d : K} {w : World}
theorem so_drew (h : SO kb k a v cb d w) : SO kb k a v cb d w.drew := h
theorem so_five {u0 u1 u2 u3 u4 : Value} (h : SO kb k a v cb d w) (h1 : kb ≠ g) (h2 : a.block ≠ g) (h3 : cb ≠ g) : SO kb k a v cb d (((((w.setCell ⟨g, s, none⟩ u0).setCell ⟨g, s + 1, none⟩ u1).setCell ⟨g, s + 2, none⟩ u2).setCell ⟨g, s + 3, none⟩ u3).setCell ⟨g, s + 4, none⟩ u4) := by
  have q := kept5s w g s u0 u1 u2 u3 u4
  exact ⟨q.cell h.1 h1, q.cell h.2.1 h1, q.cell h.2.2.1 h2, q.cell h.2.2.2.1 h3, q.cell h.2.2.2.2.1 h3, q.cell h.2.2.2.2.2.1 h3, q.cell h.2.2.2.2.2.2.1 h3, q.cell h.2.2.2.2.2.2.2 h3⟩
end
theorem low5s {w W : World} {d s : Nat} {u0 u1 u2 u3 u4 : Value} (h : Below w.heap.size w W) (hd : w.heap.size ≤ d) : Below w.heap.size w (((((W.setCell ⟨d, s, none⟩ u0).setCell ⟨d, s + 1, none⟩ u1).setCell ⟨d, s + 2, none⟩ u2).setCell ⟨d, s + 3, none⟩ u3).setCell ⟨d, s + 4, none⟩ u4) :=
  q_set (q_set (q_set (q_set (q_set h hd _) hd _) hd _) hd _) hd _
end Go.Proofs.YthnfekdoibhnpaaDoor.Ad
