/- What is asked ahead of each change: lists that were built, whether there is a cause to refuse. -/
import Derived.Test.YtcldnacpddebcaaTrW6
import Derived.Test.YtcldnacpddebcaaTrRIns
namespace Go.Proofs.Ytcldnacpddebcaa.Tr
open Go.RowKit

theorem has_new (w : World) (l : List Int) (T : TypeId) : Has (w.alloc (.cells (vals l).toArray T)) (some ⟨w.heap.size, 0, none⟩) l.length l.length l := by
  refine ⟨rfl, (fun h => by cases h), Nat.le_refl _, ⟨fun j u hu => ⟨_, rfl, ?_⟩⟩⟩
  have e : (Addr.add ⟨w.heap.size, 0, none⟩ j) = ⟨w.heap.size, j, none⟩ := by unfold Addr.add; split <;> simp_all
  rw [e]
  unfold World.cell?
  rw [show (w.alloc (.cells (vals l).toArray T)).heap[(⟨w.heap.size, j, none⟩ : Addr).block]? = some (.cells (vals l).toArray T) from heap_alloc_new w _]
  simpa using hu
theorem hasP_new (w : World) (l : List P) (T : TypeId) : HasP (w.alloc (.cells (prs l).toArray T)) (some ⟨w.heap.size, 0, none⟩) l.length l.length l := by
  refine ⟨rfl, (fun h => by cases h), Nat.le_refl _, ⟨fun j u hu => ⟨_, rfl, ?_⟩⟩⟩
  have e : (Addr.add ⟨w.heap.size, 0, none⟩ j) = ⟨w.heap.size, j, none⟩ := by unfold Addr.add; split <;> simp_all
  rw [e]
  unfold World.cell?
  rw [show (w.alloc (.cells (prs l).toArray T)).heap[(⟨w.heap.size, j, none⟩ : Addr).block]? = some (.cells (prs l).toArray T) from heap_alloc_new w _]
  simpa using hu
theorem room_low (ao : Option Addr) (n cap : Nat) (w : World) :
    Calls Try.prog 49 #[.slice ao n cap] w fun e w' => e = .returned (.int .i64 (rmE n)) ∧ Below w.heap.size w w' := by
  refine (room_any ao n cap w).mono ?_
  rintro e w' ⟨rfl, rfl⟩
  exact ⟨rfl, Below.refl _ _⟩
theorem or_low (ao : Option Addr) (n cap : Nat) (l : List Int) (w : World) (hs : n ≤ 1000) (HH : Hid (Has w ao n cap l)) :
    Calls Try.prog 36 #[.slice ao n cap] w fun e w' => e = .returned (.int .i64 (orV l)) ∧ Below w.heap.size w w' := by
  refine (or_any ao n cap l w hs HH).mono ?_
  rintro e w' ⟨rfl, rfl⟩
  exact ⟨rfl, Below.refl _ _⟩
theorem or_ro (t : List Br) (k : P) : orV [vdE t [k], unE t k, rmE t.length] = roE t k := by
  rcases Bool.eq_false_or_eq_true (isB t) with h0 | h0 <;> rcases Bool.eq_false_or_eq_true (okK k) with h1 | h1 <;> rcases Bool.eq_false_or_eq_true (hasK t k) with h2 | h2 <;> by_cases h : 512 ≤ t.length <;> simp [orV, vdE, oks, ckE, unE, rmE, roE, h0, h1, h2, h]
theorem or_in (t : List Br) (f k : P) : orV [vdE t [f, k], thE t f, unE t k, rmE t.length] = inE t f k := by
  rcases Bool.eq_false_or_eq_true (isB t) with h0 | h0 <;> rcases Bool.eq_false_or_eq_true (okK f) with h1 | h1 <;> rcases Bool.eq_false_or_eq_true (okK k) with h2 | h2 <;> rcases Bool.eq_false_or_eq_true (hasK t f) with h3 | h3 <;> rcases Bool.eq_false_or_eq_true (hasK t k) with h4 | h4 <;> by_cases h : 512 ≤ t.length <;> simp [orV, vdE, oks, ckE, unE, thE, rmE, inE, h0, h1, h2, h3, h4, h]
theorem lf_ct {t : List Br} {k : P} (h : hasK t k = true) : lfE t k = if 0 < ct t (plc t k) then 130 else 0 := by
  obtain ⟨i, hi⟩ := has_fd h
  rw [lfE, len_bl hi, plc_of hi]
  by_cases e : ct t i = 0 <;> simp [e]
theorem or_re (t : List Br) (k : P) : orV [vdE t [k], thE t k, lfE t k] = reE t k := by
  rcases Bool.eq_false_or_eq_true (hasK t k) with h | h
  · have e := lf_ct h
    by_cases q : 0 < ct t (plc t k)
    · rw [if_pos q] at e
      rcases Bool.eq_false_or_eq_true (isB t) with h0 | h0 <;> rcases Bool.eq_false_or_eq_true (okK k) with h1 | h1 <;> simp [orV, vdE, oks, ckE, thE, reE, h, e, q, h0, h1]
    · rw [if_neg q] at e
      rcases Bool.eq_false_or_eq_true (isB t) with h0 | h0 <;> rcases Bool.eq_false_or_eq_true (okK k) with h1 | h1 <;> simp [orV, vdE, oks, ckE, thE, reE, h, e, q, h0, h1]
  · rcases Bool.eq_false_or_eq_true (isB t) with h0 | h0 <;> rcases Bool.eq_false_or_eq_true (okK k) with h1 | h1 <;> simp [orV, vdE, oks, ckE, thE, reE, h, h0, h1]
theorem or_mo (t : List Br) (f k : P) : orV [vdE t [f, k], thE t f, unE t k] = moE t f k := by
  rcases Bool.eq_false_or_eq_true (isB t) with h0 | h0 <;> rcases Bool.eq_false_or_eq_true (okK f) with h1 | h1 <;> rcases Bool.eq_false_or_eq_true (okK k) with h2 | h2 <;> rcases Bool.eq_false_or_eq_true (hasK t f) with h3 | h3 <;> rcases Bool.eq_false_or_eq_true (hasK t k) with h4 | h4 <;> simp [orV, vdE, oks, ckE, unE, thE, moE, h0, h1, h2, h3, h4]
theorem or_ma (t : List Br) (k : P) : orV [vdE t [k], thE t k] = maE t k := by
  rcases Bool.eq_false_or_eq_true (isB t) with h0 | h0 <;> rcases Bool.eq_false_or_eq_true (okK k) with h1 | h1 <;> rcases Bool.eq_false_or_eq_true (hasK t k) with h2 | h2 <;> simp [orV, vdE, oks, ckE, thE, maE, h0, h1, h2]
/-- A key's box. -/
abbrev S1 (c : Nat) (x : P) (w : World) : Prop := w.cell? ⟨c, 0, none⟩ = some (.int .i64 x.1) ∧ w.cell? ⟨c, 1, none⟩ = some (.int .i64 x.2)
theorem s1_keep {c : Nat} {x : P} {w w' : World} (h : S1 c x w) (q : Below w.heap.size w w') : S1 c x w' :=
  ⟨(q.cell (World.block_lt_of_cell? w _ h.1)).trans h.1, (q.cell (World.block_lt_of_cell? w _ h.2)).trans h.2⟩
theorem s1_drew {c : Nat} {x : P} {w : World} (h : S1 c x w) : S1 c x w.drew := h
theorem s1_alloc {c : Nat} {x : P} {w : World} (h : S1 c x w) (o : Obj) : S1 c x (w.alloc o) := s1_keep h (alloc_below w o)
theorem sk_alloc {c d : Nat} {x y : P} {w : World} (h : SK c x d y w) (o : Obj) : SK c x d y (w.alloc o) := sk_keep h (alloc_below w o)
/-! ### A row of one's own, of which one branch is changed -/
theorem own_setS {w : World} {B n cap g j size : Nat} {e : TypeId} {cs : List Value} (u : Value) (h : w.ownsRow B e size (.slice (some ⟨g, 0, none⟩) n cap) n cs) :
    (w.setCell ⟨g, j, none⟩ u).ownsRow B e size (.slice (some ⟨g, 0, none⟩) n cap) n (cs.set j u) := by
  refine ⟨by simpa using h.1, ?_⟩
  rcases h.2 with ⟨e, _⟩ | ⟨g', cap', cur, e, hb, hg, h1, h2, h3, h4⟩
  · cases e
  · cases e
    refine .inr ⟨g, cap, cur.setIfInBounds j u, rfl, hb, ?_, h1, h2, by simpa using h3, ?_⟩
    · have hlt := (Array.getElem?_eq_some_iff.1 hg).1
      simp [World.setCell, Array.getElem?_modify, hg]
    · rw [← h4]
      simp [List.take_set]
theorem own_some {w : World} {B n cap : Nat} {ao : Option Addr} {l : List Br} (h : MineB w B ao n cap l) (hn : 0 < n) : ∃ g, ao = some ⟨g, 0, none⟩ := by
  rcases h.2.2 with ⟨_, h0⟩ | ⟨g, cap', cur, e, _⟩
  · omega
  · cases e
    exact ⟨g, rfl⟩
theorem own_low {w : World} {B n cap g : Nat} {l : List Br} (h : MineB w B (some ⟨g, 0, none⟩) n cap l) : B ≤ g := (World.ownsRow.lt h.2 g rfl).1
theorem own_cellB {w : World} {B n cap g i : Nat} {l : List Br} (h : MineB w B (some ⟨g, 0, none⟩) n cap l) (hi : i < l.length) : w.cell? ⟨g, i * 4, none⟩ = some (.int .i64 (l.getD i zB).1.1) ∧ w.cell? ⟨g, i * 4 + 1, none⟩ = some (.int .i64 (l.getD i zB).1.2) ∧ w.cell? ⟨g, i * 4 + 2, none⟩ = some (.int .i64 (l.getD i zB).2.1) ∧ w.cell? ⟨g, i * 4 + 3, none⟩ = some (.bool (l.getD i zB).2.2) := by
  obtain ⟨a, e, c0, c1, c2, c3⟩ := atB_of (own_row h.2).1 i hi
  cases e
  have ea : (Addr.add ⟨g, 0, none⟩ (i * 4)) = ⟨g, i * 4, none⟩ := by
    unfold Addr.add
    split
    · simp
    · simp
  rw [ea] at c0 c1 c2 c3
  exact ⟨c0, c1, c2, c3⟩
theorem set_key (l : List Br) (i : Nat) (k : P) : ((brs l).set (i * 4) (.int .i64 k.1)).set (i * 4 + 1) (.int .i64 k.2) = brs (l.set i (k, (l.getD i zB).2)) := by
  induction l generalizing i with
  | nil => simp [brs]
  | cons x l ih =>
    cases i with
    | zero => simp [brs, bC]
    | succ i =>
      have := ih i
      simp only [brs, List.flatMap_cons, bC, List.set_cons_succ] at this ⊢
      rw [show (i + 1) * 4 = i * 4 + 1 + 1 + 1 + 1 by omega]
      simp only [List.cons_append, List.nil_append, List.set_cons_succ]
      rw [this]
      simp
theorem set_mark (l : List Br) (i : Nat) (on : Bool) : (brs l).set (i * 4 + 3) (.bool on) = brs (l.set i ((l.getD i zB).1, (l.getD i zB).2.1, on)) := by
  induction l generalizing i with
  | nil => simp [brs]
  | cons x l ih =>
    cases i with
    | zero => simp [brs, bC]
    | succ i =>
      have := ih i
      simp only [brs, List.flatMap_cons, bC, List.set_cons_succ] at this ⊢
      rw [show (i + 1) * 4 + 3 = i * 4 + 3 + 1 + 1 + 1 + 1 by omega]
      simp only [List.cons_append, List.nil_append, List.set_cons_succ]
      rw [this]
      simp
theorem own_move {w : World} {B n cap g i : Nat} {l : List Br} (h : MineB w B (some ⟨g, 0, none⟩) n cap l) (_hi : i < l.length) (k : P) : HasB ((w.setCell ⟨g, i * 4, none⟩ (.int .i64 k.1)).setCell ⟨g, i * 4 + 1, none⟩ (.int .i64 k.2)) (some ⟨g, 0, none⟩) n cap (l.set i (k, (l.getD i zB).2)) := by
  have h1 := own_setS (j := i * 4 + 1) (.int .i64 k.2) (own_setS (j := i * 4) (.int .i64 k.1) h.2)
  rw [set_key] at h1
  exact own_hasB h1 (by rw [List.length_set]; exact h.1)
theorem own_mark {w : World} {B n cap g i : Nat} {l : List Br} {k : P} (h : MineB w B (some ⟨g, 0, none⟩) n cap l) (hf : fd k l = some i) (on : Bool) : HasB (w.setCell ⟨g, i * 4 + 3, none⟩ (.bool on)) (some ⟨g, 0, none⟩) n cap (l.set i (k, D l i, on)) := by
  have h1 := own_setS (j := i * 4 + 3) (.bool on) h.2
  rw [set_mark, show (l.getD i zB).1 = k from (fd_some.1 hf).2.1] at h1
  exact own_hasB h1 (by rw [List.length_set]; exact h.1)
end Go.Proofs.Ytcldnacpddebcaa.Tr
