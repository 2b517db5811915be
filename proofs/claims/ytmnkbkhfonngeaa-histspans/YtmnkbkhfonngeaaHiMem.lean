/- Calls, replies, spans, events, histories, acts in memory (genmem18.py). -/
import Derived.Test.YtmnkbkhfonngeaaHiMem0
namespace Go.Proofs.Ytmnkbkhfonngeaa.Hi
open Go.RowKit

theorem add_zero_addr (a : Addr) : a.add 0 = a := by simp [Addr.add]
/-- Where a list lies. -/
structure Hd where
  o : Option Addr
  n : Nat
  c : Nat
abbrev nilH : Hd := ⟨none, 0, 0⟩
/-- Where a history's lists lie. -/
structure Hh where
  s : Hd
  e : Hd
abbrev nilX : Hh := ⟨nilH, nilH⟩

/-! ### Rows of parts that are all as long -/
theorem fm_len {α : Type} (E : α → List Value) (m : Nat) (hE : ∀ a, (E a).length = m) (l : List α) : (l.flatMap E).length = l.length * m := by
  induction l with
  | nil => simp
  | cons a r ih => simp only [List.flatMap_cons, List.length_append, hE, ih, List.length_cons, Nat.succ_mul]; omega
theorem fm_at {α : Type} (E : α → List Value) (m : Nat) (hE : ∀ a, (E a).length = m) (l : List α) (z : α) (j i : Nat) (hi : i < m) (hj : j < l.length) : (l.flatMap E)[j * m + i]? = (E (l.getD j z))[i]? := by
  induction l generalizing j with
  | nil => simp at hj
  | cons a r ih =>
    cases j with
    | zero => simp only [List.flatMap_cons]; rw [List.getElem?_append_left (by rw [hE]; omega)]; simp
    | succ j =>
      have := ih j (by simpa using hj)
      simp only [List.flatMap_cons]
      rw [List.getElem?_append_right (by rw [hE, Nat.succ_mul]; omega), show (j + 1) * m + i - (E a).length = j * m + i by rw [hE, Nat.succ_mul]; omega, this]
      simp
/-- One cell of one part is another. -/
theorem fm_set1 {α : Type} (E : α → List Value) (m : Nat) (hE : ∀ a, (E a).length = m) (l : List α) (z a : α) (j r : Nat) (v : Value) (hj : j < l.length) (hr : r < m) (h : E a = (E (l.getD j z)).set r v) : (l.flatMap E).set (j * m + r) v = (l.set j a).flatMap E := by
  apply List.ext_getElem?
  intro i
  rw [List.getElem?_set, fm_len E m hE]
  by_cases hi : i < l.length * m
  · obtain ⟨q, s, rfl, hs⟩ : ∃ q s, i = q * m + s ∧ s < m := ⟨i / m, i % m, by rw [Nat.mul_comm]; exact (Nat.div_add_mod i m).symm, Nat.mod_lt _ (by omega)⟩
    have hq : q < l.length := by
      rcases Nat.lt_or_ge q l.length with h | h
      · exact h
      · have := Nat.mul_le_mul_right m h; omega
    rw [fm_at E m hE (l.set j a) a q s hs (by simpa using hq), fm_at E m hE l z q s hs hq]
    by_cases e : q = j
    · subst e
      have e1 : (l.set q a).getD q a = a := by simp [List.getD, hq]
      rw [e1, h, List.getElem?_set, hE]
      by_cases e2 : r = s
      · subst e2
        rw [if_pos rfl, if_pos rfl, if_pos hi, if_pos hr]
      · rw [if_neg (by omega), if_neg e2]
    · rw [if_neg (by
        intro h1
        rcases Nat.lt_or_gt_of_ne e with h | h
        · have := Nat.mul_le_mul_right m (Nat.succ_le_of_lt h)
          rw [Nat.succ_mul] at this
          omega
        · have := Nat.mul_le_mul_right m (Nat.succ_le_of_lt h)
          rw [Nat.succ_mul] at this
          omega)]
      have e2 : ¬ j = q := fun x => e x.symm
      have e3 : (l.set j a).getD q a = l.getD q z := by simp [List.getD, e2, hq]
      rw [e3]
  · have h2 : (l.flatMap E)[i]? = none := List.getElem?_eq_none (by rw [fm_len E m hE]; omega)
    have h3 : ((l.set j a).flatMap E)[i]? = none := List.getElem?_eq_none (by rw [fm_len E m hE]; simp; omega)
    have h4 : j * m + r < l.length * m := by
      have := Nat.mul_le_mul_right m (Nat.succ_le_of_lt hj)
      rw [Nat.succ_mul] at this
      omega
    rw [h2, h3, if_neg (by omega)]
/-- A list that lies somewhere. -/
structure HasL {α : Type} (E : α → List Value) (w : World) (y : Hd) (l : List α) : Prop where
  len : y.n = l.length
  nil : y.o = none → y.c = 0
  cap : y.n ≤ y.c
  row : Row w y.o (l.flatMap E)
section
variable {α : Type} {E : α → List Value} {w w' : World} {y : Hd} {l : List α}
theorem HasL.below (h : HasL E w y l) (hb : Below w.heap.size w w') : HasL E w' y l := ⟨h.len, h.nil, h.cap, h.row.below hb⟩
theorem HasL.kept {S : Nat → Prop} (h : HasL E w y l) (k : Kept S w w') (hs : Off S y.o (l.flatMap E)) : HasL E w' y l := ⟨h.len, h.nil, h.cap, h.row.kept k hs⟩
theorem hasL_nil (E : α → List Value) (w : World) : HasL E w nilH [] := ⟨rfl, fun _ => rfl, Nat.le_refl _, row_nil _ _⟩
end
/-- A list that a call has made: a row of its own from B on. -/
def MineL {α : Type} (E : α → List Value) (e : TypeId) (m : Nat) (w : World) (B : Nat) (y : Hd) (l : List α) : Prop := y.n = l.length ∧ w.ownsRow B e m (.slice y.o y.n y.c) y.n (l.flatMap E)
section
variable {α : Type} {E : α → List Value} {e : TypeId} {m : Nat} {w w' : World} {B B' : Nat} {y : Hd} {l : List α}
theorem MineL.has (h : MineL E e m w B y l) : HasL E w y l := ⟨h.1, (own_row h.2).2.2.1, (own_row h.2).2.1, (own_row h.2).1⟩
theorem MineL.below (h : MineL E e m w B y l) (hb : Below w.heap.size w w') : MineL E e m w' B y l := ⟨h.1, own_below h.2 hb⟩
theorem MineL.kept {S : Nat → Prop} (h : MineL E e m w B y l) (k : Kept S w w') (hs : ∀ i, B ≤ i → ¬ S i) : MineL E e m w' B y l :=
  ⟨h.1, own_kept h.2 k (fun i hi => hs i (World.ownsRow.lt h.2 i hi).1)⟩
theorem MineL.base (h : MineL E e m w B y l) (hb : B' ≤ B) : MineL E e m w B' y l := ⟨h.1, own_base h.2 (fun k e => Nat.le_trans hb (World.ownsRow.lt h.2 k e).1)⟩
theorem mineL_nil (E : α → List Value) (e : TypeId) (m : Nat) (w : World) (B : Nat) : MineL E e m w B nilH [] := ⟨rfl, World.ownsRow_nil _ _ _ _⟩
theorem MineL.append {w1 : World} {n c : Nat} {ao : Option Addr} {k : List α} (h : MineL E e m w B y l) (hB : B ≤ w.heap.size) (hk : n = k.length)
    (h1 : w1.ownsRow B e m (.slice ao (y.n + n) c) (y.n + n) (l.flatMap E ++ k.flatMap E)) (hg : w.grownBy w1 (Value.ownBlock (.slice y.o y.n y.c))) : MineL E e m w1 B ⟨ao, y.n + n, c⟩ (l ++ k) ∧ Below B w w1 := by
  refine ⟨⟨by simp only [List.length_append]; rw [h.1, hk], ?_⟩, (Below.refl B w).grown hg hB (fun k e => (World.ownsRow.lt h.2 k e).1)⟩
  rw [List.flatMap_append]
  exact h1
theorem MineL.blk (h : MineL E e m w B y l) {a : Addr} (ha : y.o = some a) : B ≤ a.block ∧ a.block < w.heap.size := (own_row h.2).2.2.2 a ha
end

def cC : C → List Value := fun x => [.int .i64 x.k, .int .u64 x.a, .int .u64 x.b, .int .i64 x.r, .int .i64 x.g, .int .i64 x.t, .int .i64 x.s, .int .i64 x.v]
def rC : Rp → List Value := fun x => [.int .i64 x.e, .int .i64 x.v, .int .i64 x.b, .bool x.t]
def spC : Sp → List Value := fun x => [.int .i64 x.co, .int .i64 x.c.k, .int .u64 x.c.a, .int .u64 x.c.b, .int .i64 x.c.r, .int .i64 x.c.g, .int .i64 x.c.t, .int .i64 x.c.s, .int .i64 x.c.v, .int .i64 x.st, .int .i64 x.en, .int .i64 x.r.e, .int .i64 x.r.v, .int .i64 x.r.b, .bool x.r.t]
def dnC : Dn → List Value := fun x => [.int .i64 x.c, .int .i64 x.r.e, .int .i64 x.r.v, .int .i64 x.r.b, .bool x.r.t]
def evC : Ev × Hd → List Value := fun x => [.int .i64 x.1.k, .int .i64 x.1.co, .int .i64 x.1.c.k, .int .u64 x.1.c.a, .int .u64 x.1.c.b, .int .i64 x.1.c.r, .int .i64 x.1.c.g, .int .i64 x.1.c.t, .int .i64 x.1.c.s, .int .i64 x.1.c.v, .int .i64 x.1.sp, .slice x.2.o x.2.n x.2.c]
def acC : Ac × Hd → List Value := fun x => [.int .i64 x.1.k, .int .i64 x.1.co, .int .i64 x.1.now, .int .i64 x.1.c.k, .int .u64 x.1.c.a, .int .u64 x.1.c.b, .int .i64 x.1.c.r, .int .i64 x.1.c.g, .int .i64 x.1.c.t, .int .i64 x.1.c.s, .int .i64 x.1.c.v, .int .i64 x.1.r.e, .int .i64 x.1.r.v, .int .i64 x.1.r.b, .bool x.1.r.t, .int .i64 x.1.e.k, .int .i64 x.1.e.co, .int .i64 x.1.e.c.k, .int .u64 x.1.e.c.a, .int .u64 x.1.e.c.b, .int .i64 x.1.e.c.r, .int .i64 x.1.e.c.g, .int .i64 x.1.e.c.t, .int .i64 x.1.e.c.s, .int .i64 x.1.e.c.v, .int .i64 x.1.e.sp, .slice x.2.o x.2.n x.2.c]
theorem cC_len (x) : (cC x).length = 8 := rfl
theorem cC_one (l) : ∀ u ∈ List.flatMap cC l, u.oneCell' = true := by
  intro u hu
  simp only [List.mem_flatMap, cC, List.mem_cons, List.not_mem_nil, or_false] at hu
  obtain ⟨r, _, hu⟩ := hu
  rcases hu with rfl | rfl | rfl | rfl | rfl | rfl | rfl | rfl <;> rfl
theorem rC_len (x) : (rC x).length = 4 := rfl
theorem rC_one (l) : ∀ u ∈ List.flatMap rC l, u.oneCell' = true := by
  intro u hu
  simp only [List.mem_flatMap, rC, List.mem_cons, List.not_mem_nil, or_false] at hu
  obtain ⟨r, _, hu⟩ := hu
  rcases hu with rfl | rfl | rfl | rfl <;> rfl
theorem spC_len (x) : (spC x).length = 15 := rfl
theorem spC_one (l) : ∀ u ∈ List.flatMap spC l, u.oneCell' = true := by
  intro u hu
  simp only [List.mem_flatMap, spC, List.mem_cons, List.not_mem_nil, or_false] at hu
  obtain ⟨r, _, hu⟩ := hu
  rcases hu with rfl | rfl | rfl | rfl | rfl | rfl | rfl | rfl | rfl | rfl | rfl | rfl | rfl | rfl | rfl <;> rfl
theorem dnC_len (x) : (dnC x).length = 5 := rfl
theorem dnC_one (l) : ∀ u ∈ List.flatMap dnC l, u.oneCell' = true := by
  intro u hu
  simp only [List.mem_flatMap, dnC, List.mem_cons, List.not_mem_nil, or_false] at hu
  obtain ⟨r, _, hu⟩ := hu
  rcases hu with rfl | rfl | rfl | rfl | rfl <;> rfl
theorem evC_len (x) : (evC x).length = 12 := rfl
theorem evC_one (l) : ∀ u ∈ List.flatMap evC l, u.oneCell' = true := by
  intro u hu
  simp only [List.mem_flatMap, evC, List.mem_cons, List.not_mem_nil, or_false] at hu
  obtain ⟨r, _, hu⟩ := hu
  rcases hu with rfl | rfl | rfl | rfl | rfl | rfl | rfl | rfl | rfl | rfl | rfl | rfl <;> rfl
theorem acC_len (x) : (acC x).length = 27 := rfl
theorem acC_one (l) : ∀ u ∈ List.flatMap acC l, u.oneCell' = true := by
  intro u hu
  simp only [List.mem_flatMap, acC, List.mem_cons, List.not_mem_nil, or_false] at hu
  obtain ⟨r, _, hu⟩ := hu
  rcases hu with rfl | rfl | rfl | rfl | rfl | rfl | rfl | rfl | rfl | rfl | rfl | rfl | rfl | rfl | rfl | rfl | rfl | rfl | rfl | rfl | rfl | rfl | rfl | rfl | rfl | rfl | rfl <;> rfl
/-- It lies at an address. -/
structure AtC (w : World) (a : Addr) (x : C) : Prop where
  c0 : w.cell? a = some (.int .i64 x.k)
  c1 : w.cell? ⟨a.block, a.off + 1, none⟩ = some (.int .u64 x.a)
  c2 : w.cell? ⟨a.block, a.off + 2, none⟩ = some (.int .u64 x.b)
  c3 : w.cell? ⟨a.block, a.off + 3, none⟩ = some (.int .i64 x.r)
  c4 : w.cell? ⟨a.block, a.off + 4, none⟩ = some (.int .i64 x.g)
  c5 : w.cell? ⟨a.block, a.off + 5, none⟩ = some (.int .i64 x.t)
  c6 : w.cell? ⟨a.block, a.off + 6, none⟩ = some (.int .i64 x.s)
  c7 : w.cell? ⟨a.block, a.off + 7, none⟩ = some (.int .i64 x.v)
theorem atC_of {w : World} {ao : Option Addr} {l : List (C)} (h : Row w ao (l.flatMap cC)) (k : Nat) (hk : k < l.length) : ∃ a, ao = some a ∧ AtC w (a.add (k * 8)) (l.getD k c0) := by
  have g := fun (i : Nat) (hi : i < 8) (u : Value) (hu : (cC (l.getD k c0))[i]? = some u) => h.cell (k * 8 + i) u ((fm_at cC 8 cC_len l c0 k i hi hk).trans hu)
  obtain ⟨a, rfl, h0⟩ := g 0 (by omega) _ rfl
  refine ⟨a, rfl, h0, ?_, ?_, ?_, ?_, ?_, ?_, ?_⟩
  all_goals rw [add_off _ _ (by decide), add_add]
  · obtain ⟨_, e, h⟩ := g 1 (by omega) _ rfl
    cases e
    exact h
  · obtain ⟨_, e, h⟩ := g 2 (by omega) _ rfl
    cases e
    exact h
  · obtain ⟨_, e, h⟩ := g 3 (by omega) _ rfl
    cases e
    exact h
  · obtain ⟨_, e, h⟩ := g 4 (by omega) _ rfl
    cases e
    exact h
  · obtain ⟨_, e, h⟩ := g 5 (by omega) _ rfl
    cases e
    exact h
  · obtain ⟨_, e, h⟩ := g 6 (by omega) _ rfl
    cases e
    exact h
  · obtain ⟨_, e, h⟩ := g 7 (by omega) _ rfl
    cases e
    exact h
theorem AtC.lt {w : World} {a : Addr} {x : C} (h : AtC w a x) : a.block < w.heap.size := World.block_lt_of_cell? w _ h.c0
theorem AtC.kept {S : Nat → Prop} {w w' : World} {a : Addr} {x : C} (h : AtC w a x) (k : Kept S w w') (hn : ¬ S a.block) : AtC w' a x :=
  ⟨k.cell h.c0 hn, k.cell h.c1 hn, k.cell h.c2 hn, k.cell h.c3 hn, k.cell h.c4 hn, k.cell h.c5 hn, k.cell h.c6 hn, k.cell h.c7 hn⟩
theorem AtC.below {w w' : World} {a : Addr} {x : C} (h : AtC w a x) (hb : Below w.heap.size w w') : AtC w' a x := h.kept (S := fun _ => False) (kept_below hb) id
theorem AtC.always {w : World} {a : Addr} {x : C} (h : AtC w a x) : (∀ g : Later w, g.now.cell? a = some (.int .i64 x.k)) ∧ (∀ g : Later w, g.now.cell? ⟨a.block, a.off + 1, none⟩ = some (.int .u64 x.a)) ∧ (∀ g : Later w, g.now.cell? ⟨a.block, a.off + 2, none⟩ = some (.int .u64 x.b)) ∧ (∀ g : Later w, g.now.cell? ⟨a.block, a.off + 3, none⟩ = some (.int .i64 x.r)) ∧ (∀ g : Later w, g.now.cell? ⟨a.block, a.off + 4, none⟩ = some (.int .i64 x.g)) ∧ (∀ g : Later w, g.now.cell? ⟨a.block, a.off + 5, none⟩ = some (.int .i64 x.t)) ∧ (∀ g : Later w, g.now.cell? ⟨a.block, a.off + 6, none⟩ = some (.int .i64 x.s)) ∧ (∀ g : Later w, g.now.cell? ⟨a.block, a.off + 7, none⟩ = some (.int .i64 x.v)) :=
  ⟨fun g => g.cell h.c0, fun g => g.cell h.c1, fun g => g.cell h.c2, fun g => g.cell h.c3, fun g => g.cell h.c4, fun g => g.cell h.c5, fun g => g.cell h.c6, fun g => g.cell h.c7⟩
/-- It lies at an address. -/
structure AtR (w : World) (a : Addr) (x : Rp) : Prop where
  c0 : w.cell? a = some (.int .i64 x.e)
  c1 : w.cell? ⟨a.block, a.off + 1, none⟩ = some (.int .i64 x.v)
  c2 : w.cell? ⟨a.block, a.off + 2, none⟩ = some (.int .i64 x.b)
  c3 : w.cell? ⟨a.block, a.off + 3, none⟩ = some (.bool x.t)
theorem atR_of {w : World} {ao : Option Addr} {l : List (Rp)} (h : Row w ao (l.flatMap rC)) (k : Nat) (hk : k < l.length) : ∃ a, ao = some a ∧ AtR w (a.add (k * 4)) (l.getD k r0) := by
  have g := fun (i : Nat) (hi : i < 4) (u : Value) (hu : (rC (l.getD k r0))[i]? = some u) => h.cell (k * 4 + i) u ((fm_at rC 4 rC_len l r0 k i hi hk).trans hu)
  obtain ⟨a, rfl, h0⟩ := g 0 (by omega) _ rfl
  refine ⟨a, rfl, h0, ?_, ?_, ?_⟩
  all_goals rw [add_off _ _ (by decide), add_add]
  · obtain ⟨_, e, h⟩ := g 1 (by omega) _ rfl
    cases e
    exact h
  · obtain ⟨_, e, h⟩ := g 2 (by omega) _ rfl
    cases e
    exact h
  · obtain ⟨_, e, h⟩ := g 3 (by omega) _ rfl
    cases e
    exact h
theorem AtR.lt {w : World} {a : Addr} {x : Rp} (h : AtR w a x) : a.block < w.heap.size := World.block_lt_of_cell? w _ h.c0
theorem AtR.kept {S : Nat → Prop} {w w' : World} {a : Addr} {x : Rp} (h : AtR w a x) (k : Kept S w w') (hn : ¬ S a.block) : AtR w' a x :=
  ⟨k.cell h.c0 hn, k.cell h.c1 hn, k.cell h.c2 hn, k.cell h.c3 hn⟩
theorem AtR.below {w w' : World} {a : Addr} {x : Rp} (h : AtR w a x) (hb : Below w.heap.size w w') : AtR w' a x := h.kept (S := fun _ => False) (kept_below hb) id
theorem AtR.always {w : World} {a : Addr} {x : Rp} (h : AtR w a x) : (∀ g : Later w, g.now.cell? a = some (.int .i64 x.e)) ∧ (∀ g : Later w, g.now.cell? ⟨a.block, a.off + 1, none⟩ = some (.int .i64 x.v)) ∧ (∀ g : Later w, g.now.cell? ⟨a.block, a.off + 2, none⟩ = some (.int .i64 x.b)) ∧ (∀ g : Later w, g.now.cell? ⟨a.block, a.off + 3, none⟩ = some (.bool x.t)) :=
  ⟨fun g => g.cell h.c0, fun g => g.cell h.c1, fun g => g.cell h.c2, fun g => g.cell h.c3⟩
/-- It lies at an address. -/
structure AtS (w : World) (a : Addr) (x : Sp) : Prop where
  c0 : w.cell? a = some (.int .i64 x.co)
  c1 : w.cell? ⟨a.block, a.off + 1, none⟩ = some (.int .i64 x.c.k)
  c2 : w.cell? ⟨a.block, a.off + 2, none⟩ = some (.int .u64 x.c.a)
  c3 : w.cell? ⟨a.block, a.off + 3, none⟩ = some (.int .u64 x.c.b)
  c4 : w.cell? ⟨a.block, a.off + 4, none⟩ = some (.int .i64 x.c.r)
  c5 : w.cell? ⟨a.block, a.off + 5, none⟩ = some (.int .i64 x.c.g)
  c6 : w.cell? ⟨a.block, a.off + 6, none⟩ = some (.int .i64 x.c.t)
  c7 : w.cell? ⟨a.block, a.off + 7, none⟩ = some (.int .i64 x.c.s)
  c8 : w.cell? ⟨a.block, a.off + 8, none⟩ = some (.int .i64 x.c.v)
  c9 : w.cell? ⟨a.block, a.off + 9, none⟩ = some (.int .i64 x.st)
  c10 : w.cell? ⟨a.block, a.off + 10, none⟩ = some (.int .i64 x.en)
  c11 : w.cell? ⟨a.block, a.off + 11, none⟩ = some (.int .i64 x.r.e)
  c12 : w.cell? ⟨a.block, a.off + 12, none⟩ = some (.int .i64 x.r.v)
  c13 : w.cell? ⟨a.block, a.off + 13, none⟩ = some (.int .i64 x.r.b)
  c14 : w.cell? ⟨a.block, a.off + 14, none⟩ = some (.bool x.r.t)
theorem atS_of {w : World} {ao : Option Addr} {l : List (Sp)} (h : Row w ao (l.flatMap spC)) (k : Nat) (hk : k < l.length) : ∃ a, ao = some a ∧ AtS w (a.add (k * 15)) (l.getD k s0) := by
  have g := fun (i : Nat) (hi : i < 15) (u : Value) (hu : (spC (l.getD k s0))[i]? = some u) => h.cell (k * 15 + i) u ((fm_at spC 15 spC_len l s0 k i hi hk).trans hu)
  obtain ⟨a, rfl, h0⟩ := g 0 (by omega) _ rfl
  refine ⟨a, rfl, h0, ?_, ?_, ?_, ?_, ?_, ?_, ?_, ?_, ?_, ?_, ?_, ?_, ?_, ?_⟩
  all_goals rw [add_off _ _ (by decide), add_add]
  · obtain ⟨_, e, h⟩ := g 1 (by omega) _ rfl
    cases e
    exact h
  · obtain ⟨_, e, h⟩ := g 2 (by omega) _ rfl
    cases e
    exact h
  · obtain ⟨_, e, h⟩ := g 3 (by omega) _ rfl
    cases e
    exact h
  · obtain ⟨_, e, h⟩ := g 4 (by omega) _ rfl
    cases e
    exact h
  · obtain ⟨_, e, h⟩ := g 5 (by omega) _ rfl
    cases e
    exact h
  · obtain ⟨_, e, h⟩ := g 6 (by omega) _ rfl
    cases e
    exact h
  · obtain ⟨_, e, h⟩ := g 7 (by omega) _ rfl
    cases e
    exact h
  · obtain ⟨_, e, h⟩ := g 8 (by omega) _ rfl
    cases e
    exact h
  · obtain ⟨_, e, h⟩ := g 9 (by omega) _ rfl
    cases e
    exact h
  · obtain ⟨_, e, h⟩ := g 10 (by omega) _ rfl
    cases e
    exact h
  · obtain ⟨_, e, h⟩ := g 11 (by omega) _ rfl
    cases e
    exact h
  · obtain ⟨_, e, h⟩ := g 12 (by omega) _ rfl
    cases e
    exact h
  · obtain ⟨_, e, h⟩ := g 13 (by omega) _ rfl
    cases e
    exact h
  · obtain ⟨_, e, h⟩ := g 14 (by omega) _ rfl
    cases e
    exact h
theorem AtS.lt {w : World} {a : Addr} {x : Sp} (h : AtS w a x) : a.block < w.heap.size := World.block_lt_of_cell? w _ h.c0
theorem AtS.kept {S : Nat → Prop} {w w' : World} {a : Addr} {x : Sp} (h : AtS w a x) (k : Kept S w w') (hn : ¬ S a.block) : AtS w' a x :=
  ⟨k.cell h.c0 hn, k.cell h.c1 hn, k.cell h.c2 hn, k.cell h.c3 hn, k.cell h.c4 hn, k.cell h.c5 hn, k.cell h.c6 hn, k.cell h.c7 hn, k.cell h.c8 hn, k.cell h.c9 hn, k.cell h.c10 hn, k.cell h.c11 hn, k.cell h.c12 hn, k.cell h.c13 hn, k.cell h.c14 hn⟩
theorem AtS.below {w w' : World} {a : Addr} {x : Sp} (h : AtS w a x) (hb : Below w.heap.size w w') : AtS w' a x := h.kept (S := fun _ => False) (kept_below hb) id
theorem AtS.always {w : World} {a : Addr} {x : Sp} (h : AtS w a x) : (∀ g : Later w, g.now.cell? a = some (.int .i64 x.co)) ∧ (∀ g : Later w, g.now.cell? ⟨a.block, a.off + 1, none⟩ = some (.int .i64 x.c.k)) ∧ (∀ g : Later w, g.now.cell? ⟨a.block, a.off + 2, none⟩ = some (.int .u64 x.c.a)) ∧ (∀ g : Later w, g.now.cell? ⟨a.block, a.off + 3, none⟩ = some (.int .u64 x.c.b)) ∧ (∀ g : Later w, g.now.cell? ⟨a.block, a.off + 4, none⟩ = some (.int .i64 x.c.r)) ∧ (∀ g : Later w, g.now.cell? ⟨a.block, a.off + 5, none⟩ = some (.int .i64 x.c.g)) ∧ (∀ g : Later w, g.now.cell? ⟨a.block, a.off + 6, none⟩ = some (.int .i64 x.c.t)) ∧ (∀ g : Later w, g.now.cell? ⟨a.block, a.off + 7, none⟩ = some (.int .i64 x.c.s)) ∧ (∀ g : Later w, g.now.cell? ⟨a.block, a.off + 8, none⟩ = some (.int .i64 x.c.v)) ∧ (∀ g : Later w, g.now.cell? ⟨a.block, a.off + 9, none⟩ = some (.int .i64 x.st)) ∧ (∀ g : Later w, g.now.cell? ⟨a.block, a.off + 10, none⟩ = some (.int .i64 x.en)) ∧ (∀ g : Later w, g.now.cell? ⟨a.block, a.off + 11, none⟩ = some (.int .i64 x.r.e)) ∧ (∀ g : Later w, g.now.cell? ⟨a.block, a.off + 12, none⟩ = some (.int .i64 x.r.v)) ∧ (∀ g : Later w, g.now.cell? ⟨a.block, a.off + 13, none⟩ = some (.int .i64 x.r.b)) ∧ (∀ g : Later w, g.now.cell? ⟨a.block, a.off + 14, none⟩ = some (.bool x.r.t)) :=
  ⟨fun g => g.cell h.c0, fun g => g.cell h.c1, fun g => g.cell h.c2, fun g => g.cell h.c3, fun g => g.cell h.c4, fun g => g.cell h.c5, fun g => g.cell h.c6, fun g => g.cell h.c7, fun g => g.cell h.c8, fun g => g.cell h.c9, fun g => g.cell h.c10, fun g => g.cell h.c11, fun g => g.cell h.c12, fun g => g.cell h.c13, fun g => g.cell h.c14⟩
/-- It lies at an address. -/
structure AtD (w : World) (a : Addr) (x : Dn) : Prop where
  c0 : w.cell? a = some (.int .i64 x.c)
  c1 : w.cell? ⟨a.block, a.off + 1, none⟩ = some (.int .i64 x.r.e)
  c2 : w.cell? ⟨a.block, a.off + 2, none⟩ = some (.int .i64 x.r.v)
  c3 : w.cell? ⟨a.block, a.off + 3, none⟩ = some (.int .i64 x.r.b)
  c4 : w.cell? ⟨a.block, a.off + 4, none⟩ = some (.bool x.r.t)
theorem atD_of {w : World} {ao : Option Addr} {l : List (Dn)} (h : Row w ao (l.flatMap dnC)) (k : Nat) (hk : k < l.length) : ∃ a, ao = some a ∧ AtD w (a.add (k * 5)) (l.getD k d0) := by
  have g := fun (i : Nat) (hi : i < 5) (u : Value) (hu : (dnC (l.getD k d0))[i]? = some u) => h.cell (k * 5 + i) u ((fm_at dnC 5 dnC_len l d0 k i hi hk).trans hu)
  obtain ⟨a, rfl, h0⟩ := g 0 (by omega) _ rfl
  refine ⟨a, rfl, h0, ?_, ?_, ?_, ?_⟩
  all_goals rw [add_off _ _ (by decide), add_add]
  · obtain ⟨_, e, h⟩ := g 1 (by omega) _ rfl
    cases e
    exact h
  · obtain ⟨_, e, h⟩ := g 2 (by omega) _ rfl
    cases e
    exact h
  · obtain ⟨_, e, h⟩ := g 3 (by omega) _ rfl
    cases e
    exact h
  · obtain ⟨_, e, h⟩ := g 4 (by omega) _ rfl
    cases e
    exact h
theorem AtD.lt {w : World} {a : Addr} {x : Dn} (h : AtD w a x) : a.block < w.heap.size := World.block_lt_of_cell? w _ h.c0
theorem AtD.kept {S : Nat → Prop} {w w' : World} {a : Addr} {x : Dn} (h : AtD w a x) (k : Kept S w w') (hn : ¬ S a.block) : AtD w' a x :=
  ⟨k.cell h.c0 hn, k.cell h.c1 hn, k.cell h.c2 hn, k.cell h.c3 hn, k.cell h.c4 hn⟩
theorem AtD.below {w w' : World} {a : Addr} {x : Dn} (h : AtD w a x) (hb : Below w.heap.size w w') : AtD w' a x := h.kept (S := fun _ => False) (kept_below hb) id
theorem AtD.always {w : World} {a : Addr} {x : Dn} (h : AtD w a x) : (∀ g : Later w, g.now.cell? a = some (.int .i64 x.c)) ∧ (∀ g : Later w, g.now.cell? ⟨a.block, a.off + 1, none⟩ = some (.int .i64 x.r.e)) ∧ (∀ g : Later w, g.now.cell? ⟨a.block, a.off + 2, none⟩ = some (.int .i64 x.r.v)) ∧ (∀ g : Later w, g.now.cell? ⟨a.block, a.off + 3, none⟩ = some (.int .i64 x.r.b)) ∧ (∀ g : Later w, g.now.cell? ⟨a.block, a.off + 4, none⟩ = some (.bool x.r.t)) :=
  ⟨fun g => g.cell h.c0, fun g => g.cell h.c1, fun g => g.cell h.c2, fun g => g.cell h.c3, fun g => g.cell h.c4⟩
/-- It lies at an address. -/
structure AtE (w : World) (a : Addr) (x : Ev × Hd) : Prop where
  c0 : w.cell? a = some (.int .i64 x.1.k)
  c1 : w.cell? ⟨a.block, a.off + 1, none⟩ = some (.int .i64 x.1.co)
  c2 : w.cell? ⟨a.block, a.off + 2, none⟩ = some (.int .i64 x.1.c.k)
  c3 : w.cell? ⟨a.block, a.off + 3, none⟩ = some (.int .u64 x.1.c.a)
  c4 : w.cell? ⟨a.block, a.off + 4, none⟩ = some (.int .u64 x.1.c.b)
  c5 : w.cell? ⟨a.block, a.off + 5, none⟩ = some (.int .i64 x.1.c.r)
  c6 : w.cell? ⟨a.block, a.off + 6, none⟩ = some (.int .i64 x.1.c.g)
  c7 : w.cell? ⟨a.block, a.off + 7, none⟩ = some (.int .i64 x.1.c.t)
  c8 : w.cell? ⟨a.block, a.off + 8, none⟩ = some (.int .i64 x.1.c.s)
  c9 : w.cell? ⟨a.block, a.off + 9, none⟩ = some (.int .i64 x.1.c.v)
  c10 : w.cell? ⟨a.block, a.off + 10, none⟩ = some (.int .i64 x.1.sp)
  c11 : w.cell? ⟨a.block, a.off + 11, none⟩ = some (.slice x.2.o x.2.n x.2.c)
theorem atE_of {w : World} {ao : Option Addr} {l : List (Ev × Hd)} (h : Row w ao (l.flatMap evC)) (k : Nat) (hk : k < l.length) : ∃ a, ao = some a ∧ AtE w (a.add (k * 12)) (l.getD k (e0, nilH)) := by
  have g := fun (i : Nat) (hi : i < 12) (u : Value) (hu : (evC (l.getD k (e0, nilH)))[i]? = some u) => h.cell (k * 12 + i) u ((fm_at evC 12 evC_len l (e0, nilH) k i hi hk).trans hu)
  obtain ⟨a, rfl, h0⟩ := g 0 (by omega) _ rfl
  refine ⟨a, rfl, h0, ?_, ?_, ?_, ?_, ?_, ?_, ?_, ?_, ?_, ?_, ?_⟩
  all_goals rw [add_off _ _ (by decide), add_add]
  · obtain ⟨_, e, h⟩ := g 1 (by omega) _ rfl
    cases e
    exact h
  · obtain ⟨_, e, h⟩ := g 2 (by omega) _ rfl
    cases e
    exact h
  · obtain ⟨_, e, h⟩ := g 3 (by omega) _ rfl
    cases e
    exact h
  · obtain ⟨_, e, h⟩ := g 4 (by omega) _ rfl
    cases e
    exact h
  · obtain ⟨_, e, h⟩ := g 5 (by omega) _ rfl
    cases e
    exact h
  · obtain ⟨_, e, h⟩ := g 6 (by omega) _ rfl
    cases e
    exact h
  · obtain ⟨_, e, h⟩ := g 7 (by omega) _ rfl
    cases e
    exact h
  · obtain ⟨_, e, h⟩ := g 8 (by omega) _ rfl
    cases e
    exact h
  · obtain ⟨_, e, h⟩ := g 9 (by omega) _ rfl
    cases e
    exact h
  · obtain ⟨_, e, h⟩ := g 10 (by omega) _ rfl
    cases e
    exact h
  · obtain ⟨_, e, h⟩ := g 11 (by omega) _ rfl
    cases e
    exact h
theorem AtE.lt {w : World} {a : Addr} {x : Ev × Hd} (h : AtE w a x) : a.block < w.heap.size := World.block_lt_of_cell? w _ h.c0
theorem AtE.kept {S : Nat → Prop} {w w' : World} {a : Addr} {x : Ev × Hd} (h : AtE w a x) (k : Kept S w w') (hn : ¬ S a.block) : AtE w' a x :=
  ⟨k.cell h.c0 hn, k.cell h.c1 hn, k.cell h.c2 hn, k.cell h.c3 hn, k.cell h.c4 hn, k.cell h.c5 hn, k.cell h.c6 hn, k.cell h.c7 hn, k.cell h.c8 hn, k.cell h.c9 hn, k.cell h.c10 hn, k.cell h.c11 hn⟩
theorem AtE.below {w w' : World} {a : Addr} {x : Ev × Hd} (h : AtE w a x) (hb : Below w.heap.size w w') : AtE w' a x := h.kept (S := fun _ => False) (kept_below hb) id
theorem AtE.always {w : World} {a : Addr} {x : Ev × Hd} (h : AtE w a x) : (∀ g : Later w, g.now.cell? a = some (.int .i64 x.1.k)) ∧ (∀ g : Later w, g.now.cell? ⟨a.block, a.off + 1, none⟩ = some (.int .i64 x.1.co)) ∧ (∀ g : Later w, g.now.cell? ⟨a.block, a.off + 2, none⟩ = some (.int .i64 x.1.c.k)) ∧ (∀ g : Later w, g.now.cell? ⟨a.block, a.off + 3, none⟩ = some (.int .u64 x.1.c.a)) ∧ (∀ g : Later w, g.now.cell? ⟨a.block, a.off + 4, none⟩ = some (.int .u64 x.1.c.b)) ∧ (∀ g : Later w, g.now.cell? ⟨a.block, a.off + 5, none⟩ = some (.int .i64 x.1.c.r)) ∧ (∀ g : Later w, g.now.cell? ⟨a.block, a.off + 6, none⟩ = some (.int .i64 x.1.c.g)) ∧ (∀ g : Later w, g.now.cell? ⟨a.block, a.off + 7, none⟩ = some (.int .i64 x.1.c.t)) ∧ (∀ g : Later w, g.now.cell? ⟨a.block, a.off + 8, none⟩ = some (.int .i64 x.1.c.s)) ∧ (∀ g : Later w, g.now.cell? ⟨a.block, a.off + 9, none⟩ = some (.int .i64 x.1.c.v)) ∧ (∀ g : Later w, g.now.cell? ⟨a.block, a.off + 10, none⟩ = some (.int .i64 x.1.sp)) ∧ (∀ g : Later w, g.now.cell? ⟨a.block, a.off + 11, none⟩ = some (.slice x.2.o x.2.n x.2.c)) :=
  ⟨fun g => g.cell h.c0, fun g => g.cell h.c1, fun g => g.cell h.c2, fun g => g.cell h.c3, fun g => g.cell h.c4, fun g => g.cell h.c5, fun g => g.cell h.c6, fun g => g.cell h.c7, fun g => g.cell h.c8, fun g => g.cell h.c9, fun g => g.cell h.c10, fun g => g.cell h.c11⟩
/-- It lies at an address. -/
structure AtZ (w : World) (a : Addr) (x : Ac × Hd) : Prop where
  c0 : w.cell? a = some (.int .i64 x.1.k)
  c1 : w.cell? ⟨a.block, a.off + 1, none⟩ = some (.int .i64 x.1.co)
  c2 : w.cell? ⟨a.block, a.off + 2, none⟩ = some (.int .i64 x.1.now)
  c3 : w.cell? ⟨a.block, a.off + 3, none⟩ = some (.int .i64 x.1.c.k)
  c4 : w.cell? ⟨a.block, a.off + 4, none⟩ = some (.int .u64 x.1.c.a)
  c5 : w.cell? ⟨a.block, a.off + 5, none⟩ = some (.int .u64 x.1.c.b)
  c6 : w.cell? ⟨a.block, a.off + 6, none⟩ = some (.int .i64 x.1.c.r)
  c7 : w.cell? ⟨a.block, a.off + 7, none⟩ = some (.int .i64 x.1.c.g)
  c8 : w.cell? ⟨a.block, a.off + 8, none⟩ = some (.int .i64 x.1.c.t)
  c9 : w.cell? ⟨a.block, a.off + 9, none⟩ = some (.int .i64 x.1.c.s)
  c10 : w.cell? ⟨a.block, a.off + 10, none⟩ = some (.int .i64 x.1.c.v)
  c11 : w.cell? ⟨a.block, a.off + 11, none⟩ = some (.int .i64 x.1.r.e)
  c12 : w.cell? ⟨a.block, a.off + 12, none⟩ = some (.int .i64 x.1.r.v)
  c13 : w.cell? ⟨a.block, a.off + 13, none⟩ = some (.int .i64 x.1.r.b)
  c14 : w.cell? ⟨a.block, a.off + 14, none⟩ = some (.bool x.1.r.t)
  c15 : w.cell? ⟨a.block, a.off + 15, none⟩ = some (.int .i64 x.1.e.k)
  c16 : w.cell? ⟨a.block, a.off + 16, none⟩ = some (.int .i64 x.1.e.co)
  c17 : w.cell? ⟨a.block, a.off + 17, none⟩ = some (.int .i64 x.1.e.c.k)
  c18 : w.cell? ⟨a.block, a.off + 18, none⟩ = some (.int .u64 x.1.e.c.a)
  c19 : w.cell? ⟨a.block, a.off + 19, none⟩ = some (.int .u64 x.1.e.c.b)
  c20 : w.cell? ⟨a.block, a.off + 20, none⟩ = some (.int .i64 x.1.e.c.r)
  c21 : w.cell? ⟨a.block, a.off + 21, none⟩ = some (.int .i64 x.1.e.c.g)
  c22 : w.cell? ⟨a.block, a.off + 22, none⟩ = some (.int .i64 x.1.e.c.t)
  c23 : w.cell? ⟨a.block, a.off + 23, none⟩ = some (.int .i64 x.1.e.c.s)
  c24 : w.cell? ⟨a.block, a.off + 24, none⟩ = some (.int .i64 x.1.e.c.v)
  c25 : w.cell? ⟨a.block, a.off + 25, none⟩ = some (.int .i64 x.1.e.sp)
  c26 : w.cell? ⟨a.block, a.off + 26, none⟩ = some (.slice x.2.o x.2.n x.2.c)
theorem atZ_of {w : World} {ao : Option Addr} {l : List (Ac × Hd)} (h : Row w ao (l.flatMap acC)) (k : Nat) (hk : k < l.length) : ∃ a, ao = some a ∧ AtZ w (a.add (k * 27)) (l.getD k (a0, nilH)) := by
  have g := fun (i : Nat) (hi : i < 27) (u : Value) (hu : (acC (l.getD k (a0, nilH)))[i]? = some u) => h.cell (k * 27 + i) u ((fm_at acC 27 acC_len l (a0, nilH) k i hi hk).trans hu)
  obtain ⟨a, rfl, h0⟩ := g 0 (by omega) _ rfl
  refine ⟨a, rfl, h0, ?_, ?_, ?_, ?_, ?_, ?_, ?_, ?_, ?_, ?_, ?_, ?_, ?_, ?_, ?_, ?_, ?_, ?_, ?_, ?_, ?_, ?_, ?_, ?_, ?_, ?_⟩
  all_goals rw [add_off _ _ (by decide), add_add]
  · obtain ⟨_, e, h⟩ := g 1 (by omega) _ rfl
    cases e
    exact h
  · obtain ⟨_, e, h⟩ := g 2 (by omega) _ rfl
    cases e
    exact h
  · obtain ⟨_, e, h⟩ := g 3 (by omega) _ rfl
    cases e
    exact h
  · obtain ⟨_, e, h⟩ := g 4 (by omega) _ rfl
    cases e
    exact h
  · obtain ⟨_, e, h⟩ := g 5 (by omega) _ rfl
    cases e
    exact h
  · obtain ⟨_, e, h⟩ := g 6 (by omega) _ rfl
    cases e
    exact h
  · obtain ⟨_, e, h⟩ := g 7 (by omega) _ rfl
    cases e
    exact h
  · obtain ⟨_, e, h⟩ := g 8 (by omega) _ rfl
    cases e
    exact h
  · obtain ⟨_, e, h⟩ := g 9 (by omega) _ rfl
    cases e
    exact h
  · obtain ⟨_, e, h⟩ := g 10 (by omega) _ rfl
    cases e
    exact h
  · obtain ⟨_, e, h⟩ := g 11 (by omega) _ rfl
    cases e
    exact h
  · obtain ⟨_, e, h⟩ := g 12 (by omega) _ rfl
    cases e
    exact h
  · obtain ⟨_, e, h⟩ := g 13 (by omega) _ rfl
    cases e
    exact h
  · obtain ⟨_, e, h⟩ := g 14 (by omega) _ rfl
    cases e
    exact h
  · obtain ⟨_, e, h⟩ := g 15 (by omega) _ rfl
    cases e
    exact h
  · obtain ⟨_, e, h⟩ := g 16 (by omega) _ rfl
    cases e
    exact h
  · obtain ⟨_, e, h⟩ := g 17 (by omega) _ rfl
    cases e
    exact h
  · obtain ⟨_, e, h⟩ := g 18 (by omega) _ rfl
    cases e
    exact h
  · obtain ⟨_, e, h⟩ := g 19 (by omega) _ rfl
    cases e
    exact h
  · obtain ⟨_, e, h⟩ := g 20 (by omega) _ rfl
    cases e
    exact h
  · obtain ⟨_, e, h⟩ := g 21 (by omega) _ rfl
    cases e
    exact h
  · obtain ⟨_, e, h⟩ := g 22 (by omega) _ rfl
    cases e
    exact h
  · obtain ⟨_, e, h⟩ := g 23 (by omega) _ rfl
    cases e
    exact h
  · obtain ⟨_, e, h⟩ := g 24 (by omega) _ rfl
    cases e
    exact h
  · obtain ⟨_, e, h⟩ := g 25 (by omega) _ rfl
    cases e
    exact h
  · obtain ⟨_, e, h⟩ := g 26 (by omega) _ rfl
    cases e
    exact h
theorem AtZ.lt {w : World} {a : Addr} {x : Ac × Hd} (h : AtZ w a x) : a.block < w.heap.size := World.block_lt_of_cell? w _ h.c0
theorem AtZ.kept {S : Nat → Prop} {w w' : World} {a : Addr} {x : Ac × Hd} (h : AtZ w a x) (k : Kept S w w') (hn : ¬ S a.block) : AtZ w' a x :=
  ⟨k.cell h.c0 hn, k.cell h.c1 hn, k.cell h.c2 hn, k.cell h.c3 hn, k.cell h.c4 hn, k.cell h.c5 hn, k.cell h.c6 hn, k.cell h.c7 hn, k.cell h.c8 hn, k.cell h.c9 hn, k.cell h.c10 hn, k.cell h.c11 hn, k.cell h.c12 hn, k.cell h.c13 hn, k.cell h.c14 hn, k.cell h.c15 hn, k.cell h.c16 hn, k.cell h.c17 hn, k.cell h.c18 hn, k.cell h.c19 hn, k.cell h.c20 hn, k.cell h.c21 hn, k.cell h.c22 hn, k.cell h.c23 hn, k.cell h.c24 hn, k.cell h.c25 hn, k.cell h.c26 hn⟩
theorem AtZ.below {w w' : World} {a : Addr} {x : Ac × Hd} (h : AtZ w a x) (hb : Below w.heap.size w w') : AtZ w' a x := h.kept (S := fun _ => False) (kept_below hb) id
theorem AtZ.always {w : World} {a : Addr} {x : Ac × Hd} (h : AtZ w a x) : (∀ g : Later w, g.now.cell? a = some (.int .i64 x.1.k)) ∧ (∀ g : Later w, g.now.cell? ⟨a.block, a.off + 1, none⟩ = some (.int .i64 x.1.co)) ∧ (∀ g : Later w, g.now.cell? ⟨a.block, a.off + 2, none⟩ = some (.int .i64 x.1.now)) ∧ (∀ g : Later w, g.now.cell? ⟨a.block, a.off + 3, none⟩ = some (.int .i64 x.1.c.k)) ∧ (∀ g : Later w, g.now.cell? ⟨a.block, a.off + 4, none⟩ = some (.int .u64 x.1.c.a)) ∧ (∀ g : Later w, g.now.cell? ⟨a.block, a.off + 5, none⟩ = some (.int .u64 x.1.c.b)) ∧ (∀ g : Later w, g.now.cell? ⟨a.block, a.off + 6, none⟩ = some (.int .i64 x.1.c.r)) ∧ (∀ g : Later w, g.now.cell? ⟨a.block, a.off + 7, none⟩ = some (.int .i64 x.1.c.g)) ∧ (∀ g : Later w, g.now.cell? ⟨a.block, a.off + 8, none⟩ = some (.int .i64 x.1.c.t)) ∧ (∀ g : Later w, g.now.cell? ⟨a.block, a.off + 9, none⟩ = some (.int .i64 x.1.c.s)) ∧ (∀ g : Later w, g.now.cell? ⟨a.block, a.off + 10, none⟩ = some (.int .i64 x.1.c.v)) ∧ (∀ g : Later w, g.now.cell? ⟨a.block, a.off + 11, none⟩ = some (.int .i64 x.1.r.e)) ∧ (∀ g : Later w, g.now.cell? ⟨a.block, a.off + 12, none⟩ = some (.int .i64 x.1.r.v)) ∧ (∀ g : Later w, g.now.cell? ⟨a.block, a.off + 13, none⟩ = some (.int .i64 x.1.r.b)) ∧ (∀ g : Later w, g.now.cell? ⟨a.block, a.off + 14, none⟩ = some (.bool x.1.r.t)) ∧ (∀ g : Later w, g.now.cell? ⟨a.block, a.off + 15, none⟩ = some (.int .i64 x.1.e.k)) ∧ (∀ g : Later w, g.now.cell? ⟨a.block, a.off + 16, none⟩ = some (.int .i64 x.1.e.co)) ∧ (∀ g : Later w, g.now.cell? ⟨a.block, a.off + 17, none⟩ = some (.int .i64 x.1.e.c.k)) ∧ (∀ g : Later w, g.now.cell? ⟨a.block, a.off + 18, none⟩ = some (.int .u64 x.1.e.c.a)) ∧ (∀ g : Later w, g.now.cell? ⟨a.block, a.off + 19, none⟩ = some (.int .u64 x.1.e.c.b)) ∧ (∀ g : Later w, g.now.cell? ⟨a.block, a.off + 20, none⟩ = some (.int .i64 x.1.e.c.r)) ∧ (∀ g : Later w, g.now.cell? ⟨a.block, a.off + 21, none⟩ = some (.int .i64 x.1.e.c.g)) ∧ (∀ g : Later w, g.now.cell? ⟨a.block, a.off + 22, none⟩ = some (.int .i64 x.1.e.c.t)) ∧ (∀ g : Later w, g.now.cell? ⟨a.block, a.off + 23, none⟩ = some (.int .i64 x.1.e.c.s)) ∧ (∀ g : Later w, g.now.cell? ⟨a.block, a.off + 24, none⟩ = some (.int .i64 x.1.e.c.v)) ∧ (∀ g : Later w, g.now.cell? ⟨a.block, a.off + 25, none⟩ = some (.int .i64 x.1.e.sp)) ∧ (∀ g : Later w, g.now.cell? ⟨a.block, a.off + 26, none⟩ = some (.slice x.2.o x.2.n x.2.c)) :=
  ⟨fun g => g.cell h.c0, fun g => g.cell h.c1, fun g => g.cell h.c2, fun g => g.cell h.c3, fun g => g.cell h.c4, fun g => g.cell h.c5, fun g => g.cell h.c6, fun g => g.cell h.c7, fun g => g.cell h.c8, fun g => g.cell h.c9, fun g => g.cell h.c10, fun g => g.cell h.c11, fun g => g.cell h.c12, fun g => g.cell h.c13, fun g => g.cell h.c14, fun g => g.cell h.c15, fun g => g.cell h.c16, fun g => g.cell h.c17, fun g => g.cell h.c18, fun g => g.cell h.c19, fun g => g.cell h.c20, fun g => g.cell h.c21, fun g => g.cell h.c22, fun g => g.cell h.c23, fun g => g.cell h.c24, fun g => g.cell h.c25, fun g => g.cell h.c26⟩
/-- A box. -/
structure Cb (w : World) (b : Nat) (x : C) : Prop where
  h : w.heap[b]? = some (.cells #[.int .i64 x.k, .int .u64 x.a, .int .u64 x.b, .int .i64 x.r, .int .i64 x.g, .int .i64 x.t, .int .i64 x.s, .int .i64 x.v] 28)
theorem Cb.at {w : World} {b : Nat} {x : C} (g : Cb w b x) : AtC w ⟨b, 0, none⟩ x := by constructor <;> simp [World.cell?, g.h]
theorem Cb.fz {w : World} {b : Nat} {x : C} (g : Cb w b x) (j : Nat) : w.frozen? ⟨b, j, none⟩ = false := by simp [World.frozen?, g.h]
theorem Cb.lt {w : World} {b : Nat} {x : C} (g : Cb w b x) : b < w.heap.size := World.block_lt_of_cell? w _ g.at.c0
theorem Cb.below {w w' : World} {b : Nat} {x : C} (g : Cb w b x) (q : Below w.heap.size w w') : Cb w' b x := ⟨(q.block b g.lt).trans g.h⟩
theorem Cb.kept {S : Nat → Prop} {w w' : World} {b : Nat} {x : C} (g : Cb w b x) (k : Kept S w w') (hn : ¬ S b) : Cb w' b x := ⟨(k.block b g.lt hn).trans g.h⟩
theorem cb_new (w : World) (x : C) : Cb (w.alloc (.cells #[.int .i64 x.k, .int .u64 x.a, .int .u64 x.b, .int .i64 x.r, .int .i64 x.g, .int .i64 x.t, .int .i64 x.s, .int .i64 x.v] 28)) w.heap.size x := ⟨heap_alloc_new w _⟩
/-- A box. -/
structure Rb (w : World) (b : Nat) (x : Rp) : Prop where
  h : w.heap[b]? = some (.cells #[.int .i64 x.e, .int .i64 x.v, .int .i64 x.b, .bool x.t] 31)
theorem Rb.at {w : World} {b : Nat} {x : Rp} (g : Rb w b x) : AtR w ⟨b, 0, none⟩ x := by constructor <;> simp [World.cell?, g.h]
theorem Rb.fz {w : World} {b : Nat} {x : Rp} (g : Rb w b x) (j : Nat) : w.frozen? ⟨b, j, none⟩ = false := by simp [World.frozen?, g.h]
theorem Rb.lt {w : World} {b : Nat} {x : Rp} (g : Rb w b x) : b < w.heap.size := World.block_lt_of_cell? w _ g.at.c0
theorem Rb.below {w w' : World} {b : Nat} {x : Rp} (g : Rb w b x) (q : Below w.heap.size w w') : Rb w' b x := ⟨(q.block b g.lt).trans g.h⟩
theorem Rb.kept {S : Nat → Prop} {w w' : World} {b : Nat} {x : Rp} (g : Rb w b x) (k : Kept S w w') (hn : ¬ S b) : Rb w' b x := ⟨(k.block b g.lt hn).trans g.h⟩
theorem rb_new (w : World) (x : Rp) : Rb (w.alloc (.cells #[.int .i64 x.e, .int .i64 x.v, .int .i64 x.b, .bool x.t] 31)) w.heap.size x := ⟨heap_alloc_new w _⟩
/-- A box. -/
structure Sb (w : World) (b : Nat) (x : Sp) : Prop where
  h : w.heap[b]? = some (.cells #[.int .i64 x.co, .int .i64 x.c.k, .int .u64 x.c.a, .int .u64 x.c.b, .int .i64 x.c.r, .int .i64 x.c.g, .int .i64 x.c.t, .int .i64 x.c.s, .int .i64 x.c.v, .int .i64 x.st, .int .i64 x.en, .int .i64 x.r.e, .int .i64 x.r.v, .int .i64 x.r.b, .bool x.r.t] 50)
theorem Sb.at {w : World} {b : Nat} {x : Sp} (g : Sb w b x) : AtS w ⟨b, 0, none⟩ x := by constructor <;> simp [World.cell?, g.h]
theorem Sb.fz {w : World} {b : Nat} {x : Sp} (g : Sb w b x) (j : Nat) : w.frozen? ⟨b, j, none⟩ = false := by simp [World.frozen?, g.h]
theorem Sb.lt {w : World} {b : Nat} {x : Sp} (g : Sb w b x) : b < w.heap.size := World.block_lt_of_cell? w _ g.at.c0
theorem Sb.below {w w' : World} {b : Nat} {x : Sp} (g : Sb w b x) (q : Below w.heap.size w w') : Sb w' b x := ⟨(q.block b g.lt).trans g.h⟩
theorem Sb.kept {S : Nat → Prop} {w w' : World} {b : Nat} {x : Sp} (g : Sb w b x) (k : Kept S w w') (hn : ¬ S b) : Sb w' b x := ⟨(k.block b g.lt hn).trans g.h⟩
theorem sb_new (w : World) (x : Sp) : Sb (w.alloc (.cells #[.int .i64 x.co, .int .i64 x.c.k, .int .u64 x.c.a, .int .u64 x.c.b, .int .i64 x.c.r, .int .i64 x.c.g, .int .i64 x.c.t, .int .i64 x.c.s, .int .i64 x.c.v, .int .i64 x.st, .int .i64 x.en, .int .i64 x.r.e, .int .i64 x.r.v, .int .i64 x.r.b, .bool x.r.t] 50)) w.heap.size x := ⟨heap_alloc_new w _⟩
/-- A box. -/
structure Eb (w : World) (b : Nat) (x : Ev × Hd) : Prop where
  h : w.heap[b]? = some (.cells #[.int .i64 x.1.k, .int .i64 x.1.co, .int .i64 x.1.c.k, .int .u64 x.1.c.a, .int .u64 x.1.c.b, .int .i64 x.1.c.r, .int .i64 x.1.c.g, .int .i64 x.1.c.t, .int .i64 x.1.c.s, .int .i64 x.1.c.v, .int .i64 x.1.sp, .slice x.2.o x.2.n x.2.c] 34)
theorem Eb.at {w : World} {b : Nat} {x : Ev × Hd} (g : Eb w b x) : AtE w ⟨b, 0, none⟩ x := by constructor <;> simp [World.cell?, g.h]
theorem Eb.fz {w : World} {b : Nat} {x : Ev × Hd} (g : Eb w b x) (j : Nat) : w.frozen? ⟨b, j, none⟩ = false := by simp [World.frozen?, g.h]
theorem Eb.lt {w : World} {b : Nat} {x : Ev × Hd} (g : Eb w b x) : b < w.heap.size := World.block_lt_of_cell? w _ g.at.c0
theorem Eb.below {w w' : World} {b : Nat} {x : Ev × Hd} (g : Eb w b x) (q : Below w.heap.size w w') : Eb w' b x := ⟨(q.block b g.lt).trans g.h⟩
theorem Eb.kept {S : Nat → Prop} {w w' : World} {b : Nat} {x : Ev × Hd} (g : Eb w b x) (k : Kept S w w') (hn : ¬ S b) : Eb w' b x := ⟨(k.block b g.lt hn).trans g.h⟩
theorem eb_new (w : World) (x : Ev × Hd) : Eb (w.alloc (.cells #[.int .i64 x.1.k, .int .i64 x.1.co, .int .i64 x.1.c.k, .int .u64 x.1.c.a, .int .u64 x.1.c.b, .int .i64 x.1.c.r, .int .i64 x.1.c.g, .int .i64 x.1.c.t, .int .i64 x.1.c.s, .int .i64 x.1.c.v, .int .i64 x.1.sp, .slice x.2.o x.2.n x.2.c] 34)) w.heap.size x := ⟨heap_alloc_new w _⟩
/-- A box. -/
structure Zb (w : World) (b : Nat) (x : Ac × Hd) : Prop where
  h : w.heap[b]? = some (.cells #[.int .i64 x.1.k, .int .i64 x.1.co, .int .i64 x.1.now, .int .i64 x.1.c.k, .int .u64 x.1.c.a, .int .u64 x.1.c.b, .int .i64 x.1.c.r, .int .i64 x.1.c.g, .int .i64 x.1.c.t, .int .i64 x.1.c.s, .int .i64 x.1.c.v, .int .i64 x.1.r.e, .int .i64 x.1.r.v, .int .i64 x.1.r.b, .bool x.1.r.t, .int .i64 x.1.e.k, .int .i64 x.1.e.co, .int .i64 x.1.e.c.k, .int .u64 x.1.e.c.a, .int .u64 x.1.e.c.b, .int .i64 x.1.e.c.r, .int .i64 x.1.e.c.g, .int .i64 x.1.e.c.t, .int .i64 x.1.e.c.s, .int .i64 x.1.e.c.v, .int .i64 x.1.e.sp, .slice x.2.o x.2.n x.2.c] 36)
theorem Zb.at {w : World} {b : Nat} {x : Ac × Hd} (g : Zb w b x) : AtZ w ⟨b, 0, none⟩ x := by constructor <;> simp [World.cell?, g.h]
theorem Zb.fz {w : World} {b : Nat} {x : Ac × Hd} (g : Zb w b x) (j : Nat) : w.frozen? ⟨b, j, none⟩ = false := by simp [World.frozen?, g.h]
theorem Zb.lt {w : World} {b : Nat} {x : Ac × Hd} (g : Zb w b x) : b < w.heap.size := World.block_lt_of_cell? w _ g.at.c0
theorem Zb.below {w w' : World} {b : Nat} {x : Ac × Hd} (g : Zb w b x) (q : Below w.heap.size w w') : Zb w' b x := ⟨(q.block b g.lt).trans g.h⟩
theorem Zb.kept {S : Nat → Prop} {w w' : World} {b : Nat} {x : Ac × Hd} (g : Zb w b x) (k : Kept S w w') (hn : ¬ S b) : Zb w' b x := ⟨(k.block b g.lt hn).trans g.h⟩
theorem zb_new (w : World) (x : Ac × Hd) : Zb (w.alloc (.cells #[.int .i64 x.1.k, .int .i64 x.1.co, .int .i64 x.1.now, .int .i64 x.1.c.k, .int .u64 x.1.c.a, .int .u64 x.1.c.b, .int .i64 x.1.c.r, .int .i64 x.1.c.g, .int .i64 x.1.c.t, .int .i64 x.1.c.s, .int .i64 x.1.c.v, .int .i64 x.1.r.e, .int .i64 x.1.r.v, .int .i64 x.1.r.b, .bool x.1.r.t, .int .i64 x.1.e.k, .int .i64 x.1.e.co, .int .i64 x.1.e.c.k, .int .u64 x.1.e.c.a, .int .u64 x.1.e.c.b, .int .i64 x.1.e.c.r, .int .i64 x.1.e.c.g, .int .i64 x.1.e.c.t, .int .i64 x.1.e.c.s, .int .i64 x.1.e.c.v, .int .i64 x.1.e.sp, .slice x.2.o x.2.n x.2.c] 36)) w.heap.size x := ⟨heap_alloc_new w _⟩
/-- A history's box. -/
structure Hb (w : World) (b : Nat) (x : Hh) : Prop where
  h : w.heap[b]? = some (.cells #[.slice x.s.o x.s.n x.s.c, .slice x.e.o x.e.n x.e.c] 25)
theorem Hb.c0 {w : World} {b : Nat} {x : Hh} (g : Hb w b x) : w.cell? ⟨b, 0, none⟩ = some (.slice x.s.o x.s.n x.s.c) := by simp [World.cell?, g.h]
theorem Hb.c1 {w : World} {b : Nat} {x : Hh} (g : Hb w b x) : w.cell? ⟨b, 1, none⟩ = some (.slice x.e.o x.e.n x.e.c) := by simp [World.cell?, g.h]
theorem Hb.fz {w : World} {b : Nat} {x : Hh} (g : Hb w b x) (j : Nat) : w.frozen? ⟨b, j, none⟩ = false := by simp [World.frozen?, g.h]
theorem Hb.lt {w : World} {b : Nat} {x : Hh} (g : Hb w b x) : b < w.heap.size := World.block_lt_of_cell? w _ g.c0
theorem Hb.below {w w' : World} {b : Nat} {x : Hh} (g : Hb w b x) (q : Below w.heap.size w w') : Hb w' b x := ⟨(q.block b g.lt).trans g.h⟩
theorem Hb.kept {S : Nat → Prop} {w w' : World} {b : Nat} {x : Hh} (g : Hb w b x) (k : Kept S w w') (hn : ¬ S b) : Hb w' b x := ⟨(k.block b g.lt hn).trans g.h⟩
theorem hb_new (w : World) (x : Hh) : Hb (w.alloc (.cells #[.slice x.s.o x.s.n x.s.c, .slice x.e.o x.e.n x.e.c] 25)) w.heap.size x := ⟨heap_alloc_new w _⟩
abbrev put2 (w : World) (b : Nat) (x : Hh) : World := (w.setCell ⟨b, 0, none⟩ (.slice x.s.o x.s.n x.s.c)).setCell ⟨b, 1, none⟩ (.slice x.e.o x.e.n x.e.c)
theorem Hb.put {w : World} {b : Nat} {x x' : Hh} (g : Hb w b x) : Hb (put2 w b x') b x' := ⟨by simp [put2, World.setCell, Array.getElem?_modify, g.h]⟩
theorem Hb.setS {w : World} {b : Nat} {x : Hh} (g : Hb w b x) (z : Hd) : Hb (w.setCell ⟨b, 0, none⟩ (.slice z.o z.n z.c)) b ⟨z, x.e⟩ := ⟨by simp [World.setCell, Array.getElem?_modify, g.h]⟩
theorem Hb.setE {w : World} {b : Nat} {x : Hh} (g : Hb w b x) (z : Hd) : Hb (w.setCell ⟨b, 1, none⟩ (.slice z.o z.n z.c)) b ⟨x.s, z⟩ := ⟨by simp [World.setCell, Array.getElem?_modify, g.h]⟩
theorem kept_put2 (w : World) (b : Nat) (x : Hh) : Kept (fun i => i = b) w (put2 w b x) := (kept_set (fun i => i = b) w ⟨b, 0, none⟩ _ rfl).setCell ⟨b, 1, none⟩ _ (fun _ => rfl)
theorem put2_low {a w : World} {b : Nat} {x : Hh} (h : Below a.heap.size a w) (hb : a.heap.size ≤ b) : Below a.heap.size a (put2 w b x) := q_set (q_set h hb _) hb _
/-- No list whose parts begin with a number lies in a history's box. -/
theorem Hb.off {α : Type} {E : α → List Value} {w : World} {b : Nat} {x : Hh} {ao : Option Addr} {l : List α} (g : Hb w b x) (hE : ∀ a, ∃ v r, E a = .int .i64 v :: r) (r : Row w ao (l.flatMap E)) : Off (fun i => i = b) ao (l.flatMap E) := fun h0 a e s => by
  have s : a.block = b := s
  cases l with
  | nil => simp at h0
  | cons z r' =>
    obtain ⟨v, t, hz⟩ := hE z
    obtain ⟨a', e', hc⟩ := r.cell 0 (.int .i64 v) (by simp [hz])
    rw [e] at e'
    cases e'
    rw [add_zero_addr] at hc
    unfold World.cell? at hc
    simp only [s, g.h] at hc
    split at hc
    · cases hc
    · match a.off, hc with
      | 0, hc => simp at hc
      | 1, hc => simp at hc
      | n + 2, hc => simp at hc
theorem spC_int : ∀ a, ∃ v r, spC a = .int .i64 v :: r := fun _ => ⟨_, _, rfl⟩
theorem dnC_int : ∀ a, ∃ v r, dnC a = .int .i64 v :: r := fun _ => ⟨_, _, rfl⟩
theorem evC_int : ∀ a, ∃ v r, evC a = .int .i64 v :: r := fun _ => ⟨_, _, rfl⟩
theorem acC_int : ∀ a, ∃ v r, acC a = .int .i64 v :: r := fun _ => ⟨_, _, rfl⟩

/-! ### Lists of spans, replies, events, acts; histories -/
abbrev HasS (w : World) (y : Hd) (l : List Sp) : Prop := HasL spC w y l
abbrev HasD (w : World) (y : Hd) (l : List Dn) : Prop := HasL dnC w y l
abbrev MineS (w : World) (B : Nat) (y : Hd) (l : List Sp) : Prop := MineL spC 50 15 w B y l
abbrev MineD (w : World) (B : Nat) (y : Hd) (l : List Dn) : Prop := MineL dnC 78 5 w B y l
abbrev MineX (w : World) (B : Nat) (y : Hd) (l : List (Ev × Hd)) : Prop := MineL evC 34 12 w B y l
/-- A list of events that lies somewhere, and all their replies. -/
structure HasX (w : World) (y : Hd) (l : List (Ev × Hd)) : Prop where
  has : HasL evC w y l
  each : ∀ x ∈ l, HasD w x.2 x.1.l
def HasE (w : World) (y : Hd) (l : List Ev) : Prop := ∃ xs : List (Ev × Hd), xs.map (·.1) = l ∧ HasX w y xs
theorem HasX.below {w w' : World} {y : Hd} {l : List (Ev × Hd)} (h : HasX w y l) (b : Below w.heap.size w w') : HasX w' y l := ⟨h.has.below b, fun x hx => (h.each x hx).below b⟩
theorem HasE.below {w w' : World} {y : Hd} {l : List Ev} (h : HasE w y l) (b : Below w.heap.size w w') : HasE w' y l := by
  obtain ⟨xs, e, h⟩ := h
  exact ⟨xs, e, h.below b⟩
theorem HasE.len {w : World} {y : Hd} {l : List Ev} (h : HasE w y l) : y.n = l.length := by
  obtain ⟨xs, rfl, h⟩ := h
  rw [h.has.len, List.length_map]
theorem hasE_nil (w : World) : HasE w nilH [] := ⟨[], rfl, hasL_nil _ _, fun x hx => by cases hx⟩
theorem HasX.put {w : World} {b : Nat} {x x' : Hh} {y : Hd} {l : List (Ev × Hd)} (g : Hb w b x) (h : HasX w y l) : HasX (put2 w b x') y l :=
  ⟨h.has.kept (kept_put2 w b x') (g.off evC_int h.has.row), fun z hz => (h.each z hz).kept (kept_put2 w b x') (g.off dnC_int (h.each z hz).row)⟩
theorem HasE.put {w : World} {b : Nat} {x x' : Hh} {y : Hd} {l : List Ev} (g : Hb w b x) (h : HasE w y l) : HasE (put2 w b x') y l := by
  obtain ⟨xs, e, h⟩ := h
  exact ⟨xs, e, h.put g⟩
theorem HasS.put {w : World} {b : Nat} {x x' : Hh} {y : Hd} {l : List Sp} (g : Hb w b x) (h : HasS w y l) : HasS (put2 w b x') y l := h.kept (kept_put2 w b x') (g.off spC_int h.row)
/-- A HISTORY THAT LIES SOMEWHERE. -/
structure HasH (w : World) (x : Hh) (h : Hs) : Prop where
  s : HasS w x.s h.s
  e : HasE w x.e h.e
theorem HasH.below {w w' : World} {x : Hh} {h : Hs} (g : HasH w x h) (b : Below w.heap.size w w') : HasH w' x h := ⟨g.s.below b, g.e.below b⟩
theorem HasH.put {w : World} {b : Nat} {x x' z : Hh} {h : Hs} (g : Hb w b x) (k : HasH w z h) : HasH (put2 w b x') z h := ⟨HasS.put g k.s, k.e.put g⟩
theorem hasH_nil (w : World) : HasH w nilX h0 := ⟨hasL_nil _ _, hasE_nil _⟩
theorem HasL.at {α : Type} {E : α → List Value} {w : World} {y : Hd} {l : List α} (h : HasL E w y l) {j : Nat} (hj : j < y.n) : j < l.length := by rw [← h.len]; exact hj
theorem HasX.one {w : World} {y : Hd} {l : List (Ev × Hd)} (h : HasX w y l) {j : Nat} (hj : j < l.length) : HasD w (l.getD j (e0, nilH)).2 (l.getD j (e0, nilH)).1.l := by
  have e : l.getD j (e0, nilH) = l[j] := by simp [List.getD, hj]
  rw [e]
  exact h.each _ (List.getElem_mem hj)
theorem E_map {xs : List (Ev × Hd)} {j : Nat} (hj : j < xs.length) : E (xs.map (·.1)) j = (xs.getD j (e0, nilH)).1 := by simp [E, List.getD, hj]

theorem one_sp (w : World) (x : Sp) (t : TypeId) : Row (w.alloc (.cells #[.int .i64 x.co, .int .i64 x.c.k, .int .u64 x.c.a, .int .u64 x.c.b, .int .i64 x.c.r, .int .i64 x.c.g, .int .i64 x.c.t, .int .i64 x.c.s, .int .i64 x.c.v, .int .i64 x.st, .int .i64 x.en, .int .i64 x.r.e, .int .i64 x.r.v, .int .i64 x.r.b, .bool x.r.t] t)) (some ⟨w.heap.size, 0, none⟩) (List.flatMap spC [x]) := by
  refine ⟨fun j u hu => ⟨_, rfl, ?_⟩⟩
  have hj : j < 15 := by have := (List.getElem?_eq_some_iff.1 hu).1; simpa [spC] using this
  match j, hu with
  | 0, hu => simp [spC] at hu; subst hu; simp [Addr.add]
  | 1, hu => simp [spC] at hu; subst hu; simp [Addr.add]
  | 2, hu => simp [spC] at hu; subst hu; simp [Addr.add]
  | 3, hu => simp [spC] at hu; subst hu; simp [Addr.add]
  | 4, hu => simp [spC] at hu; subst hu; simp [Addr.add]
  | 5, hu => simp [spC] at hu; subst hu; simp [Addr.add]
  | 6, hu => simp [spC] at hu; subst hu; simp [Addr.add]
  | 7, hu => simp [spC] at hu; subst hu; simp [Addr.add]
  | 8, hu => simp [spC] at hu; subst hu; simp [Addr.add]
  | 9, hu => simp [spC] at hu; subst hu; simp [Addr.add]
  | 10, hu => simp [spC] at hu; subst hu; simp [Addr.add]
  | 11, hu => simp [spC] at hu; subst hu; simp [Addr.add]
  | 12, hu => simp [spC] at hu; subst hu; simp [Addr.add]
  | 13, hu => simp [spC] at hu; subst hu; simp [Addr.add]
  | 14, hu => simp [spC] at hu; subst hu; simp [Addr.add]
  | n + 15, _ => omega
theorem one_ev (w : World) (x : Ev × Hd) (t : TypeId) : Row (w.alloc (.cells #[.int .i64 x.1.k, .int .i64 x.1.co, .int .i64 x.1.c.k, .int .u64 x.1.c.a, .int .u64 x.1.c.b, .int .i64 x.1.c.r, .int .i64 x.1.c.g, .int .i64 x.1.c.t, .int .i64 x.1.c.s, .int .i64 x.1.c.v, .int .i64 x.1.sp, .slice x.2.o x.2.n x.2.c] t)) (some ⟨w.heap.size, 0, none⟩) (List.flatMap evC [x]) := by
  refine ⟨fun j u hu => ⟨_, rfl, ?_⟩⟩
  have hj : j < 12 := by have := (List.getElem?_eq_some_iff.1 hu).1; simpa [evC] using this
  match j, hu with
  | 0, hu => simp [evC] at hu; subst hu; simp [Addr.add]
  | 1, hu => simp [evC] at hu; subst hu; simp [Addr.add]
  | 2, hu => simp [evC] at hu; subst hu; simp [Addr.add]
  | 3, hu => simp [evC] at hu; subst hu; simp [Addr.add]
  | 4, hu => simp [evC] at hu; subst hu; simp [Addr.add]
  | 5, hu => simp [evC] at hu; subst hu; simp [Addr.add]
  | 6, hu => simp [evC] at hu; subst hu; simp [Addr.add]
  | 7, hu => simp [evC] at hu; subst hu; simp [Addr.add]
  | 8, hu => simp [evC] at hu; subst hu; simp [Addr.add]
  | 9, hu => simp [evC] at hu; subst hu; simp [Addr.add]
  | 10, hu => simp [evC] at hu; subst hu; simp [Addr.add]
  | 11, hu => simp [evC] at hu; subst hu; simp [Addr.add]
  | n + 12, _ => omega
theorem infoS : (Try.prog.info? 50).map (fun i => (i.zero, i.size, i.bytes)) = some (some (.agg #[.int .i64 0, .int .i64 0, .int .u64 0, .int .u64 0, .int .i64 0, .int .i64 0, .int .i64 0, .int .i64 0, .int .i64 0, .int .i64 0, .int .i64 0, .int .i64 0, .int .i64 0, .int .i64 0, .bool false]), 15, 120) := by kernel_rfl
theorem infoE : (Try.prog.info? 34).map (fun i => (i.zero, i.size, i.bytes)) = some (some (.agg #[.int .i64 0, .int .i64 0, .int .i64 0, .int .u64 0, .int .u64 0, .int .i64 0, .int .i64 0, .int .i64 0, .int .i64 0, .int .i64 0, .int .i64 0, .slice none 0 0]), 12, 112) := by kernel_rfl
theorem infoD : (Try.prog.info? 78).map (fun i => (i.zero, i.size, i.bytes)) = some (some (.agg #[.int .i64 0, .int .i64 0, .int .i64 0, .int .i64 0, .bool false]), 5, 40) := by kernel_rfl

/-! ### '==' -/
theorem eqc_run (m : Nat) (a b : C) (w : World) : (Op.equalIn (m + 2) 28 (.agg #[.int .i64 a.k, .int .u64 a.a, .int .u64 a.b, .int .i64 a.r, .int .i64 a.g, .int .i64 a.t, .int .i64 a.s, .int .i64 a.v]) (.agg #[.int .i64 b.k, .int .u64 b.a, .int .u64 b.b, .int .i64 b.r, .int .i64 b.g, .int .i64 b.t, .int .i64 b.s, .int .i64 b.v])).run Try.prog w = .ok (eqC a b) w := by
  have u2 := Try.underlying2
  have a2 := Try.isAgg2
  have z2 := Try.sizeOf2
  have u3 := Try.underlying3
  have a3 := Try.isAgg3
  have z3 := Try.sizeOf3
  have u5 := Try.underlying26
  have a5 := Try.isAgg26
  have z5 := Try.sizeOf26
  have hS : Try.prog.underlying 28 = some (.struct (Try.prog.fieldsOf 28)) := by kernel_rfl
  rw [show m + 2 = (m + 1) + 1 from rfl, run_equalIn_agg w (m + 1) 28 _ _ hS (by kernel_rfl)]
  simp only [Program.fieldsOf, Try.underlying28]
  go_simp
  clear hS u2 a2 z2 u3 a3 z3 u5 a5 z5
  cases a
  cases b
  simp only [eqC]
  repeat' split
  all_goals simp_all
theorem eqr_run (m : Nat) (a b : Rp) (w : World) : (Op.equalIn (m + 2) 31 (.agg #[.int .i64 a.e, .int .i64 a.v, .int .i64 a.b, .bool a.t]) (.agg #[.int .i64 b.e, .int .i64 b.v, .int .i64 b.b, .bool b.t])).run Try.prog w = .ok (eqR a b) w := by
  have u2 := Try.underlying2
  have a2 := Try.isAgg2
  have z2 := Try.sizeOf2
  have u3 := Try.underlying3
  have a3 := Try.isAgg3
  have z3 := Try.sizeOf3
  have u4 := Try.underlying4
  have a4 := Try.isAgg4
  have z4 := Try.sizeOf4
  have u5 := Try.underlying29
  have a5 := Try.isAgg29
  have z5 := Try.sizeOf29
  have hS : Try.prog.underlying 31 = some (.struct (Try.prog.fieldsOf 31)) := by kernel_rfl
  rw [show m + 2 = (m + 1) + 1 from rfl, run_equalIn_agg w (m + 1) 31 _ _ hS (by kernel_rfl)]
  simp only [Program.fieldsOf, Try.underlying31]
  go_simp
  clear hS u2 a2 z2 u3 a3 z3 u4 a4 z4 u5 a5 z5
  cases a
  cases b
  simp only [eqR]
  repeat' split
  all_goals simp_all

theorem eqd_run (m : Nat) (a b : Dn) (w : World) : (Op.equalIn (m + 3) 78 (.agg #[.int .i64 a.c, .int .i64 a.r.e, .int .i64 a.r.v, .int .i64 a.r.b, .bool a.r.t]) (.agg #[.int .i64 b.c, .int .i64 b.r.e, .int .i64 b.r.v, .int .i64 b.r.b, .bool b.r.t])).run Try.prog w = .ok (eqD a b) w := by
  have u3 := Try.underlying3
  have a3 := Try.isAgg3
  have z3 := Try.sizeOf3
  have a5 := Try.isAgg31
  have z5 := Try.sizeOf31
  have hS : Try.prog.underlying 78 = some (.struct (Try.prog.fieldsOf 78)) := by kernel_rfl
  rw [show m + 3 = (m + 2) + 1 from rfl, run_equalIn_agg w (m + 2) 78 _ _ hS (by kernel_rfl)]
  simp only [Program.fieldsOf, Try.underlying78]
  have h5 := eqr_run m a.r b.r
  go_simp
  clear hS u3 a3 z3 a5 z5 h5
  unfold eqD
  cases h : eqR a.r b.r <;> by_cases h1 : a.c = b.c <;> simp [h1]
theorem eqs_run (m : Nat) (a b : Sp) (w : World) : (Op.equalIn (m + 3) 50 (.agg #[.int .i64 a.co, .int .i64 a.c.k, .int .u64 a.c.a, .int .u64 a.c.b, .int .i64 a.c.r, .int .i64 a.c.g, .int .i64 a.c.t, .int .i64 a.c.s, .int .i64 a.c.v, .int .i64 a.st, .int .i64 a.en, .int .i64 a.r.e, .int .i64 a.r.v, .int .i64 a.r.b, .bool a.r.t]) (.agg #[.int .i64 b.co, .int .i64 b.c.k, .int .u64 b.c.a, .int .u64 b.c.b, .int .i64 b.c.r, .int .i64 b.c.g, .int .i64 b.c.t, .int .i64 b.c.s, .int .i64 b.c.v, .int .i64 b.st, .int .i64 b.en, .int .i64 b.r.e, .int .i64 b.r.v, .int .i64 b.r.b, .bool b.r.t])).run Try.prog w = .ok (eqS a b) w := by
  have u3 := Try.underlying3
  have a3 := Try.isAgg3
  have z3 := Try.sizeOf3
  have a5 := Try.isAgg31
  have z5 := Try.sizeOf31
  have a6 := Try.isAgg28
  have z6 := Try.sizeOf28
  have hS : Try.prog.underlying 50 = some (.struct (Try.prog.fieldsOf 50)) := by kernel_rfl
  rw [show m + 3 = (m + 2) + 1 from rfl, run_equalIn_agg w (m + 2) 50 _ _ hS (by kernel_rfl)]
  simp only [Program.fieldsOf, Try.underlying50]
  have h5 := eqr_run m a.r b.r
  have h6 := eqc_run m a.c b.c
  go_simp
  clear hS u3 a3 z3 a5 z5 h5 a6 z6 h6
  unfold eqS
  cases h : eqR a.r b.r <;> cases h9 : eqC a.c b.c <;> by_cases h1 : a.co = b.co <;> by_cases h2 : a.st = b.st <;> by_cases h3 : a.en = b.en <;> simp [h1, h2, h3]
end Go.Proofs.Ytmnkbkhfonngeaa.Hi
