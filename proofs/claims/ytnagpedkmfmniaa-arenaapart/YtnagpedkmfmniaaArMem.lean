/- Arenas in memory: things, lists, and boxes of them. -/
import Derived.Test.YtnagpedkmfmniaaHaMem
import Derived.Test.YtnagpedkmfmniaaArMath
namespace Go.Proofs.Ytnagpedkmfmniaa.Ar
open Go.RowKit Go.Proofs.Ytnagpedkmfmniaa.Ha

def thC (t : Th) : List Value := [.int .i64 t.ty, .int .i64 t.gen, .int .i64 t.refs, .int .i64 t.st, .int .i64 t.sz, .int .i64 t.wa, .int .i64 t.fm, .int .i64 t.va]
def ths (l : List Th) : List Value := l.flatMap thC
theorem len_ths (l : List Th) : (ths l).length = l.length * 8 := by
  induction l with
  | nil => rfl
  | cons o r ih => simp only [ths, List.flatMap_cons, List.length_append, List.length_cons] at ih ⊢; rw [ih]; simp [thC]; omega
theorem ths_at (l : List Th) (j i : Nat) (hi : i < 8) (h : j < l.length) : (ths l)[j * 8 + i]? = (thC (l.getD j Th.zero))[i]? := by
  induction l generalizing j with
  | nil => simp at h
  | cons o r ih =>
    cases j with
    | zero => simp only [ths, List.flatMap_cons]; rw [List.getElem?_append_left (by simp [thC]; omega)]; simp
    | succ j =>
      have := ih j (by simpa using h)
      simp only [ths, List.flatMap_cons] at this ⊢
      rw [List.getElem?_append_right (by simp [thC]; omega)]
      rw [show (j + 1) * 8 + i - (thC o).length = j * 8 + i by simp [thC]; omega, this]
      simp
theorem ths_snoc (l : List Th) (t : Th) : ths (l ++ [t]) = ths l ++ thC t := by simp [ths]
theorem thC_one (t : Th) : ∀ u ∈ thC t, u.oneCell' = true := by
  intro u hu
  simp only [thC, List.mem_cons, List.not_mem_nil, or_false] at hu
  rcases hu with rfl | rfl | rfl | rfl | rfl | rfl | rfl | rfl <;> rfl
theorem ths_one (l : List Th) : ∀ u ∈ ths l, u.oneCell' = true := by
  intro u hu
  simp only [ths, List.mem_flatMap] at hu
  obtain ⟨r, _, h⟩ := hu
  exact thC_one r u h
theorem ths_set (l : List Th) (k : Nat) (t : Th) (h : k < l.length) : ((((((((((ths l).set (k * 8) (.int .i64 t.ty)).set (k * 8 + 1) (.int .i64 t.gen)).set (k * 8 + 2) (.int .i64 t.refs)).set (k * 8 + 3) (.int .i64 t.st)).set (k * 8 + 4) (.int .i64 t.sz)).set (k * 8 + 5) (.int .i64 t.wa)).set (k * 8 + 6) (.int .i64 t.fm)).set (k * 8 + 7) (.int .i64 t.va))) = ths (l.set k t) := by
  induction l generalizing k with
  | nil => simp at h
  | cons o r ih =>
    cases k with
    | zero => simp [ths, thC]
    | succ k =>
      have hk := ih k (by simpa using h)
      have e : ths (o :: r) = thC o ++ ths r := by simp [ths]
      have e2 : ths ((o :: r).set (k + 1) t) = thC o ++ ths (r.set k t) := by simp [ths]
      rw [e, e2, ← hk]
      have hs : ∀ (i : Nat) (u : Value) (x : List Value), (thC o ++ x).set ((k + 1) * 8 + i) u = thC o ++ x.set (k * 8 + i) u := by
        intro i u x
        rw [List.set_append_right _ _ (by simp [thC]; omega)]
        congr 2
        simp [thC]
        omega
      have h0 := hs 0
      simp only [Nat.add_zero] at h0
      rw [h0, hs, hs, hs, hs, hs, hs, hs]

/-- Things that lie somewhere. -/
structure HasT (w : World) (ao : Option Addr) (n cap : Nat) (l : List Th) : Prop where
  len : n = l.length
  nil : ao = none → cap = 0
  le : n ≤ cap
  row : Row w ao (ths l)
theorem HasT.below {w w' : World} {ao : Option Addr} {n cap : Nat} {l : List Th} (h : HasT w ao n cap l) (hb : Below w.heap.size w w') : HasT w' ao n cap l := ⟨h.len, h.nil, h.le, h.row.below hb⟩
/-- A slice's head. -/
structure Hd where
  o : Option Addr
  n : Nat
  c : Nat
def Hd.v (h : Hd) : Value := .slice h.o h.n h.c
def Hd.zero : Hd := ⟨none, 0, 0⟩
def hds (hs : List Hd) : List Value := hs.map Hd.v
theorem hds_one (hs : List Hd) : ∀ u ∈ hds hs, u.oneCell' = true := by
  intro u hu
  simp only [hds, List.mem_map] at hu
  obtain ⟨x, _, rfl⟩ := hu
  rfl
theorem len_hds (hs : List Hd) : (hds hs).length = hs.length := by simp [hds]
theorem hds_at (hs : List Hd) (j : Nat) (h : j < hs.length) : (hds hs)[j]? = some (hs.getD j Hd.zero).v := by simp [hds, List.getD, h]
/-- Lists of numbers: their heads, and each where it lies. -/
structure HasF (w : World) (ao : Option Addr) (n cap : Nat) (hs : List Hd) (fr : List (List Int)) : Prop where
  len : n = fr.length
  hl : hs.length = fr.length
  nil : ao = none → cap = 0
  le : n ≤ cap
  row : Row w ao (hds hs)
  each : ∀ i, i < fr.length → Has w (hs.getD i Hd.zero).o (hs.getD i Hd.zero).n (hs.getD i Hd.zero).c (fr.getD i [])
theorem HasF.below {w w' : World} {ao : Option Addr} {n cap : Nat} {hs : List Hd} {fr : List (List Int)} (h : HasF w ao n cap hs fr) (hb : Below w.heap.size w w') : HasF w' ao n cap hs fr :=
  ⟨h.len, h.hl, h.nil, h.le, h.row.below hb, fun i hi => (h.each i hi).below hb⟩
theorem HasF.cell {w : World} {ao : Option Addr} {n cap : Nat} {hs : List Hd} {fr : List (List Int)} (h : HasF w ao n cap hs fr) (j : Nat) (hj : j < n) : ∃ a x m c, ao = some a ∧ w.cell? (a.add j) = some (.slice x m c) ∧ Has w x m c (fr.getD j []) := by
  obtain ⟨a, e, hc⟩ := h.row.cell j _ (hds_at hs j (by have := h.hl; have := h.len; omega))
  exact ⟨a, _, _, _, e, hc, h.each j (by have := h.len; omega)⟩
/-- Other lists at one place. -/
theorem HasF.set {w w' : World} {ao bo : Option Addr} {n cap cap' : Nat} {hs : List Hd} {fr : List (List Int)} (h : HasF w ao n cap hs fr) (c : Nat) (x : Hd) (l : List Int) (hb : Below w.heap.size w w') (hn : bo = none → cap' = 0) (hle : n ≤ cap') (hr : Row w' bo (hds (hs.set c x))) (hx : Has w' x.o x.n x.c l) :
    HasF w' bo n cap' (hs.set c x) (fr.set c l) := by
  refine ⟨by rw [List.length_set]; exact h.len, by rw [List.length_set, List.length_set]; exact h.hl, hn, hle, hr, fun i hi => ?_⟩
  rw [List.length_set] at hi
  have hl := h.hl
  by_cases e : i = c
  · subst e
    rw [show (hs.set i x).getD i Hd.zero = x by simp [List.getD, hl, hi], show (fr.set i l).getD i [] = l by simp [List.getD, hi]]
    exact hx
  · have e2 : c ≠ i := fun x => e x.symm
    rw [show (hs.set c x).getD i Hd.zero = hs.getD i Hd.zero by simp [List.getD, e2], show (fr.set c l).getD i [] = fr.getD i [] by simp [List.getD, e2]]
    exact (h.each i hi).below hb

/-- Where an arena's two lists lie. -/
structure Wh where
  t : Hd
  f : Hd
/-- AN ARENA THAT LIES SOMEWHERE. -/
structure HasA (w : World) (x : Wh) (a : Ar) : Prop where
  t : HasT w x.t.o x.t.n x.t.c a.ts
  f : ∃ hs, HasF w x.f.o x.f.n x.f.c hs a.fr
theorem HasA.below {w w' : World} {x : Wh} {a : Ar} (h : HasA w x a) (hb : Below w.heap.size w w') : HasA w' x a := ⟨h.t.below hb, h.f.elim fun hs h => ⟨hs, h.below hb⟩⟩
theorem HasA.tn {w : World} {x : Wh} {a : Ar} (h : HasA w x a) : x.t.n = a.ts.length := h.t.len
theorem HasA.fn {w : World} {x : Wh} {a : Ar} (h : HasA w x a) : x.f.n = a.fr.length := h.f.elim fun _ h => h.len
theorem HasA.list {w : World} {x : Wh} {a : Ar} (h : HasA w x a) (j : Nat) (hj : j < a.fr.length) : ∃ b o m c, x.f.o = some b ∧ w.cell? (b.add j) = some (.slice o m c) ∧ Has w o m c (a.fr.getD j []) := by
  obtain ⟨hs, h⟩ := h.f
  exact h.cell j (by rw [h.len]; exact hj)
/-- A thing lies at an address. -/
structure AtT (w : World) (a : Addr) (t : Th) : Prop where
  c0 : w.cell? a = some (.int .i64 t.ty)
  c1 : w.cell? ⟨a.block, a.off + 1, none⟩ = some (.int .i64 t.gen)
  c2 : w.cell? ⟨a.block, a.off + 2, none⟩ = some (.int .i64 t.refs)
  c3 : w.cell? ⟨a.block, a.off + 3, none⟩ = some (.int .i64 t.st)
  c4 : w.cell? ⟨a.block, a.off + 4, none⟩ = some (.int .i64 t.sz)
  c5 : w.cell? ⟨a.block, a.off + 5, none⟩ = some (.int .i64 t.wa)
  c6 : w.cell? ⟨a.block, a.off + 6, none⟩ = some (.int .i64 t.fm)
  c7 : w.cell? ⟨a.block, a.off + 7, none⟩ = some (.int .i64 t.va)
theorem add_add (a : Addr) (i j : Nat) : (a.add i).add j = a.add (i + j) := by
  unfold Addr.add
  by_cases h1 : i = 0 <;> by_cases h2 : j = 0 <;> simp [h1, h2, Nat.add_assoc]
theorem add_off (a : Addr) (i : Nat) (h : i ≠ 0) : (⟨a.block, a.off + i, none⟩ : Addr) = a.add i := by simp [Addr.add, h]
theorem HasT.at_ {w : World} {ao : Option Addr} {n cap : Nat} {l : List Th} (h : HasT w ao n cap l) (k : Nat) (hk : k < n) : ∃ a, ao = some a ∧ AtT w (a.add (k * 8)) (l.getD k Th.zero) := by
  have hk2 : k < l.length := by have := h.len; omega
  have g := fun (i : Nat) (hi : i < 8) (u : Value) (hu : (thC (l.getD k Th.zero))[i]? = some u) => h.row.cell (k * 8 + i) u ((ths_at l k i hi hk2).trans hu)
  obtain ⟨a, rfl, h0⟩ := g 0 (by omega) _ rfl
  refine ⟨a, rfl, h0, ?_, ?_, ?_, ?_, ?_, ?_, ?_⟩
  all_goals rw [add_off _ _ (by decide), add_add]
  · obtain ⟨_, e, h⟩ := g 1 (by omega) _ rfl; cases e; exact h
  · obtain ⟨_, e, h⟩ := g 2 (by omega) _ rfl; cases e; exact h
  · obtain ⟨_, e, h⟩ := g 3 (by omega) _ rfl; cases e; exact h
  · obtain ⟨_, e, h⟩ := g 4 (by omega) _ rfl; cases e; exact h
  · obtain ⟨_, e, h⟩ := g 5 (by omega) _ rfl; cases e; exact h
  · obtain ⟨_, e, h⟩ := g 6 (by omega) _ rfl; cases e; exact h
  · obtain ⟨_, e, h⟩ := g 7 (by omega) _ rfl; cases e; exact h
theorem AtT.below {w w' : World} {a : Addr} {t : Th} (h : AtT w a t) (hb : Below w.heap.size w w') : AtT w' a t := by
  have k := fun {p : Addr} {v : Value} (hc : w.cell? p = some v) => (kept_below (S := fun _ => False) hb).cell hc (fun e => e)
  exact ⟨k h.c0, k h.c1, k h.c2, k h.c3, k h.c4, k h.c5, k h.c6, k h.c7⟩
/-- A thing's eight cells lie in the block b, and may be written. -/
structure InT (w : World) (b : Nat) (t : Th) : Prop where
  c0 : w.cell? ⟨b, 0, none⟩ = some (.int .i64 t.ty)
  c1 : w.cell? ⟨b, 1, none⟩ = some (.int .i64 t.gen)
  c2 : w.cell? ⟨b, 2, none⟩ = some (.int .i64 t.refs)
  c3 : w.cell? ⟨b, 3, none⟩ = some (.int .i64 t.st)
  c4 : w.cell? ⟨b, 4, none⟩ = some (.int .i64 t.sz)
  c5 : w.cell? ⟨b, 5, none⟩ = some (.int .i64 t.wa)
  c6 : w.cell? ⟨b, 6, none⟩ = some (.int .i64 t.fm)
  c7 : w.cell? ⟨b, 7, none⟩ = some (.int .i64 t.va)
  f : ∀ i, w.frozen? ⟨b, i, none⟩ = false
theorem inT_new (w : World) (t : Th) (T : TypeId) : InT (w.alloc (.cells #[.int .i64 t.ty, .int .i64 t.gen, .int .i64 t.refs, .int .i64 t.st, .int .i64 t.sz, .int .i64 t.wa, .int .i64 t.fm, .int .i64 t.va] T)) w.heap.size t := by constructor <;> simp
theorem InT.lt {w : World} {b : Nat} {t : Th} (h : InT w b t) : b < w.heap.size := World.block_lt_of_cell? w ⟨b, 0, none⟩ h.c0
theorem InT.kept {S : Nat → Prop} {w w' : World} {b : Nat} {t : Th} (h : InT w b t) (k : Kept S w w') (hs : ¬ S b) : InT w' b t :=
  ⟨k.cell h.c0 hs, k.cell h.c1 hs, k.cell h.c2 hs, k.cell h.c3 hs, k.cell h.c4 hs, k.cell h.c5 hs, k.cell h.c6 hs, k.cell h.c7 hs, fun i => (World.frozen?_of_block (a := ⟨b, i, none⟩) (k.block b h.lt hs)).trans (h.f i)⟩
theorem InT.below {w w' : World} {b : Nat} {t : Th} (h : InT w b t) (hb : Below w.heap.size w w') : InT w' b t := h.kept (S := fun _ => False) (kept_below hb) (fun e => e)
/-- An arena's two cells lie in the block b, and may be written. -/
structure InA (w : World) (b : Nat) (x : Wh) : Prop where
  c0 : w.cell? ⟨b, 0, none⟩ = some (.slice x.t.o x.t.n x.t.c)
  c1 : w.cell? ⟨b, 1, none⟩ = some (.slice x.f.o x.f.n x.f.c)
  f : ∀ i, w.frozen? ⟨b, i, none⟩ = false
theorem inA_new (w : World) (x : Wh) (T : TypeId) : InA (w.alloc (.cells #[.slice x.t.o x.t.n x.t.c, .slice x.f.o x.f.n x.f.c] T)) w.heap.size x := by constructor <;> simp
theorem InA.lt {w : World} {b : Nat} {x : Wh} (h : InA w b x) : b < w.heap.size := World.block_lt_of_cell? w ⟨b, 0, none⟩ h.c0
theorem InA.kept {S : Nat → Prop} {w w' : World} {b : Nat} {x : Wh} (h : InA w b x) (k : Kept S w w') (hs : ¬ S b) : InA w' b x :=
  ⟨k.cell h.c0 hs, k.cell h.c1 hs, fun i => (World.frozen?_of_block (a := ⟨b, i, none⟩) (k.block b h.lt hs)).trans (h.f i)⟩
theorem InA.below {w w' : World} {b : Nat} {x : Wh} (h : InA w b x) (hb : Below w.heap.size w w') : InA w' b x := h.kept (S := fun _ => False) (kept_below hb) (fun e => e)
end Go.Proofs.Ytnagpedkmfmniaa.Ar
