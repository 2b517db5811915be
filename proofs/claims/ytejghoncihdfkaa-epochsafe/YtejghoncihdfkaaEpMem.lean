/- Epochs in memory: the cores' pins, the lists of those that wait, and boxes of epochs. -/
import Derived.Test.YtejghoncihdfkaaEpMem0
namespace Go.Proofs.Ytejghoncihdfkaa.Ep
open Go.RowKit

/-- A slice's head. -/
structure Hd where
  o : Option Addr
  n : Nat
  c : Nat
def Hd.v (h : Hd) : Value := .slice h.o h.n h.c
def Hd.zero : Hd := ⟨none, 0, 0⟩
def hds (hs : List Hd) : List Value := hs.map Hd.v
theorem hds_one (hs : List Hd) : ∀ u ∈ hds hs, u.oneCell' = true := by
  intro u hu
  simp only [hds, List.mem_map] at hu
  obtain ⟨x, _, rfl⟩ := hu
  rfl
theorem len_hds (hs : List Hd) : (hds hs).length = hs.length := by simp [hds]
theorem hds_at (hs : List Hd) (j : Nat) (h : j < hs.length) : (hds hs)[j]? = some (hs.getD j Hd.zero).v := by simp [hds, List.getD, h]
theorem hds_set (hs : List Hd) (j : Nat) (x : Hd) : (hds hs).set j x.v = hds (hs.set j x) := by simp [hds, List.map_set]
theorem HasW.kept {S : Nat → Prop} {w w' : World} {ao : Option Addr} {n cap : Nat} {l : List W} (h : HasW w ao n cap l) (k : Kept S w w') (hs : Off S ao (wts l)) : HasW w' ao n cap l := ⟨h.len, h.nil, h.cap, h.row.kept k hs⟩
theorem hasW_nil (w : World) : HasW w none 0 0 [] := ⟨rfl, fun _ => rfl, Nat.le_refl _, row_nil _ _⟩
/-- Lists of those that wait: their heads, and each where it lies, in none of the blocks Av. -/
structure HasL (w : World) (Av : Nat → Prop) (ao : Option Addr) (n cap : Nat) (hs : List Hd) (lm : List (List W)) : Prop where
  len : n = lm.length
  hl : hs.length = lm.length
  nil : ao = none → cap = 0
  le : n ≤ cap
  row : Row w ao (hds hs)
  off : Off Av ao (hds hs)
  each : ∀ i, i < lm.length → HasW w (hs.getD i Hd.zero).o (hs.getD i Hd.zero).n (hs.getD i Hd.zero).c (lm.getD i [])
  offE : ∀ i, i < lm.length → Off Av (hs.getD i Hd.zero).o (wts (lm.getD i []))
section
variable {w w' : World} {Av Av' : Nat → Prop} {ao : Option Addr} {n cap : Nat} {hs : List Hd} {lm : List (List W)}
theorem HasL.kept {S : Nat → Prop} (h : HasL w Av ao n cap hs lm) (k : Kept S w w') (hS : ∀ i, S i → Av i) : HasL w' Av ao n cap hs lm :=
  ⟨h.len, h.hl, h.nil, h.le, h.row.kept k (fun h0 a e s => h.off h0 a e (hS _ s)), h.off, fun i hi => (h.each i hi).kept k (fun h0 a e s => h.offE i hi h0 a e (hS _ s)), h.offE⟩
theorem HasL.below (h : HasL w Av ao n cap hs lm) (hb : Below w.heap.size w w') : HasL w' Av ao n cap hs lm := h.kept (S := fun _ => False) (kept_below hb) (fun _ e => e.elim)
theorem HasL.less (h : HasL w Av ao n cap hs lm) (hA : ∀ i, Av' i → Av i) : HasL w Av' ao n cap hs lm :=
  ⟨h.len, h.hl, h.nil, h.le, h.row, fun h0 a e s => h.off h0 a e (hA _ s), h.each, fun i hi h0 a e s => h.offE i hi h0 a e (hA _ s)⟩
/-- It lies in none of the blocks that are not there yet. -/
theorem HasL.new (h : HasL w Av ao n cap hs lm) : HasL w (fun i => Av i ∨ w.heap.size ≤ i) ao n cap hs lm := by
  refine ⟨h.len, h.hl, h.nil, h.le, h.row, fun h0 a e s => ?_, h.each, fun i hi h0 a e s => ?_⟩
  · rcases s with s | s
    · exact h.off h0 a e s
    · obtain ⟨a', e', hl⟩ := h.row.lt h0
      rw [e] at e'
      cases e'
      omega
  · rcases s with s | s
    · exact h.offE i hi h0 a e s
    · obtain ⟨a', e', hl⟩ := (h.each i hi).row.lt h0
      rw [e] at e'
      cases e'
      omega
theorem HasL.cell (h : HasL w Av ao n cap hs lm) (j : Nat) (hj : j < n) : ∃ a x m c, ao = some a ∧ w.cell? (a.add j) = some (.slice x m c) ∧ HasW w x m c (lm.getD j []) ∧ Off Av x (wts (lm.getD j [])) := by
  obtain ⟨a, e, hc⟩ := h.row.cell j _ (hds_at hs j (by have := h.hl; have := h.len; omega))
  exact ⟨a, _, _, _, e, hc, h.each j (by have := h.len; omega), h.offE j (by have := h.len; omega)⟩
/-- Another list at one place, the heads in another row. -/
theorem HasL.set {bo : Option Addr} {cap' : Nat} (h : HasL w Av ao n cap hs lm) (c : Nat) (x : Hd) (l : List W) (hb : Below w.heap.size w w') (hn : bo = none → cap' = 0) (hle : n ≤ cap') (hr : Row w' bo (hds (hs.set c x))) (ho : Off Av bo (hds (hs.set c x))) (hx : HasW w' x.o x.n x.c l) (hxo : Off Av x.o (wts l)) :
    HasL w' Av bo n cap' (hs.set c x) (lm.set c l) := by
  have hl := h.hl
  refine ⟨by rw [List.length_set]; exact h.len, by rw [List.length_set, List.length_set]; exact h.hl, hn, hle, hr, ho, fun i hi => ?_, fun i hi => ?_⟩
  · rw [List.length_set] at hi
    by_cases e : i = c
    · subst e
      rw [show (hs.set i x).getD i Hd.zero = x by simp [List.getD, hl, hi], show (lm.set i l).getD i [] = l by simp [List.getD, hi]]
      exact hx
    · have e2 : c ≠ i := fun x => e x.symm
      rw [show (hs.set c x).getD i Hd.zero = hs.getD i Hd.zero by simp [List.getD, e2], show (lm.set c l).getD i [] = lm.getD i [] by simp [List.getD, e2]]
      exact (h.each i hi).below hb
  · rw [List.length_set] at hi
    by_cases e : i = c
    · subst e
      rw [show (hs.set i x).getD i Hd.zero = x by simp [List.getD, hl, hi], show (lm.set i l).getD i [] = l by simp [List.getD, hi]]
      exact hxo
    · have e2 : c ≠ i := fun x => e x.symm
      rw [show (hs.set c x).getD i Hd.zero = hs.getD i Hd.zero by simp [List.getD, e2], show (lm.set c l).getD i [] = lm.getD i [] by simp [List.getD, e2]]
      exact h.offE i hi
/-- One more list behind. -/
theorem HasL.snoc {bo : Option Addr} {cap' : Nat} (h : HasL w Av ao n cap hs lm) (x : Hd) (l : List W) (hb : ∀ i, i < lm.length → HasW w' (hs.getD i Hd.zero).o (hs.getD i Hd.zero).n (hs.getD i Hd.zero).c (lm.getD i [])) (hn : bo = none → cap' = 0) (hle : n + 1 ≤ cap') (hr : Row w' bo (hds (hs ++ [x]))) (ho : Off Av bo (hds (hs ++ [x]))) (hx : HasW w' x.o x.n x.c l) (hxo : Off Av x.o (wts l)) :
    HasL w' Av bo (n + 1) cap' (hs ++ [x]) (lm ++ [l]) := by
  have hl := h.hl
  have e1 : ∀ i, i < lm.length → (hs ++ [x]).getD i Hd.zero = hs.getD i Hd.zero ∧ (lm ++ [l]).getD i [] = lm.getD i [] := by
    intro i hi
    have hi2 : i < hs.length := by omega
    exact ⟨by simp [List.getD, List.getElem?_append_left hi2], by simp [List.getD, List.getElem?_append_left hi]⟩
  have e2 : (hs ++ [x]).getD lm.length Hd.zero = x ∧ (lm ++ [l]).getD lm.length [] = l := by
    rw [← hl]
    refine ⟨by simp [List.getD], ?_⟩
    rw [hl]
    simp [List.getD]
  refine ⟨by simp [h.len], by simp [hl], hn, hle, hr, ho, fun i hi => ?_, fun i hi => ?_⟩
  · by_cases e : i < lm.length
    · rw [(e1 i e).1, (e1 i e).2]; exact hb i e
    · obtain rfl : i = lm.length := by simp at hi; omega
      rw [e2.1, e2.2]; exact hx
  · by_cases e : i < lm.length
    · rw [(e1 i e).1, (e1 i e).2]; exact h.offE i e
    · obtain rfl : i = lm.length := by simp at hi; omega
      rw [e2.1, e2.2]; exact hxo
end
/-- Where the two lists of epochs lie. -/
structure WE where
  p : Hd
  l : Hd
def WE.zero : WE := ⟨Hd.zero, Hd.zero⟩
/-- EPOCHS THAT LIE SOMEWHERE, IN NONE OF THE BLOCKS Av. -/
structure HasE (w : World) (Av : Nat → Prop) (y : WE) (e : E) : Prop where
  p : Has w y.p.o y.p.n y.p.c e.pins
  offP : Off Av y.p.o (vals e.pins)
  l : ∃ hs, HasL w Av y.l.o y.l.n y.l.c hs e.lim
section
variable {w w' : World} {Av Av' : Nat → Prop} {y : WE} {e : E}
theorem HasE.kept {S : Nat → Prop} (h : HasE w Av y e) (k : Kept S w w') (hS : ∀ i, S i → Av i) : HasE w' Av y e :=
  ⟨h.p.kept k (fun h0 a e s => h.offP h0 a e (hS _ s)), h.offP, h.l.elim fun hs h => ⟨hs, h.kept k hS⟩⟩
theorem HasE.below (h : HasE w Av y e) (hb : Below w.heap.size w w') : HasE w' Av y e := h.kept (S := fun _ => False) (kept_below hb) (fun _ e => e.elim)
theorem HasE.less (h : HasE w Av y e) (hA : ∀ i, Av' i → Av i) : HasE w Av' y e :=
  ⟨h.p, fun h0 a e s => h.offP h0 a e (hA _ s), h.l.elim fun hs h => ⟨hs, h.less hA⟩⟩
theorem HasE.new (h : HasE w Av y e) : HasE w (fun i => Av i ∨ w.heap.size ≤ i) y e := by
  refine ⟨h.p, fun h0 a e s => ?_, h.l.elim fun hs h => ⟨hs, h.new⟩⟩
  rcases s with s | s
  · exact h.offP h0 a e s
  · obtain ⟨a', e', hl⟩ := h.p.row.lt h0
    rw [e] at e'
    cases e'
    omega
/-- A new block lies beside it. -/
theorem HasE.beside (h : HasE w Av y e) (hb : Below w.heap.size w w') (C : Nat) (hC : w.heap.size ≤ C) : HasE w' (fun i => Av i ∨ i = C) y e :=
  (h.new.less (fun i s => by rcases s with s | s; exact .inl s; exact .inr (by omega))).below hb
theorem HasE.pn (h : HasE w Av y e) : y.p.n = e.pins.length := h.p.len
theorem HasE.ln (h : HasE w Av y e) : y.l.n = e.lim.length := h.l.elim fun _ h => h.len
theorem HasE.pin (h : HasE w Av y e) (j : Nat) (hj : j < e.pins.length) : ∃ a, y.p.o = some a ∧ w.cell? (a.add j) = some (.int .i64 (e.pins.getD j 0)) := h.p.cell j (by rw [h.pn]; exact hj)
theorem HasE.list (h : HasE w Av y e) (j : Nat) (hj : j < e.lim.length) : ∃ a x m c, y.l.o = some a ∧ w.cell? (a.add j) = some (.slice x m c) ∧ HasW w x m c (e.lim.getD j []) ∧ Off Av x (wts (e.lim.getD j [])) := by
  obtain ⟨hs, hl⟩ := h.l
  exact hl.cell j (by rw [hl.len]; exact hj)
/-- Another now alone. -/
theorem HasE.now (h : HasE w Av y e) (n : Int) : HasE w Av y ⟨n, e.pins, e.lim⟩ := ⟨h.p, h.offP, h.l⟩
/-- Other pins. -/
theorem HasE.pins {q : Hd} {ps : List Int} (h : HasE w Av y e) (hp : Has w q.o q.n q.c ps) (ho : Off Av q.o (vals ps)) : HasE w Av ⟨q, y.l⟩ ⟨e.now, ps, e.lim⟩ := ⟨hp, ho, h.l⟩
end
theorem hasE_zero (w : World) (Av : Nat → Prop) : HasE w Av WE.zero ⟨0, [], []⟩ :=
  ⟨has_nil w, fun h0 => absurd h0 (by decide), [], rfl, rfl, fun _ => rfl, Nat.le_refl _, row_nil _ _, fun h0 => absurd h0 (by decide), fun i hi => absurd hi (by simp), fun i hi => absurd hi (by simp)⟩
/-- Epochs' three cells lie in the block b, and may be written. -/
structure InE (w : World) (b : Nat) (n : Int) (y : WE) : Prop where
  c0 : w.cell? ⟨b, 0, none⟩ = some (.int .i64 n)
  c1 : w.cell? ⟨b, 1, none⟩ = some (.slice y.p.o y.p.n y.p.c)
  c2 : w.cell? ⟨b, 2, none⟩ = some (.slice y.l.o y.l.n y.l.c)
  f : ∀ i, w.frozen? ⟨b, i, none⟩ = false
theorem inE_new (w : World) (n : Int) (y : WE) (T : TypeId) : InE (w.alloc (.cells #[.int .i64 n, .slice y.p.o y.p.n y.p.c, .slice y.l.o y.l.n y.l.c] T)) w.heap.size n y := by constructor <;> simp
theorem InE.lt {w : World} {b : Nat} {n : Int} {y : WE} (h : InE w b n y) : b < w.heap.size := World.block_lt_of_cell? w ⟨b, 0, none⟩ h.c0
theorem InE.kept {S : Nat → Prop} {w w' : World} {b : Nat} {n : Int} {y : WE} (h : InE w b n y) (k : Kept S w w') (hs : ¬ S b) : InE w' b n y :=
  ⟨k.cell h.c0 hs, k.cell h.c1 hs, k.cell h.c2 hs, fun i => (World.frozen?_of_block (a := ⟨b, i, none⟩) (k.block b h.lt hs)).trans (h.f i)⟩
theorem InE.below {w w' : World} {b : Nat} {n : Int} {y : WE} (h : InE w b n y) (hb : Below w.heap.size w w') : InE w' b n y := h.kept (S := fun _ => False) (kept_below hb) (fun e => e)
theorem set_same {w : World} {a : Addr} {u : Value} (v : Value) (h : w.cell? a = some u) : (w.setCell a v).cell? a = some v := World.cell?_setCell_same' w a v (by rw [h]; rfl)
theorem set_other {w : World} {g i j : Nat} (v : Value) (h : i ≠ j) : (w.setCell ⟨g, i, none⟩ v).cell? ⟨g, j, none⟩ = w.cell? ⟨g, j, none⟩ := World.cell?_setCell_other w _ _ v (by intro e; exact h (congrArg Addr.off e))
/-- Other epochs in the box. -/
theorem InE.store {w : World} {b : Nat} {n : Int} {y : WE} (h : InE w b n y) (m : Int) (z : WE) : InE (((w.setCell ⟨b, 0, none⟩ (.int .i64 m)).setCell ⟨b, 1, none⟩ (.slice z.p.o z.p.n z.p.c)).setCell ⟨b, 2, none⟩ (.slice z.l.o z.l.n z.l.c)) b m z := by
  refine ⟨?_, ?_, ?_, fun i => by rw [World.frozen?_setCell, World.frozen?_setCell, World.frozen?_setCell]; exact h.f i⟩
  · rw [set_other _ (by decide), set_other _ (by decide)]
    exact set_same _ h.c0
  · rw [set_other _ (by decide)]
    exact set_same _ (by rw [set_other _ (by decide)]; exact h.c1)
  · exact set_same _ (by rw [set_other _ (by decide), set_other _ (by decide)]; exact h.c2)
theorem kept_store (w : World) (b : Nat) (u v x : Value) : Kept (fun k => k = b) w (((w.setCell ⟨b, 0, none⟩ u).setCell ⟨b, 1, none⟩ v).setCell ⟨b, 2, none⟩ x) := by
  iterate 3 refine Kept.setCell ?_ _ _ (fun _ => rfl)
  exact Kept.refl _ _
/-- EPOCHS IN A BOX, APART FROM IT AND FROM THE BLOCKS Av. -/
structure Be (w : World) (Av : Nat → Prop) (b : Nat) (y : WE) (e : E) : Prop where
  box : InE w b e.now y
  has : HasE w (fun i => Av i ∨ i = b) y e
theorem Be.kept {S : Nat → Prop} {w w' : World} {Av : Nat → Prop} {b : Nat} {y : WE} {e : E} (h : Be w Av b y e) (k : Kept S w w') (hS : ∀ i, S i → Av i) (hb : ¬ S b) : Be w' Av b y e := ⟨h.box.kept k hb, h.has.kept k (fun i s => .inl (hS i s))⟩
theorem Be.below {w w' : World} {Av : Nat → Prop} {b : Nat} {y : WE} {e : E} (h : Be w Av b y e) (hb : Below w.heap.size w w') : Be w' Av b y e := ⟨h.box.below hb, h.has.below hb⟩
theorem be_new {w : World} {Av : Nat → Prop} {y : WE} {e : E} (T : TypeId) (h : HasE w Av y e) : Be (w.alloc (.cells #[.int .i64 e.now, .slice y.p.o y.p.n y.p.c, .slice y.l.o y.l.n y.l.c] T)) Av w.heap.size y e :=
  ⟨inE_new w e.now y T, h.beside (alloc_below _ _) _ (Nat.le_refl _)⟩
/-- Other epochs are put into the box. -/
theorem Be.put {w : World} {Av : Nat → Prop} {b : Nat} {y z : WE} {e f : E} (h : Be w Av b y e) (hz : HasE w (fun i => Av i ∨ i = b) z f) : Be (((w.setCell ⟨b, 0, none⟩ (.int .i64 f.now)).setCell ⟨b, 1, none⟩ (.slice z.p.o z.p.n z.p.c)).setCell ⟨b, 2, none⟩ (.slice z.l.o z.l.n z.l.c)) Av b z f :=
  ⟨h.box.store f.now z, hz.kept (kept_store w b _ _ _) (fun _ s => .inr s)⟩
end Go.Proofs.Ytejghoncihdfkaa.Ep
