/- What the document's Reap does. -/
import Derived.Test.YtejghoncihdfkabEpRRet
namespace Go.Proofs.Ytejghoncihdfkab.Ep
open Go.RowKit

theorem own_ne {w : World} {B B' n n' size size' : Nat} {e e' : TypeId} {v v' : Value} {cs cs' : List Value} (h : w.ownsRow B e size v n cs) (h' : w.ownsRow B' e' size' v' n' cs') (he : e ≠ e') {k : Nat} (hk : v.ownBlock = some k) (hk' : v'.ownBlock = some k) : False := by
  rcases h.2 with ⟨rfl, _⟩ | ⟨g, cap, cur, rfl, _, hg, _⟩
  · cases hk
  · rcases h'.2 with ⟨rfl, _⟩ | ⟨g', cap', cur', rfl, _, hg', _⟩
    · cases hk'
    · cases hk
      cases hk'
      rw [hg] at hg'
      injection hg' with h1
      injection h1 with _ h2
      exact he h2
theorem InE.upto {w w' : World} {B b : Nat} {n : Int} {y : WE} (h : InE w b n y) (k : Below B w w') (hb : b < B) : InE w' b n y :=
  ⟨(k.cell (p := ⟨b, 0, none⟩) hb).trans h.c0, (k.cell (p := ⟨b, 1, none⟩) hb).trans h.c1, (k.cell (p := ⟨b, 2, none⟩) hb).trans h.c2, fun i => (k.frozen (p := ⟨b, i, none⟩) hb).trans (h.f i)⟩
theorem B2.upto {w wr w' : World} {n m : Int} {y z : WE} (h : B2 w wr n m y z) (k : Below (w.heap.size + 2) wr w') : B2 w w' n m y z :=
  ⟨h.low.trans (k.mono (by omega)), h.a.upto k (by omega), h.b.upto k (by omega)⟩
theorem one_int (w : World) (x : Int) (T : TypeId) : Row (w.alloc (.cells #[.int .i64 x] T)) (some ⟨w.heap.size, 0, none⟩) (vals [x]) := by
  refine ⟨fun j u hu => ⟨_, rfl, ?_⟩⟩
  match j, hu with
  | 0, hu => simp [vals] at hu; subst hu; simp [Addr.add]
/-- What was reaped, what is left, of the first i. -/
def outs (n : Int) (l : List W) (i : Nat) : List Int := ((l.take i).filter (fun a => decide (a.2 ≤ n - 2))).map (·.1)
def lefts (n : Int) (l : List W) (i : Nat) : List W := (l.take i).filter (fun a => !decide (a.2 ≤ n - 2))
theorem wtake_snoc {l : List W} {k : Nat} (h : k < l.length) : l.take (k + 1) = l.take k ++ [l.getD k (0, 0)] := by
  rw [List.take_add_one]
  simp [List.getD, h]
theorem outs_yes {n : Int} {l : List W} {i : Nat} {z : W} (hi : i < l.length) (hz : l.getD i (0, 0) = z) (h : z.2 ≤ n - 2) : outs n l (i + 1) = outs n l i ++ [z.1] ∧ lefts n l (i + 1) = lefts n l i := by
  unfold outs lefts
  rw [wtake_snoc hi, hz]
  simp [h]
theorem outs_no {n : Int} {l : List W} {i : Nat} {z : W} (hi : i < l.length) (hz : l.getD i (0, 0) = z) (h : ¬ z.2 ≤ n - 2) : outs n l (i + 1) = outs n l i ∧ lefts n l (i + 1) = lefts n l i ++ [z] := by
  unfold outs lefts
  rw [wtake_snoc hi, hz]
  simp [h]
theorem outs_all {e : E} {c : Int} (h : coB e c = true) {l : List W} (hl : limOf e c = l) {i : Nat} (hi : l.length ≤ i) : rpL e c = outs e.now l i ∧ rpA e c = setL e c (lefts e.now l i) := by
  unfold outs lefts rpL rpA
  rw [List.take_of_length_le hi, if_pos h, if_pos h, hl]
  exact ⟨rfl, rfl⟩
/-- While the list is gone over. -/
structure Rq (w wr : World) (n : Int) (y : WE) (l : List W) (i : Nat) (oo : Option Addr) (on oc : Nat) (fo : Option Addr) (fn fc : Nat) : Prop where
  box : B2 w wr n 0 y WE.zero
  out : wr.ownsRow (w.heap.size + 2) 3 1 (.slice oo on oc) on (vals (outs n l i))
  left : wr.ownsRow (w.heap.size + 2) 48 2 (.slice fo fn fc) fn (wts (lefts n l i))
  s1 : on ≤ i
  s2 : fn ≤ i
theorem tne : (3 : TypeId) ≠ 48 := by decide
section
variable {w wr wm w3 : World} {n : Int} {y : WE} {l : List W} {i : Nat} {oo : Option Addr} {on oc : Nat} {fo : Option Addr} {fn fc : Nat} {z : W}
theorem Rq.below (h : Rq w wr n y l i oo on oc fo fn fc) (b : Below wr.heap.size wr wm) : Rq w wm n y l i oo on oc fo fn fc := ⟨h.box.below b, own_below h.out b, own_below h.left b, h.s1, h.s2⟩
theorem rq_start (h : B2 w wr n 0 y WE.zero) : Rq w wr n y l 0 none 0 0 none 0 0 := ⟨h, World.ownsRow_nil _ _ _ _, World.ownsRow_nil _ _ _ _, Nat.le_refl _, Nat.le_refl _⟩
theorem Rq.base (h : Rq w wr n y l i oo on oc fo fn fc) : w.heap.size + 2 ≤ wr.heap.size := h.box.b.lt
theorem Rq.more {ao3 : Option Addr} {cap3 : Nat} (h : Rq w wm n y l i oo on oc fo fn fc) (hi : i < l.length) (hz : l.getD i (0, 0) = z) (hg : z.2 ≤ n - 2)
    (own3 : w3.ownsRow (w.heap.size + 2) 3 1 (.slice ao3 (on + 1) cap3) (on + 1) (vals (outs n l i) ++ vals [z.1])) (grow : wm.grownBy w3 (Value.ownBlock (.slice oo on oc))) : Rq w w3 n y l (i + 1) ao3 (on + 1) cap3 fo fn fc := by
  have hb : Below (w.heap.size + 2) wm w3 := (Below.refl _ wm).grown grow h.base (fun k e => (h.out.lt k e).1)
  obtain ⟨e1, e2⟩ := outs_yes hi hz hg
  refine ⟨h.box.upto hb, ?_, ?_, Nat.succ_le_succ h.s1, Nat.le_succ_of_le h.s2⟩
  · rw [e1, show vals (outs n l i ++ [z.1]) = vals (outs n l i) ++ vals [z.1] by simp]; exact own3
  · rw [e2]
    exact own_kept h.left (kept_grown grow) (fun k e s => own_ne h.out h.left tne s.symm e)
theorem Rq.stay {ao3 : Option Addr} {cap3 : Nat} (h : Rq w wm n y l i oo on oc fo fn fc) (hi : i < l.length) (hz : l.getD i (0, 0) = z) (hg : ¬ z.2 ≤ n - 2)
    (own3 : w3.ownsRow (w.heap.size + 2) 48 2 (.slice ao3 (fn + 1) cap3) (fn + 1) (wts (lefts n l i) ++ wts [z])) (grow : wm.grownBy w3 (Value.ownBlock (.slice fo fn fc))) : Rq w w3 n y l (i + 1) oo on oc ao3 (fn + 1) cap3 := by
  have hb : Below (w.heap.size + 2) wm w3 := (Below.refl _ wm).grown grow h.base (fun k e => (h.left.lt k e).1)
  obtain ⟨e1, e2⟩ := outs_no hi hz hg
  refine ⟨h.box.upto hb, ?_, ?_, Nat.le_succ_of_le h.s1, Nat.succ_le_succ h.s2⟩
  · rw [e1]
    exact own_kept h.out (kept_grown grow) (fun k e s => own_ne h.out h.left tne e s.symm)
  · rw [e2, wts_app]; exact own3
end
theorem ret_es {v : Value} {o : Option Addr} {n m c : Nat} (h : n = m) : Ending.returned (.tuple #[v, .slice o n c]) = .returned (.tuple #[v, .slice o m c]) := by rw [h]
end Go.Proofs.Ytejghoncihdfkab.Ep
