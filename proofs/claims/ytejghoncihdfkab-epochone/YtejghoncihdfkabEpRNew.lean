/- What the document's New does. -/
import Derived.Test.YtejghoncihdfkabEpRReap
namespace Go.Proofs.Ytejghoncihdfkab.Ep
open Go.RowKit

theorem one_head (w : World) (T : TypeId) : Row (w.alloc (.cells #[.slice none 0 0] T)) (some ⟨w.heap.size, 0, none⟩) (hds [Hd.zero]) := by
  refine ⟨fun j u hu => ⟨_, rfl, ?_⟩⟩
  match j, hu with
  | 0, hu => simp [hds, Hd.v, Hd.zero] at hu; subst hu; simp [Addr.add]
theorem rep_vals (i : Nat) : vals (List.replicate i 0) ++ vals [0] = vals (List.replicate (i + 1) 0) := by rw [List.replicate_succ']; simp
theorem rep_hds (i : Nat) : hds (List.replicate i Hd.zero) ++ hds [Hd.zero] = hds (List.replicate (i + 1) Hd.zero) := by rw [List.replicate_succ']; simp [hds]
theorem tne2 : (2 : TypeId) ≠ 46 := by decide
/-- While cores are laid: i of them are. -/
structure Nw (w wr : World) (i : Nat) (po : Option Addr) (pc : Nat) (lo : Option Addr) (j lc : Nat) : Prop where
  low : Below w.heap.size w wr
  res : InE wr w.heap.size 0 WE.zero
  box : InE wr (w.heap.size + 1) 1 ⟨⟨po, i, pc⟩, ⟨lo, j, lc⟩⟩
  pins : wr.ownsRow (w.heap.size + 2) 2 1 (.slice po i pc) i (vals (List.replicate i 0))
  lim : wr.ownsRow (w.heap.size + 2) 46 1 (.slice lo j lc) j (hds (List.replicate j Hd.zero))
section
variable {w wr wm w3 : World} {i j pc lc : Nat} {po lo : Option Addr}
theorem Nw.below (h : Nw w wr i po pc lo j lc) (b : Below wr.heap.size wr wm) : Nw w wm i po pc lo j lc := ⟨q_trans h.low b, h.res.below b, h.box.below b, own_below h.pins b, own_below h.lim b⟩
theorem Nw.base (h : Nw w wr i po pc lo j lc) : w.heap.size + 2 ≤ wr.heap.size := h.box.lt
theorem InE.setP {w : World} {b : Nat} {n : Int} {y : WE} (h : InE w b n y) (q : Hd) : InE (w.setCell ⟨b, 1, none⟩ (.slice q.o q.n q.c)) b n ⟨q, y.l⟩ := by
  refine ⟨?_, set_same _ h.c1, ?_, fun i => by rw [World.frozen?_setCell]; exact h.f i⟩
  · rw [set_other _ (by decide)]; exact h.c0
  · rw [set_other _ (by decide)]; exact h.c2
theorem InE.setL {w : World} {b : Nat} {n : Int} {y : WE} (h : InE w b n y) (q : Hd) : InE (w.setCell ⟨b, 2, none⟩ (.slice q.o q.n q.c)) b n ⟨y.p, q⟩ := by
  refine ⟨?_, ?_, set_same _ h.c2, fun i => by rw [World.frozen?_setCell]; exact h.f i⟩
  · rw [set_other _ (by decide)]; exact h.c0
  · rw [set_other _ (by decide)]; exact h.c1
/-- One more pin, put into the box. -/
theorem Nw.pin {ao3 : Option Addr} {cap3 : Nat} (h : Nw w wm i po pc lo j lc) (own3 : w3.ownsRow (w.heap.size + 2) 2 1 (.slice ao3 (i + 1) cap3) (i + 1) (vals (List.replicate i 0) ++ vals [0])) (grow : wm.grownBy w3 (Value.ownBlock (.slice po i pc))) :
    Nw w (w3.setCell ⟨w.heap.size + 1, 1, none⟩ (.slice ao3 (i + 1) cap3)) (i + 1) ao3 cap3 lo j lc := by
  have hb : Below (w.heap.size + 2) wm w3 := (Below.refl _ wm).grown grow h.base (fun k e => (h.pins.lt k e).1)
  have hk : Kept (fun k => k = w.heap.size + 1) w3 (w3.setCell ⟨w.heap.size + 1, 1, none⟩ (.slice ao3 (i + 1) cap3)) := kept_set _ w3 _ _ rfl
  refine ⟨q_set (h.low.trans (hb.mono (by omega))) (Nat.le_succ _) _, (h.res.upto hb (by omega)).kept hk (by omega), (h.box.upto hb (by omega)).setP ⟨ao3, i + 1, cap3⟩, ?_, ?_⟩
  · rw [← rep_vals]
    exact own_kept own3 hk (fun k e s => by have := (own3.lt k e).1; omega)
  · exact own_kept (own_kept h.lim (kept_grown grow) (fun k e s => own_ne h.pins h.lim tne2 s.symm e)) hk (fun k e s => by have := (h.lim.lt k e).1; omega)
/-- One more list, put into the box. -/
theorem Nw.list {ao3 : Option Addr} {cap3 : Nat} (h : Nw w wm i po pc lo j lc) (own3 : w3.ownsRow (w.heap.size + 2) 46 1 (.slice ao3 (j + 1) cap3) (j + 1) (hds (List.replicate j Hd.zero) ++ hds [Hd.zero])) (grow : wm.grownBy w3 (Value.ownBlock (.slice lo j lc))) :
    Nw w (w3.setCell ⟨w.heap.size + 1, 2, none⟩ (.slice ao3 (j + 1) cap3)) i po pc ao3 (j + 1) cap3 := by
  have hb : Below (w.heap.size + 2) wm w3 := (Below.refl _ wm).grown grow h.base (fun k e => (h.lim.lt k e).1)
  have hk : Kept (fun k => k = w.heap.size + 1) w3 (w3.setCell ⟨w.heap.size + 1, 2, none⟩ (.slice ao3 (j + 1) cap3)) := kept_set _ w3 _ _ rfl
  refine ⟨q_set (h.low.trans (hb.mono (by omega))) (Nat.le_succ _) _, (h.res.upto hb (by omega)).kept hk (by omega), (h.box.upto hb (by omega)).setL ⟨ao3, j + 1, cap3⟩, ?_, ?_⟩
  · exact own_kept (own_kept h.pins (kept_grown grow) (fun k e s => own_ne h.pins h.lim tne2 e s.symm)) hk (fun k e s => by have := (h.pins.lt k e).1; omega)
  · rw [← rep_hds]
    exact own_kept own3 hk (fun k e s => by have := (own3.lt k e).1; omega)
end
theorem nw_start (w : World) (T : TypeId) : Nw w ((w.alloc (.cells #[.int .i64 0, .slice none 0 0, .slice none 0 0] T)).alloc (.cells #[.int .i64 1, .slice none 0 0, .slice none 0 0] T)) 0 none 0 none 0 0 := by
  have h := b2_start w 0 1 WE.zero WE.zero T
  exact ⟨h.low, h.a, h.b, World.ownsRow_nil _ _ _ _, World.ownsRow_nil _ _ _ _⟩
/-- Epochs that were laid so. -/
theorem Nw.has {w wr wf : World} {c : Nat} {po lo : Option Addr} {pc lc : Nat} {Av : Nat → Prop} (h : Nw w wr c po pc lo c lc) (hk : Kept (fun k => k = w.heap.size) wr wf) (hA : ∀ i, Av i → i < w.heap.size) : HasE wf Av ⟨⟨po, c, pc⟩, ⟨lo, c, lc⟩⟩ ⟨1, List.replicate c 0, List.replicate c []⟩ := by
  have o1 := own_kept h.pins hk (fun k e s => by have := (h.pins.lt k e).1; omega)
  have o2 := own_kept h.lim hk (fun k e s => by have := (h.lim.lt k e).1; omega)
  obtain ⟨r1, r2, r3, r4⟩ := own_row o2
  refine ⟨(own_mine o1).has, own_off o1 (fun i s => by have := hA i s; omega), List.replicate c Hd.zero, ?_⟩
  have z : ∀ i, i < c → (List.replicate c Hd.zero).getD i Hd.zero = Hd.zero ∧ (List.replicate c ([] : List W)).getD i [] = [] := by
    intro i hi
    exact ⟨by simp [List.getD, hi], by simp [List.getD, hi]⟩
  refine ⟨by simp, by simp, r3, r2, r1, own_off o2 (fun i s => by have := hA i s; omega), fun i hi => ?_, fun i hi => ?_⟩
  · simp only [List.length_replicate] at hi
    rw [(z i hi).1, (z i hi).2]
    exact hasW_nil _
  · simp only [List.length_replicate] at hi
    rw [(z i hi).1, (z i hi).2]
    exact fun h0 => absurd h0 (by decide)
end Go.Proofs.Ytejghoncihdfkab.Ep
