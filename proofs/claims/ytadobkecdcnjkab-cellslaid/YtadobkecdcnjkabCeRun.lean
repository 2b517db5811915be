/- The state of a law that does steps beside the reference: cells, a list of values, a list of records. -/
import Derived.Test.YtadobkecdcnjkabCeOps
namespace Go.Proofs.Ytadobkecdcnjkab.Ce
open Go.RowKit

/-- Cells from the block w0.heap.size on; the values vl and the records tl, apart from them. -/
structure Run (w0 wr : World) (m : Nat) (tao : Option Addr) (tcap : Nat) (s : S) (av : Option Addr) (cv : Nat) (ta : Option Addr) (ct : Nat) (vl : List Int) (tl : List Rc) : Prop where
  cel : Cel wr w0.heap.size (w0.heap.size + 1) w0.heap.size m tao tcap s
  row : Row wr av (vals vl)
  nil : av = none → cv = 0
  avl : ∀ a, av = some a → 0 < vl.length → a.block < wr.heap.size
  avf : ∀ a, av = some a → 0 < vl.length → ¬ foot (w0.heap.size + 1) w0.heap.size tao a.block
  avt : ∀ a b, av = some a → ta = some b → 0 < vl.length → a.block ≠ b.block
  own : wr.ownsRow w0.heap.size 27 7 (.slice ta tl.length ct) tl.length (recs tl)
  atf : ∀ b, ta = some b → ¬ foot (w0.heap.size + 1) w0.heap.size tao b.block
  low : Below w0.heap.size w0 wr
section
variable {w0 wr : World} {m : Nat} {tao : Option Addr} {tcap : Nat} {s : S} {av : Option Addr} {cv : Nat} {ta : Option Addr} {ct : Nat} {vl : List Int} {tl : List Rc}
theorem Run.below {w' : World} (h : Run w0 wr m tao tcap s av cv ta ct vl tl) (b : Below wr.heap.size wr w') : Run w0 w' m tao tcap s av cv ta ct vl tl := {
  cel := h.cel.below b
  row := h.row.below b
  nil := h.nil
  avl := fun a e h0 => Nat.lt_of_lt_of_le (h.avl a e h0) b.size
  avf := h.avf
  avt := h.avt
  own := own_below h.own b
  atf := h.atf
  low := q_trans h.low b }
theorem foot_moved {w : World} {p g : Nat} {tao tao' : Option Addr} {b : Nat} (h : ¬ foot p g tao b) (hb : b < w.heap.size) (mv : Moved w tao tao') : ¬ foot p g tao' b := by
  rintro (e | e | ⟨a, e, e2⟩)
  · exact h (.inl e)
  · exact h (.inr (.inl e))
  · rcases mv a e with ⟨c, e3, e4⟩ | h1
    · exact h (.inr (.inr ⟨c, e3, e4.trans e2⟩))
    · omega
theorem Run.tlt (h : Run w0 wr m tao tcap s av cv ta ct vl tl) (b : Addr) (e : ta = some b) : w0.heap.size ≤ b.block ∧ b.block < wr.heap.size := by
  subst e
  exact h.own.lt _ rfl
theorem Run.step {w5 : World} {tao' : Option Addr} {tcap' : Nat} {s' : S} (h : Run w0 wr m tao tcap s av cv ta ct vl tl) (hc : Cel w5 w0.heap.size (w0.heap.size + 1) w0.heap.size m tao' tcap' s')
    (kk : Kept (foot (w0.heap.size + 1) w0.heap.size tao) wr w5) (mv : Moved wr tao tao') : Run w0 w5 m tao' tcap' s' av cv ta ct vl tl := {
  cel := hc
  row := h.row.kept kk (fun h0 a e => h.avf a e (by rwa [len_vals] at h0))
  nil := h.nil
  avl := fun a e h0 => Nat.lt_of_lt_of_le (h.avl a e h0) kk.size
  avf := fun a e h0 => foot_moved (h.avf a e h0) (h.avl a e h0) mv
  avt := h.avt
  own := own_kept h.own kk (fun i e => by
    cases ta with
    | none => cases e
    | some b => cases e; exact h.atf b rfl)
  atf := fun b e => foot_moved (h.atf b e) (h.tlt b e).2 mv
  low := h.cel.foot_below kk h.low (Nat.le_refl _) }
theorem Run.app {w' : World} {av' : Option Addr} {cv' : Nat} {vl' : List Int} (h : Run w0 wr m tao tcap s av cv ta ct vl tl) (hl : vl'.length = vl.length) (R : Row w' av' (vals vl')) (N : av' = none → cv' = 0) (nw : NewOr wr w' av av' cv cv') (b : Below wr.heap.size wr w') :
    Run w0 w' m tao tcap s av' cv' ta ct vl' tl := by
  have h' := h.below b
  refine { cel := h'.cel, row := R, nil := N, avl := ?_, avf := ?_, avt := ?_, own := h'.own, atf := h'.atf, low := h'.low }
  · intro a e h0
    rcases nw with ⟨e1, _⟩ | h1
    · exact h'.avl a (e1 ▸ e) (hl ▸ h0)
    · exact (h1 a e).2
  · intro a e h0
    rcases nw with ⟨e1, _⟩ | h1
    · exact h'.avf a (e1 ▸ e) (hl ▸ h0)
    · exact fun f => by have := (h.cel.lt _ f).2; have := (h1 a e).1; omega
  · intro a c e e2 h0
    rcases nw with ⟨e1, _⟩ | h1
    · exact h'.avt a c (e1 ▸ e) e2 (hl ▸ h0)
    · have := (h.tlt c e2).2; have := (h1 a e).1; omega
theorem Run.more {w1 : World} {X : Obj} {g1 cap1 : Nat} {r : Rc} (h : Run w0 wr m tao tcap s av cv ta ct vl tl)
    (own1 : w1.ownsRow w0.heap.size 27 7 (.slice (some ⟨g1, 0, none⟩) (tl.length + 1) cap1) (tl.length + 1) (recs tl ++ rcC r)) (grow1 : (wr.alloc X).grownBy w1 (Value.ownBlock (.slice ta tl.length ct)))
    (hat1 : Value.ownBlock (.slice ta tl.length ct) = some g1 ∨ g1 = wr.heap.size + 1) : Run w0 w1 m tao tcap s av cv (some ⟨g1, 0, none⟩) cap1 vl (tl ++ [r]) := by
  have hg : ∀ i, some i = Value.ownBlock (.slice ta tl.length ct) → ∃ b, ta = some b ∧ b.block = i := by
    intro i e
    cases ta with
    | none => cases e
    | some b => cases e; exact ⟨b, rfl, rfl⟩
  have kk : Kept (fun i => some i = Value.ownBlock (.slice ta tl.length ct)) wr w1 := ((kept_below (Below.refl _ wr)).alloc X).trans (kept_grown grow1) (fun _ _ e => e)
  refine { cel := h.cel.kept kk (fun i f e => ?_), row := h.row.kept kk (fun h0 a e e2 => ?_), nil := h.nil, avl := fun a e h0 => Nat.lt_of_lt_of_le (h.avl a e h0) kk.size, avf := h.avf, avt := ?_, own := ?_, atf := ?_, low := ?_ }
  · obtain ⟨b, e1, e2⟩ := hg i e
    exact h.atf b e1 (e2 ▸ f)
  · obtain ⟨b, e3, e4⟩ := hg _ e2
    exact h.avt a b e e3 (by rwa [len_vals] at h0) e4.symm
  · intro a b e e2 h0
    cases e2
    rcases hat1 with e3 | e3
    · obtain ⟨b, e4, e5⟩ := hg _ e3.symm
      have := h.avt a b e e4 h0
      rw [e5] at this
      exact this
    · have := h.avl a e h0
      show a.block ≠ g1
      omega
  · rw [recs_snoc]
    simpa using own1
  · intro b e f
    cases e
    rcases hat1 with e3 | e3
    · obtain ⟨b, e4, e5⟩ := hg _ e3.symm
      exact h.atf b e4 (by rw [e5]; exact f)
    · have : g1 < wr.heap.size := (h.cel.lt _ f).2
      omega
  · refine h.low.trans (kk.below _ h.low.size (fun i e => ?_))
    obtain ⟨b, e1, e2⟩ := hg i e
    rw [← e2]
    exact (h.tlt b e1).1
end
end Go.Proofs.Ytadobkecdcnjkab.Ce
