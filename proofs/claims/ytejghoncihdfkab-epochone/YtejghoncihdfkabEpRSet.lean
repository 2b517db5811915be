/- What the document's core, pin, limbo do. -/
import Derived.Test.YtejghoncihdfkabEpRSame
namespace Go.Proofs.Ytejghoncihdfkab.Ep
open Go.RowKit

theorem infoS : (Try.prog.info? 46).map (fun i => (i.zero, i.size, i.bytes)) = some (some (.slice none 0 0), 1, 24) := by kernel_rfl
theorem own_setS {w : World} {B n cap g j size : Nat} {e : TypeId} {cs : List Value} (u : Value) (h : w.ownsRow B e size (.slice (some ⟨g, 0, none⟩) n cap) n cs) :
    (w.setCell ⟨g, j, none⟩ u).ownsRow B e size (.slice (some ⟨g, 0, none⟩) n cap) n (cs.set j u) := by
  refine ⟨by simpa using h.1, ?_⟩
  rcases h.2 with ⟨e, _⟩ | ⟨g', cap', cur, e, hb, hg, h1, h2, h3, h4⟩
  · cases e
  · cases e
    refine .inr ⟨g, cap, cur.setIfInBounds j u, rfl, hb, ?_, h1, h2, by simpa using h3, ?_⟩
    · have hlt := (Array.getElem?_eq_some_iff.1 hg).1
      simp [World.setCell, Array.getElem?_modify, hg]
    · rw [← h4]
      simp [List.take_set]
theorem own_head {w : World} {B n size : Nat} {e : TypeId} {ao : Option Addr} {c : Nat} {cs : List Value} (h : w.ownsRow B e size (.slice ao n c) n cs) (hn : 0 < n) : ∃ g, ao = some ⟨g, 0, none⟩ ∧ B ≤ g ∧ g < w.heap.size := by
  rcases h.2 with ⟨_, e2⟩ | ⟨g, c, cur, e, hb, hg, _⟩
  · omega
  · injection e with e1 e2 e3
    exact ⟨g, e1, hb, (Array.getElem?_eq_some_iff.1 hg).1⟩
/-- A row of one's own from B on lies in none of the blocks ahead. -/
theorem own_off {w : World} {B n cap size : Nat} {e : TypeId} {ao : Option Addr} {cs ds : List Value} {Av : Nat → Prop} (h : w.ownsRow B e size (.slice ao n cap) n cs) (hA : ∀ i, Av i → i < B) : Off Av ao ds := by
  intro _ a ea s
  have := (own_row h).2.2.2 a ea
  have := hA _ s
  omega
theorem vals_set (l : List Int) (j : Nat) (t : Int) : (vals l).set j (.int .i64 t) = vals (l.set j t) := by simp [vals, List.map_set]
theorem add0 (g k : Nat) : (⟨g, 0, none⟩ : Addr).add k = ⟨g, k, none⟩ := by cases k <;> simp [Addr.add]
end Go.Proofs.Ytejghoncihdfkab.Ep
