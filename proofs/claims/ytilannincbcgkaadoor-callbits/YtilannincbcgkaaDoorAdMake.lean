/- Lists that are made: of steps, of capabilities; a cell of one's own row, stored into. -/
import Derived.Test.YtilannincbcgkaaDoorAdApp
import Derived.Laws.MakeOwn
namespace Go.Proofs.YtilannincbcgkaaDoor.Ad
open Go.RowKit
open Cp (K)

theorem own_setS {w : World} {B n cap g j size : Nat} {e : TypeId} {cs : List Value} (u : Value) (h : w.ownsRow B e size (.slice (some ⟨g, 0, none⟩) n cap) n cs) :
    (w.setCell ⟨g, j, none⟩ u).ownsRow B e size (.slice (some ⟨g, 0, none⟩) n cap) n (cs.set j u) := by
  refine ⟨by simpa using h.1, ?_⟩
  rcases h.2 with ⟨e, _⟩ | ⟨g', cap', cur, e, hb, hg, h1, h2, h3, h4⟩
  · cases e
  · cases e
    refine .inr ⟨g, cap, cur.setIfInBounds j u, rfl, hb, ?_, h1, h2, by simpa using h3, ?_⟩
    · have hlt := (Array.getElem?_eq_some_iff.1 hg).1
      simp [World.setCell, Array.getElem?_modify, hg]
    · rw [← h4]
      simp [List.take_set]
theorem own_made {V : World} {B p m size : Nat} {T : TypeId} {C : Array Value} {cs : List Value} (hm : m ≤ 1000) (hB : B ≤ p) (hC : C.toList = cs) (hl : cs.length = m * size) (h : V.heap[p]? = some (.cells C T (0, 0))) : V.ownsRow B T size (.slice (some ⟨p, 0, none⟩) m m) m cs := by
  have hs : C.size = m * size := by rw [← Array.length_toList, hC, hl]
  refine ⟨by rw [hl], .inr ⟨p, m, C, rfl, hB, h, Nat.le_refl _, by unfold maxLen; omega, by omega, ?_⟩⟩
  rw [hC, List.take_of_length_le (by rw [hl]; omega)]
theorem own_cell {w : World} {B n cap g size j : Nat} {e : TypeId} {cs : List Value} {u : Value} (h : w.ownsRow B e size (.slice (some ⟨g, 0, none⟩) n cap) n cs) (hj : cs[j]? = some u) : w.cell? ⟨g, j, none⟩ = some u := by
  obtain ⟨a, ea, c⟩ := (own_row h).1.cell j u hj
  obtain rfl := Option.some.inj ea
  rcases Nat.eq_zero_or_pos j with rfl | hp
  · exact c
  · simpa [Addr.add, Nat.ne_of_gt hp] using c
theorem last_block (w : World) (o : Obj) : (w.alloc o).heap[w.heap.size]? = some o := by
  show (w.heap.push o)[w.heap.size]? = _
  simp
theorem set_prs (l : List P) (k : Nat) (a b : Int) : ((prs l).set (k * 2) (.int .i64 a)).set (k * 2 + 1) (.int .i64 b) = prs (l.set k (a, b)) := by
  induction l generalizing k with
  | nil => simp [prs]
  | cons x l ih =>
    cases k with
    | zero => simp [prs, pC]
    | succ k =>
      have := ih k
      simp only [prs, List.flatMap_cons, pC, List.set_cons_succ] at this ⊢
      rw [show (k + 1) * 2 = k * 2 + 1 + 1 by omega]
      simp only [List.cons_append, List.nil_append, List.set_cons_succ]
      rw [this]
theorem mp0 : (madeCells #[Value.int .i64 0, Value.int .i64 0] (0 * 2)).toList = prs (List.replicate 0 (0, 0)) := by kernel_rfl
theorem mp1 : (madeCells #[Value.int .i64 0, Value.int .i64 0] (1 * 2)).toList = prs (List.replicate 1 (0, 0)) := by kernel_rfl
theorem mp2 : (madeCells #[Value.int .i64 0, Value.int .i64 0] (2 * 2)).toList = prs (List.replicate 2 (0, 0)) := by kernel_rfl
theorem mp3 : (madeCells #[Value.int .i64 0, Value.int .i64 0] (3 * 2)).toList = prs (List.replicate 3 (0, 0)) := by kernel_rfl
theorem mp4 : (madeCells #[Value.int .i64 0, Value.int .i64 0] (4 * 2)).toList = prs (List.replicate 4 (0, 0)) := by kernel_rfl
theorem mp5 : (madeCells #[Value.int .i64 0, Value.int .i64 0] (5 * 2)).toList = prs (List.replicate 5 (0, 0)) := by kernel_rfl
theorem mp6 : (madeCells #[Value.int .i64 0, Value.int .i64 0] (6 * 2)).toList = prs (List.replicate 6 (0, 0)) := by kernel_rfl
theorem mp7 : (madeCells #[Value.int .i64 0, Value.int .i64 0] (7 * 2)).toList = prs (List.replicate 7 (0, 0)) := by kernel_rfl
theorem made_pairs (m : Nat) (hm : m ≤ 7) : (madeCells #[Value.int .i64 0, Value.int .i64 0] (m * 2)).toList = prs (List.replicate m (0, 0)) := by
  match m, hm with
  | 0, _ => exact mp0
  | 1, _ => exact mp1
  | 2, _ => exact mp2
  | 3, _ => exact mp3
  | 4, _ => exact mp4
  | 5, _ => exact mp5
  | 6, _ => exact mp6
  | 7, _ => exact mp7
/-- MAKE, OF STEPS: as the walk meets it. -/
theorem make_steps (m : Nat) (hm : m ≤ 7) : ∃ C : Array Value, C.toList = prs (List.replicate m (0, 0)) ∧ ∀ w : World, (Instr.makeSlice 63 (.int .u64 m) (.int .u64 m)).run Tryd.prog w = .ok (.slice (some ⟨w.heap.size, 0, none⟩) m m) (w.alloc (.cells C 70)) := by
  obtain ⟨i0, hi, hz0, hz1, hz2⟩ := info_of infoS
  refine ⟨madeCells #[Value.int .i64 0, Value.int .i64 0] (m * 2), made_pairs m hm, fun w => ?_⟩
  have h := run_make (P := Tryd.prog) w 63 70 i0 _ Tryd.underlying63 hi hz0 .u64 .u64 m m (by omega) (by omega) (by rw [hz2]; omega) (by omega)
  rw [hz1] at h
  simpa [Value.cells] using h
/-- The cells of a node in whose slots there is nothing. -/
def nul : Array Value := #[.int .i64 0, .int .i64 0, .int .i64 0, .int .i64 0, .int .i64 0, .int .i64 0, .int .i64 0, .int .i64 0, .int .i64 0, .int .i64 0, .int .i64 0, .int .i64 0, .int .i64 0, .int .i64 0, .int .i64 0, .int .i64 0, .int .i64 0, .int .i64 0, .int .i64 0, .int .i64 0, .int .i64 0, .int .i64 0, .int .i64 0, .int .i64 0, .int .i64 0, .int .i64 0, .int .i64 0, .int .i64 0, .int .i64 0, .int .i64 0, .int .i64 0, .int .i64 0, .int .i64 0, .int .i64 0, .int .i64 0, .int .i64 0, .int .i64 0, .int .i64 0, .int .i64 0, .int .i64 0]
theorem nul_is : nul.toList = kps (List.replicate 8 K.zero) := by kernel_rfl
end Go.Proofs.YtilannincbcgkaaDoor.Ad
