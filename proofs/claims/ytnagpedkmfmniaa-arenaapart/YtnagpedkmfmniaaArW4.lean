/- What freeOnce does. -/
import Derived.Test.YtnagpedkmfmniaaArW3
namespace Go.Proofs.Ytnagpedkmfmniaa.Ar
open Go.RowKit Go.Proofs.Ytnagpedkmfmniaa.Ha

/-- WHILE THE LISTS ARE GONE OVER: what was come to, and where it is written down. -/
structure Fo (w W : World) (x : Wh) (a : Ar) (done : List Int) : Prop where
  low : Below w.heap.size w W
  box : InA W w.heap.size x
  seen : ∀ j : Nat, j < 64 → W.cell? ⟨w.heap.size + 1, j, none⟩ = some (.bool (decide ((j : Int) ∈ done)))
  fz : ∀ j, W.frozen? ⟨w.heap.size + 1, j, none⟩ = false
  ok : ∀ p, p ∈ done → 0 ≤ p ∧ p < a.ts.length ∧ liveT (at_ a.ts p) = false ∧ (at_ a.ts p).gen ≠ -1
  nd : ∀ p, p ∈ done → done.count p = 1
theorem Fo.below {w W W' : World} {x : Wh} {a : Ar} {done : List Int} (h : Fo w W x a done) (b : Below W.heap.size W W') : Fo w W' x a done := by
  have hlt : w.heap.size + 1 < W.heap.size := World.block_lt_of_cell? W _ (h.seen 0 (by omega))
  exact ⟨q_trans h.low b, h.box.below b, fun j hj => (kept_below (S := fun _ => False) b).cell (h.seen j hj) (fun e => e), fun j => (World.frozen?_of_block (a := ⟨w.heap.size + 1, j, none⟩) (b.block _ hlt)).trans (h.fz j), h.ok, h.nd⟩
theorem cell_set {w : World} {b i j : Nat} {v u : Value} (h : w.cell? ⟨b, j, none⟩ = some u) : (w.setCell ⟨b, i, none⟩ v).cell? ⟨b, j, none⟩ = some (if i = j then v else u) := by
  by_cases e : i = j
  · subst e
    rw [if_pos rfl]
    exact World.cell?_setCell_same _ _ _ h
  · rw [if_neg e]
    exact (World.cell?_setCell_other _ _ _ _ (fun h => e (congrArg Addr.off h))).trans h
theorem Fo.store {w W : World} {x : Wh} {a : Ar} {done : List Int} (h : Fo w W x a done) (p : Nat) (hp : p < a.ts.length) (hl : liveT (at_ a.ts (p : Int)) = false) (hg : (at_ a.ts (p : Int)).gen ≠ -1) (hn : (p : Int) ∉ done) :
    Fo w (W.setCell ⟨w.heap.size + 1, p, none⟩ (.bool true)) x a (done ++ [(p : Int)]) := by
  have k : Kept (fun k => k = w.heap.size + 1) W (W.setCell ⟨w.heap.size + 1, p, none⟩ (.bool true)) := kept_set _ W _ _ rfl
  refine ⟨h.low.trans (k.below w.heap.size h.low.size (fun i e => by omega)), h.box.kept k (by omega), fun j hj => ?_, fun j => by simpa using h.fz j, fun q hq => ?_, fun q hq => ?_⟩
  · rw [cell_set (h.seen j hj)]
    by_cases e : p = j
    · subst e; rw [if_pos rfl]; simp
    · rw [if_neg e]
      have : ((j : Int) ∈ done ++ [(p : Int)]) ↔ (j : Int) ∈ done := by
        rw [List.mem_append, List.mem_singleton]
        exact ⟨fun x => x.elim id (fun y => absurd y (by omega)), .inl⟩
      simp only [this]
  · rcases List.mem_append.1 hq with h3 | h3
    · exact h.ok q h3
    · rw [List.mem_singleton] at h3
      subst h3
      exact ⟨by omega, by omega, hl, hg⟩
  · rw [List.count_append, List.count_singleton]
    rcases List.mem_append.1 hq with h3 | h3
    · rw [h.nd q h3, if_neg (by simp; exact fun e => hn (by rw [e]; exact h3))]
    · rw [List.mem_singleton] at h3
      subst h3
      rw [List.count_eq_zero.2 hn, if_pos (by simp)]
def plB (a : Ar) : Bool := a.fr.flatten.all (okPB a)
theorem pl_done {w W : World} {x : Wh} {a : Ar} (h : Fo w W x a a.fr.flatten) : plB a = true := by
  unfold plB
  rw [List.all_eq_true]
  intro p hp
  obtain ⟨h1, h2, h3, h4⟩ := h.ok p hp
  exact okPB_iff.2 ⟨h1, h2, h3, h4, h.nd p hp⟩
theorem pl_not {a : Ar} {p : Int} (hp : p ∈ a.fr.flatten) (h : ¬ OkP a p) : plB a = false := by
  unfold plB
  rw [List.all_eq_false]
  exact ⟨p, hp, fun e => h (okPB_iff.1 e)⟩
/-- What was come to behind c lists and k places. -/
def upto (fr : List (List Int)) (c k : Nat) : List Int := (fr.take c).flatten ++ (fr.getD c []).take k
theorem upto_zero (fr : List (List Int)) (c : Nat) : upto fr c 0 = (fr.take c).flatten := by simp [upto]
theorem upto_succ {fr : List (List Int)} {c k : Nat} (hk : k < (fr.getD c []).length) : upto fr c (k + 1) = upto fr c k ++ [(fr.getD c []).getD k 0] := by
  unfold upto
  rw [List.take_add_one, List.getElem?_eq_getElem hk, List.append_assoc]
  congr 2
  simp only [Option.toList_some, List.cons.injEq, and_true]
  generalize fr.getD c [] = l at hk ⊢
  simp [List.getD, hk]
theorem upto_full {fr : List (List Int)} {c : Nat} (hc : c < fr.length) : upto fr c (fr.getD c []).length = (fr.take (c + 1)).flatten := by
  unfold upto
  rw [List.take_add_one, List.getElem?_eq_getElem hc, List.flatten_append, List.take_length]
  simp [List.getD, hc]
theorem count_upto {fr : List (List Int)} {c k : Nat} (hc : c < fr.length) (hk : k < (fr.getD c []).length) (h : (fr.getD c []).getD k 0 ∈ upto fr c k) : 2 ≤ cnt fr ((fr.getD c []).getD k 0) := by
  have h1 : cnt (fr.take (c + 1)) ((fr.getD c []).getD k 0) ≤ cnt fr ((fr.getD c []).getD k 0) := by
    generalize (fr.getD c []).getD k 0 = p
    unfold cnt
    have e : fr.flatten = (fr.take (c + 1)).flatten ++ (fr.drop (c + 1)).flatten := by rw [← List.flatten_append, List.take_append_drop]
    rw [e, List.count_append]
    omega
  have h2 : (upto fr c (k + 1)).count ((fr.getD c []).getD k 0) ≤ cnt (fr.take (c + 1)) ((fr.getD c []).getD k 0) := by
    unfold cnt
    rw [← upto_full hc]
    unfold upto
    rw [List.count_append, List.count_append]
    have := List.Sublist.count_le ((fr.getD c []).getD k 0) (List.take_sublist (k + 1) (fr.getD c []))
    rw [List.take_length]
    omega
  rw [upto_succ hk, List.count_append, List.count_singleton_self] at h2
  have := List.count_pos_iff.2 h
  omega
end Go.Proofs.Ytnagpedkmfmniaa.Ar
