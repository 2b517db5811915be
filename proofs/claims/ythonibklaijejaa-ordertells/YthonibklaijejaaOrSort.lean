/- What slices.SortFunc of keys and Sort do. -/
import Derived.Test.YthonibklaijejaaOrComp
import Derived.Test.YthonibklaijejaaOrLaid
namespace Go.Proofs.Ythonibklaijejaa.Or
open Go.RowKit Go.Lib Go.Sort

theorem lay_holds {w : World} {g : Nat} {d : Array K} (h : Lay w g d) : HoldsK kC 2 w g 0 d := by
  intro j hj
  rw [size_flatK] at hj
  rw [get_flatK _ _ _ _ hj]
  obtain ⟨a0, a1, f0, f1⟩ := h (j / 2) (by omega)
  have : j % 2 = 0 ∨ j % 2 = 1 := by omega
  rcases this with e | e
  · rw [show j / 2 * 2 = j by omega] at a0 f0
    rw [e, Nat.zero_add]
    exact ⟨a0, f0⟩
  · rw [show j / 2 * 2 + 1 = j by omega] at a1 f1
    rw [e, Nat.zero_add]
    exact ⟨a1, f1⟩
theorem holds_lay {w : World} {g : Nat} {d : Array K} (h : HoldsK kC 2 w g 0 d) : Lay w g d := by
  intro i hi
  have h0 := HoldsK.cell h hi (c := 0) (by omega)
  have h1 := HoldsK.cell h hi (c := 1) (by omega)
  rw [Nat.zero_add] at h0 h1
  exact ⟨h0.1, h1.1, h0.2, h1.2⟩
theorem swo : Go.Sort.SWO (ltOf cmpK) := by
  have e : ∀ x y, ltOf cmpK x y = ltK x y := cmp_lt
  refine ⟨fun x => ?_, fun x y z h1 h2 => ?_, fun x y z h1 h2 => ?_⟩
  · rw [e]; exact lt_irr x
  · rw [e] at *; exact lt_tr h1 h2
  · rw [e] at *; exact lt_ntr h1 h2
theorem cmpLays (blk off size : Nat) (w : World) : CmpLays Try.prog 31 #[] kC 2 cmpK blk off size w := fun _ _ _ _ x y => compare_any x y _
theorem kC_one (x : K) : ∀ v ∈ kC x, v.oneCell' = true := by
  intro v hv
  simp only [kC, List.mem_cons, List.not_mem_nil, or_false] at hv
  rcases hv with rfl | rfl <;> rfl
theorem kept_sort (w : World) (g n : Nat) (d : Array K) (os : Array Obj) : Kept (fun k => k = g) w (sortWorldK kC 2 w g 0 n d os) := by
  refine ⟨rfl, rfl, rfl, ?_, fun i hi hn => ?_⟩
  · simp [sortWorldK, Go.Sort.grow, size_putRowK, Go.Sort.ahead]
  · simp only [sortWorldK, Go.Sort.grow]
    rw [Array.getElem?_append, if_pos (by rw [size_putRowK]; exact hi)]
    simp only [putRowK, Go.Sort.putRow, Go.Sort.mapBlock, Go.Sort.ahead, Array.getElem?_modify]
    rw [if_neg (fun e => hn e.symm)]
/-- slices.SortFunc OF KEYS: WHAT LAY THERE, IN ITS ORDER. -/
theorem sortf_some (g cap : Nat) (l : List K) (w : World) (hL : Lay w g l.toArray) (hg : g < w.heap.size) (hs : l.length ≤ 5000) :
    Calls Try.prog 30 #[.slice (some ⟨g, 0, none⟩) l.length cap, .func (.func 31) #[] #[]] w fun e w' => e = .returned (.tuple #[]) ∧
      ∃ d : Array K, d.size = l.length ∧ d.toList.Perm l ∧ (∀ i j, i < j → j < d.size → ltK d[j]! d[i]! = false) ∧ Lay w' g d ∧ Kept (fun k => k = g) w w' := by
  have eg : ∀ args w, (callFunc 31 args).run Try.prog w = .ok (.enter 31 args) w := enters_of Try.func31 (by kernel_rfl) rfl
  have hcon := AnyQ.slices_SortFunc Try.sortK 2 Try.isAgg23 Try.sizeOf23 kC (fun _ => rfl) kC_one cmpK swo 31 #[] g 0 cap l.toArray w eg (cmpLays g 0 _ w) (lay_holds hL) hg (by simp; omega)
  refine Calls.mono (show Calls Try.prog 30 _ _ _ from hcon) ?_
  rintro e w' ⟨rfl, d, n, os, hp, hs, rfl⟩
  have hsz : d.size = l.length := by simpa using hp.1
  refine ⟨rfl, d, hsz, ?_, ?_, ?_, kept_sort w g n d os⟩
  · have := hp.2.2
    have e1 : l.toArray.extract 0 l.toArray.size = l.toArray := Array.extract_size
    have e2 : d.extract 0 l.toArray.size = d := by rw [← hp.1]; exact Array.extract_size
    rwa [e1, e2] at this
  · intro i j hij hj
    have := hs i j (Nat.zero_le _) hij (by rw [← hp.1]; exact hj)
    rwa [show ltOf cmpK d[j]! d[i]! = ltK d[j]! d[i]! from cmp_lt _ _] at this
  · refine holds_lay ?_
    unfold sortWorldK
    refine holdsK_grow _ _ _ _ _ _ _ (by rw [size_putRowK]; exact hg) (holdsK_putRowK _ _ _ _ _ l.toArray d (holdsK_ahead _ _ _ _ _ _ _ (lay_holds hL)) (by simpa using hp.1))
theorem sortf_none (ao : Option Addr) (cap : Nat) (w : World) :
    Calls Try.prog 30 #[.slice ao 0 cap, .func (.func 31) #[] #[]] w fun e w' => e = .returned (.tuple #[]) ∧ w' = w :=
  AnyF.slices_SortFunc_none Try.sortK ao cap _ w
end Go.Proofs.Ythonibklaijejaa.Or
