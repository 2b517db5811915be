/- What the comparison, and slices.SortFunc of extents, do. -/
import Derived.Test.YteohoipkdjhllaaCaClone
import Derived.Test.YteohoipkdjhllaaCaLaid
namespace Go.Proofs.Yteohoipkdjhllaa.Ca
open Go.RowKit Go.Lib Go.Sort

/-- What the comparison says: by the start alone. -/
def cmI (x y : Int) : Int := if x < y then -1 else if y < x then 1 else 0
def cmpX (a b : X) : Int := cmI a.1 b.1
def ltX (a b : X) : Bool := decide (a.1 < b.1)
theorem lt_irr (a : X) : ltX a a = false := by simp [ltX]
theorem lt_tr {a b c : X} (h : ltX a b = true) (k : ltX b c = true) : ltX a c = true := by simp [ltX] at *; omega
theorem lt_ntr {a b c : X} (h : ltX a b = false) (k : ltX b c = false) : ltX a c = false := by simp [ltX] at *; omega
theorem cmp_lt (a b : X) : (decide (cmpX a b < 0)) = ltX a b := by
  unfold cmpX cmI ltX
  by_cases h : a.1 < b.1
  · simp [h]
  · by_cases k : b.1 < a.1 <;> simp [h, k]
set_option maxHeartbeats 400000 in
theorem nan_any (x : Int) (w : World) : Calls Try.prog 38 #[.int .i64 x] w fun e w' => e = .returned (.bool false) ∧ w' = w := by
  have h : (x != x) = false := by simp
  go_enter Try.func38, Try.ntmps38
  go_wp2
  go_ret
  exact ⟨rfl, rfl⟩
set_option maxHeartbeats 400000 in
theorem ccmp_any (x y : Int) (w : World) : Calls Try.prog 35 #[.int .i64 x, .int .i64 y] w fun e w' => e = .returned (.int .i64 (cmI x y)) ∧ w' = w := by
  by_cases h : x < y
  · have H : Hid (cmI x y = -1) := if_pos h
    go_enter Try.func35, Try.ntmps35
    go_wp2_with (go_at_call 38; refine (nan_any _ _).mono ?_; rintro e w1 ⟨rfl, hw⟩; rw [hw]; clear hw w1)
    go_ret
    exact ⟨ret_int H.out.symm, rfl⟩
  · by_cases k : y < x
    · have H : Hid (cmI x y = 1) := by unfold Hid cmI; rw [if_neg h, if_pos k]
      go_enter Try.func35, Try.ntmps35
      go_wp2_with (go_at_call 38; refine (nan_any _ _).mono ?_; rintro e w1 ⟨rfl, hw⟩; rw [hw]; clear hw w1)
      go_ret
      exact ⟨ret_int H.out.symm, rfl⟩
    · have H : Hid (cmI x y = 0) := by unfold Hid cmI; rw [if_neg h, if_neg k]
      go_enter Try.func35, Try.ntmps35
      go_wp2_with (go_at_call 38; refine (nan_any _ _).mono ?_; rintro e w1 ⟨rfl, hw⟩; rw [hw]; clear hw w1)
      go_ret
      exact ⟨ret_int H.out.symm, rfl⟩
set_option maxHeartbeats 400000 in
theorem compare_any (a b : X) (w : World) :
    Calls Try.prog 34 #[(.agg #[.int .i64 a.1, .int .i64 a.2]), (.agg #[.int .i64 b.1, .int .i64 b.2])] w fun e w' => e = .returned (.int .i64 (cmpX a b)) ∧ Grows w w' := by
  have HC := hid (fun W => ccmp_any a.1 b.1 W)
  go_enter Try.func34, Try.ntmps34
  go_wp2_with (go_at_call 35; refine (HC.out _).mono ?_; rintro e w1 ⟨rfl, hw⟩; rw [hw]; clear hw w1)
  go_ret
  exact ⟨rfl, ((Grows.refl _).alloc _).alloc _⟩
theorem lay_holds {w : World} {g : Nat} {d : Array X} (h : Lay w g d) : HoldsK xC 2 w g 0 d := by
  intro j hj
  rw [size_flatK] at hj
  rw [get_flatK _ _ _ _ hj]
  obtain ⟨a0, a1, f0, f1⟩ := h (j / 2) (by omega)
  have : j % 2 = 0 ∨ j % 2 = 1 := by omega
  rcases this with e | e
  · rw [show j / 2 * 2 = j by omega] at a0 f0
    rw [e, Nat.zero_add]
    exact ⟨a0, f0⟩
  · rw [show j / 2 * 2 + 1 = j by omega] at a1 f1
    rw [e, Nat.zero_add]
    exact ⟨a1, f1⟩
theorem holds_lay {w : World} {g : Nat} {d : Array X} (h : HoldsK xC 2 w g 0 d) : Lay w g d := by
  intro i hi
  have h0 := HoldsK.cell h hi (c := 0) (by omega)
  have h1 := HoldsK.cell h hi (c := 1) (by omega)
  rw [Nat.zero_add] at h0 h1
  exact ⟨h0.1, h1.1, h0.2, h1.2⟩
theorem swo : Go.Sort.SWO (ltOf cmpX) := by
  have e : ∀ x y, ltOf cmpX x y = ltX x y := cmp_lt
  refine ⟨fun x => ?_, fun x y z h1 h2 => ?_, fun x y z h1 h2 => ?_⟩
  · rw [e]; exact lt_irr x
  · rw [e] at *; exact lt_tr h1 h2
  · rw [e] at *; exact lt_ntr h1 h2
theorem cmpLays (blk off size : Nat) (w : World) : CmpLays Try.prog 34 #[] xC 2 cmpX blk off size w := fun _ _ _ _ x y => compare_any x y _
theorem xC_one (x : X) : ∀ v ∈ xC x, v.oneCell' = true := by
  intro v hv
  simp only [xC, List.mem_cons, List.not_mem_nil, or_false] at hv
  rcases hv with rfl | rfl <;> rfl
theorem kept_sort (w : World) (g n : Nat) (d : Array X) (os : Array Obj) : Kept (fun k => k = g) w (sortWorldK xC 2 w g 0 n d os) := by
  refine ⟨rfl, rfl, rfl, ?_, fun i hi hn => ?_⟩
  · simp [sortWorldK, Go.Sort.grow, size_putRowK, Go.Sort.ahead]
  · simp only [sortWorldK, Go.Sort.grow]
    rw [Array.getElem?_append, if_pos (by rw [size_putRowK]; exact hi)]
    simp only [putRowK, Go.Sort.putRow, Go.Sort.mapBlock, Go.Sort.ahead, Array.getElem?_modify]
    rw [if_neg (fun e => hn e.symm)]
/-- slices.SortFunc OF EXTENTS: WHAT LAY THERE, IN ITS ORDER. -/
theorem sortf_some (g cap : Nat) (l : List X) (w : World) (hL : Lay w g l.toArray) (hg : g < w.heap.size) (hs : l.length ≤ 5000) :
    Calls Try.prog 33 #[.slice (some ⟨g, 0, none⟩) l.length cap, .func (.func 34) #[] #[]] w fun e w' => e = .returned (.tuple #[]) ∧
      ∃ d : Array X, d.size = l.length ∧ d.toList.Perm l ∧ (∀ i j, i < j → j < d.size → ltX d[j]! d[i]! = false) ∧ Lay w' g d ∧ Kept (fun k => k = g) w w' := by
  have eg : ∀ args w, (callFunc 34 args).run Try.prog w = .ok (.enter 34 args) w := enters_of Try.func34 (by kernel_rfl) rfl
  have hcon := AnyQ.slices_SortFunc Try.sortK 2 Try.isAgg23 Try.sizeOf23 xC (fun _ => rfl) xC_one cmpX swo 34 #[] g 0 cap l.toArray w eg (cmpLays g 0 _ w) (lay_holds hL) hg (by simp; omega)
  refine Calls.mono (show Calls Try.prog 33 _ _ _ from hcon) ?_
  rintro e w' ⟨rfl, d, n, os, hp, hs, rfl⟩
  have hsz : d.size = l.length := by simpa using hp.1
  refine ⟨rfl, d, hsz, ?_, ?_, ?_, kept_sort w g n d os⟩
  · have := hp.2.2
    have e1 : l.toArray.extract 0 l.toArray.size = l.toArray := Array.extract_size
    have e2 : d.extract 0 l.toArray.size = d := by rw [← hp.1]; exact Array.extract_size
    rwa [e1, e2] at this
  · intro i j hij hj
    have := hs i j (Nat.zero_le _) hij (by rw [← hp.1]; exact hj)
    rwa [show ltOf cmpX d[j]! d[i]! = ltX d[j]! d[i]! from cmp_lt _ _] at this
  · refine holds_lay ?_
    unfold sortWorldK
    refine holdsK_grow _ _ _ _ _ _ _ (by rw [size_putRowK]; exact hg) (holdsK_putRowK _ _ _ _ _ l.toArray d (holdsK_ahead _ _ _ _ _ _ _ (lay_holds hL)) (by simpa using hp.1))
theorem sortf_none (ao : Option Addr) (cap : Nat) (w : World) :
    Calls Try.prog 33 #[.slice ao 0 cap, .func (.func 34) #[] #[]] w fun e w' => e = .returned (.tuple #[]) ∧ w' = w :=
  AnyF.slices_SortFunc_none Try.sortK ao cap _ w
end Go.Proofs.Yteohoipkdjhllaa.Ca
