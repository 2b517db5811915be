/- What slices.Clone of extents does. -/
import Derived.Test.YteohoipkdjhllaaCaW1
import Derived.Lib.SliceRun
namespace Go.Proofs.Yteohoipkdjhllaa.Ca
open Go.RowKit

/-- Extents lie one behind the other in the block g, and may be written. -/
def Lay (w : World) (g : Nat) (d : Array X) : Prop :=
  ∀ i, i < d.size → w.cell? ⟨g, i * 2, none⟩ = some (.int .i64 d[i]!.1) ∧ w.cell? ⟨g, i * 2 + 1, none⟩ = some (.int .i64 d[i]!.2) ∧ w.frozen? ⟨g, i * 2, none⟩ = false ∧ w.frozen? ⟨g, i * 2 + 1, none⟩ = false
theorem lay_row {w : World} {g : Nat} {d : Array X} (h : Lay w g d) (l : List X) (hl : ∀ j, j < l.length → j < d.size ∧ l[j]? = some d[j]!) : Row w (some ⟨g, 0, none⟩) (exts l) := by
  refine ⟨fun j u hu => ⟨_, rfl, ?_⟩⟩
  obtain ⟨c, h1, h2⟩ := exts_get hu
  have hj := (List.getElem?_eq_some_iff.1 h1).1
  obtain ⟨hd, he⟩ := hl (j / 2) hj
  rw [h1] at he
  cases he
  obtain ⟨a0, a1, -, -⟩ := h (j / 2) hd
  have : j % 2 = 0 ∨ j % 2 = 1 := by omega
  rcases this with e | e
  · rw [e] at h2
    simp [xC] at h2
    subst h2
    rw [show j / 2 * 2 = j by omega] at a0
    by_cases hz : j = 0
    · subst hz; exact a0
    · simpa [Addr.add, hz] using a0
  · rw [e] at h2
    simp [xC] at h2
    subst h2
    rw [show j / 2 * 2 + 1 = j by omega] at a1
    simpa [Addr.add, show j ≠ 0 by omega] using a1
theorem own_lay {w : World} {B n cap g : Nat} {l : List X} (h : w.ownsRow B 23 2 (.slice (some ⟨g, 0, none⟩) n cap) n (exts l)) : Lay w g l.toArray := by
  intro i hi
  have hi' : i < l.length := by simpa using hi
  obtain ⟨a, e, c0, c1⟩ := atX_of (own_row h).1 i hi'
  cases e
  have e2 : l.toArray[i]! = l.getD i (0, 0) := by simp [List.getD, hi']
  rw [e2]
  have ea : (Addr.add ⟨g, 0, none⟩ (i * 2)) = ⟨g, i * 2, none⟩ := by
    unfold Addr.add
    split
    · simp
    · simp
  rw [ea] at c0 c1
  exact ⟨c0, c1, own_frozen h, own_frozen h⟩
theorem set_same {w : World} {a : Addr} {u : Value} (v : Value) (h : w.cell? a = some u) : (w.setCell a v).cell? a = some v := World.cell?_setCell_same' w a v (by rw [h]; rfl)
theorem set_other {w : World} {g i j : Nat} (v : Value) (h : i ≠ j) : (w.setCell ⟨g, i, none⟩ v).cell? ⟨g, j, none⟩ = w.cell? ⟨g, j, none⟩ := World.cell?_setCell_other w _ _ v (by intro e; exact h (congrArg Addr.off e))
theorem lay_set {w : World} {g k : Nat} {d : Array X} (h : Lay w g d) (hk : k < d.size) (x : X) : Lay ((w.setCell ⟨g, k * 2, none⟩ (.int .i64 x.1)).setCell ⟨g, k * 2 + 1, none⟩ (.int .i64 x.2)) g (d.setIfInBounds k x) := by
  intro i hi
  have hi' : i < d.size := by simpa using hi
  obtain ⟨a0, a1, f0, f1⟩ := h i hi'
  obtain ⟨k0, k1, -, -⟩ := h k hk
  refine ⟨?_, ?_, by rw [World.frozen?_setCell, World.frozen?_setCell]; exact f0, by rw [World.frozen?_setCell, World.frozen?_setCell]; exact f1⟩
  · rw [set_other _ (by omega)]
    by_cases e : i = k
    · subst e
      rw [set_same _ k0, Go.Sort.getElem!_set_same d i x hk]
    · rw [set_other _ (by omega), Go.Sort.getElem!_set_other d k i x e]
      exact a0
  · by_cases e : i = k
    · subst e
      rw [set_same (u := .int .i64 d[i]!.2) _ (by rw [set_other _ (by omega)]; exact k1), Go.Sort.getElem!_set_same d i x hk]
    · rw [set_other _ (by omega), set_other _ (by omega), Go.Sort.getElem!_set_other d k i x e]
      exact a1
theorem lay_cells {w : World} {g : Nat} {d : Array X} (h : Lay w g d) (j : Nat) (hj : j < d.size * 2) : (w.cell? ⟨g, j, none⟩).isSome = true ∧ w.frozen? ⟨g, j, none⟩ = false := by
  obtain ⟨a0, a1, f0, f1⟩ := h (j / 2) (by omega)
  have : j % 2 = 0 ∨ j % 2 = 1 := by omega
  rcases this with e | e
  · rw [show j / 2 * 2 = j by omega] at a0 f0
    exact ⟨by rw [a0]; rfl, f0⟩
  · rw [show j / 2 * 2 + 1 = j by omega] at a1 f1
    exact ⟨by rw [a1]; rfl, f1⟩
theorem eqN (w : World) (a : Option Addr) (n c n' c' : Nat) : (binOp .eql 37 (.slice a n c) (.slice none n' c')).run Try.prog w = .ok (.bool a.isNone) w := Lib.run_eql_slice_nil w _ _ a n c n' c' Try.underlying37
set_option maxHeartbeats 400000 in
theorem clone_nil (w : World) :
    Calls Try.prog 32 #[.slice none 0 0] w fun e w' => e = .returned (.slice none 0 0) ∧ w' = w := by
  have q := eqN
  go_enter Try.func32, Try.ntmps32
  go_wp2
  go_ret
  exact ⟨rfl, rfl⟩
set_option maxHeartbeats 400000 in
theorem clone_some (a : Addr) (n cap : Nat) (cs : List Value) (w : World) (hn : Hid (cs.length = n * 2)) (hs : Hid (n ≤ 5000)) (hr : Hid (Row w (some a) cs)) (h1 : Hid (∀ u ∈ cs, u.oneCell' = true)) :
    Calls Try.prog 32 #[.slice (some a) n cap] w fun e w' => ∃ ao' cap', e = .returned (.slice ao' n cap') ∧ w'.ownsRow w.heap.size 23 2 (.slice ao' n cap') n cs ∧ Below w.heap.size w w' := by
  have q := eqN
  go_enter Try.func32, Try.ntmps32
  go_wp2_with (at_builtin; refine wpList_append_row _ rfl (.tmp 5) (.tmp 6) 37 23 _ 2 16 rfl Try.underlying37 infoX rfl (by decide) (by decide) w.heap.size _ 0 [] rfl (own0 w 23 2) (some a) n cap cs rfl hn.out (fun h => by cases h) (hr.out.below (alloc_below w _)) h1.out (by have := hs.out; omega) (alloc_below w _).size ?_; intro ao1 cap1 w1 hown1 hgrow1; have b1 := app_below hgrow1; rw [Nat.zero_add, List.nil_append] at hown1; rw [Nat.zero_add]; have HO : Hid (w1.ownsRow w.heap.size 23 2 (.slice ao1 n cap1) n cs) := hown1; clear hown1 hgrow1)
  go_ret
  exact ⟨ao1, cap1, rfl, HO.out, b1⟩
/-- slices.Clone OF KEYS: WHAT LIES THERE, IN A ROW OF ITS OWN. -/
theorem clone_any (ao : Option Addr) (n cap : Nat) (l : List X) (w : World) (hs : n ≤ 5000) (h : HasX w ao n cap l) :
    Calls Try.prog 32 #[.slice ao n cap] w fun e w' => ∃ ao' cap', e = .returned (.slice ao' n cap') ∧ MineX w' w.heap.size ao' n cap' l ∧ Below w.heap.size w w' := by
  cases ao with
  | none =>
    have h0 := row_none h.row
    have hl := len_exts l
    rw [h0] at hl
    have hn0 : n = 0 := by rw [h.len]; simp at hl; omega
    have hc := h.nil rfl
    subst hn0 hc
    refine (clone_nil w).mono ?_
    rintro e w' ⟨rfl, rfl⟩
    exact ⟨none, 0, rfl, ⟨h.len, by rw [h0]; exact World.ownsRow_nil _ _ _ _⟩, Below.refl _ _⟩
  | some a =>
    refine (clone_some a n cap (exts l) w (by rw [len_exts, h.len]; exact rfl) hs h.row (exts_one l)).mono ?_
    rintro e w' ⟨ao', cap', rfl, ho, hb⟩
    exact ⟨ao', cap', rfl, ⟨h.len, ho⟩, hb⟩

end Go.Proofs.Yteohoipkdjhllaa.Ca
