/- Slices of the lists, append at a step of a row that draws its order, and what the laws on those that wait need besides. -/
import Derived.Test.YtejghoncihdfkaaEpSafe1
namespace Go.Proofs.Ytejghoncihdfkaa.Ep
open Go.RowKit

theorem row_take {w : World} {ao : Option Addr} {cs : List Value} (h : Row w ao cs) (k : Nat) : Row w ao (cs.take k) := by
  refine ⟨fun j u hu => h.cell j u ?_⟩
  have hj := (List.getElem?_eq_some_iff.1 hu).1
  rw [List.length_take] at hj
  rwa [List.getElem?_take_of_lt (by omega)] at hu
theorem row_drop {w : World} {ao : Option Addr} {cs : List Value} {n cap k : Nat} (h : Row w ao cs) (hn : ao = none → cap = 0) (hl : cs.length = n) (hc : n ≤ cap) (hk : k ≤ n) : Row w (if cap = k then ao else ao.map (·.add k)) (cs.drop k) ∧ ((if cap = k then ao else ao.map (·.add k)) = none → cap - k = 0) := by
  refine ⟨⟨fun j u hu => ?_⟩, fun e => ?_⟩
  · rw [List.getElem?_drop] at hu
    obtain ⟨a, rfl, hcell⟩ := h.cell _ u hu
    have hj := (List.getElem?_eq_some_iff.1 hu).1
    rw [if_neg (by omega)]
    exact ⟨a.add k, rfl, by rw [add_add]; exact hcell⟩
  · by_cases e2 : cap = k
    · omega
    · rw [if_neg e2] at e
      have : ao = none := by cases ao with
        | none => rfl
        | some a => simp at e
      have := hn this
      omega
theorem runI_to (ao : Option Addr) (k n cap : Nat) (hk : k ≤ cap) (V : World) :
    (Instr.slice 30 (.slice ao n cap) none (some (.int .i64 (k : Int))) none).run Try.prog V = .ok (.slice ao k cap) V := by
  have hb := fun code => run_sliceBound (P := Try.prog) (w := V) .i64 (k : Int) cap code (by omega) (by omega)
  have ha : ao.map (fun a => a.add 0) = ao := by cases ao <;> simp [Addr.add]
  simp [Instr.slice, Instr.sliceBounds, run_underlying Try.underlying30, hb, Try.sizeOf3, ha]
theorem runI_from (ao : Option Addr) (k n cap : Nat) (hk : k ≤ n) (V : World) :
    (Instr.slice 30 (.slice ao n cap) (some (.int .i64 (k : Int))) none none).run Try.prog V = .ok (.slice (if cap = k then ao else ao.map (·.add k)) (n - k) (cap - k)) V := by
  have hb := fun code => run_sliceBound (P := Try.prog) (w := V) .i64 (k : Int) n code (by omega) (by omega)
  simp [Instr.slice, Instr.sliceBounds, run_underlying Try.underlying30, hb, Try.sizeOf3]
/-- The slice from behind a place on. -/
theorem cutI (ao : Option Addr) (n cap p : Nat) (hp : p < n) : ∃ ao' m' c', m' = n - (p + 1) ∧ (∀ (w : World) (cs : List Value), Row w ao cs → (ao = none → cap = 0) → cs.length = n → n ≤ cap → Row w ao' (cs.drop (p + 1)) ∧ (ao' = none → c' = 0)) ∧ ∀ V, (Instr.slice 30 (.slice ao n cap) (some (.int .i64 ((p : Int) + 1))) none none).run Try.prog V = .ok (.slice ao' m' c') V :=
  ⟨_, _, _, rfl, fun w cs h1 h2 h3 h4 => row_drop h1 h2 h3 h4 (by omega), fun V => runI_from ao (p + 1) n cap (by omega) V⟩
theorem runB_to (ao : Option Addr) (k n cap : Nat) (hk : k ≤ cap) (V : World) :
    (Instr.slice 46 (.slice ao n cap) none (some (.int .i64 (k : Int))) none).run Try.prog V = .ok (.slice ao k cap) V := by
  have hb := fun code => run_sliceBound (P := Try.prog) (w := V) .i64 (k : Int) cap code (by omega) (by omega)
  have ha : ao.map (fun a => a.add 0) = ao := by cases ao <;> simp [Addr.add]
  simp [Instr.slice, Instr.sliceBounds, run_underlying Try.underlying46, hb, Try.sizeOf45, ha]
theorem runB_from (ao : Option Addr) (k n cap : Nat) (hk : k ≤ n) (V : World) :
    (Instr.slice 46 (.slice ao n cap) (some (.int .i64 (k : Int))) none none).run Try.prog V = .ok (.slice (if cap = k then ao else ao.map (·.add k)) (n - k) (cap - k)) V := by
  have hb := fun code => run_sliceBound (P := Try.prog) (w := V) .i64 (k : Int) n code (by omega) (by omega)
  simp [Instr.slice, Instr.sliceBounds, run_underlying Try.underlying46, hb, Try.sizeOf45]
/-- The slice from behind a place on. -/
theorem cutB (ao : Option Addr) (n cap p : Nat) (hp : p < n) : ∃ ao' m' c', m' = n - (p + 1) ∧ (∀ (w : World) (cs : List Value), Row w ao cs → (ao = none → cap = 0) → cs.length = n → n ≤ cap → Row w ao' (cs.drop (p + 1)) ∧ (ao' = none → c' = 0)) ∧ ∀ V, (Instr.slice 46 (.slice ao n cap) (some (.int .i64 ((p : Int) + 1))) none none).run Try.prog V = .ok (.slice ao' m' c') V :=
  ⟨_, _, _, rfl, fun w cs h1 h2 h3 h4 => row_drop h1 h2 h3 h4 (by omega), fun V => runB_from ao (p + 1) n cap (by omega) V⟩
/-- append, at a step of a row that draws its order: elements of one cell. -/
theorem step_row (w : World) {ops : Array Oper} {o : Oper} {a : Act} {C : Act → World → Prop} {Q : Exit → Act → World → Prop} {F : Prop} (hw : Region.wanted o (yielded ops a.tmps) = true) (s x : Operand) (T E : TypeId) (z : Value) (bytes : Nat)
    (ho : o.op = .call { callee := .builtin .append, args := #[s, x], argTypes := #[T, T] }) (ht : Try.prog.underlying T = some (.slice E))
    (hi0 : (Try.prog.info? E).map (fun i => (i.zero, i.size, i.bytes)) = some (some z, 1, bytes)) (hzs : z.cells.size = 1) (hby : bytes ≤ 1000)
    (base : Nat) (v : Value) (n : Nat) (xs : List Value) (hs : a.eval s = v) (hown : w.ownsRow base E 1 v n xs)
    (ao : Option Addr) (m c : Nat) (ys : List Value) (hx : a.eval x = .slice ao m c) (hm : ys.length = m) (hc : ao = none → c = 0) (hy : Row w ao ys) (h1 : ∀ u ∈ ys, u.oneCell' = true)
    (N : Nat) (hN : n + m = N) (Z : List Value) (hZ : xs ++ ys = Z) (h63 : N ≤ 5000) (hbase : base ≤ w.heap.size)
    (h : ∀ ao' cap' w', w'.ownsRow base E 1 (.slice ao' N cap') N Z → w.grownBy w' v.ownBlock → C (a.put o.dst (.slice ao' N cap')) w') :
    if Region.wanted o (yielded ops a.tmps) = true then Oper.wp Try.prog o a w C Q else F := by
  rw [if_pos hw]
  subst hN hZ
  obtain ⟨i0, hi, hz0, hz1, hz2⟩ := info_of hi0
  have sl : ∀ {w' : World} {v' : Value} {k : Nat} {cs : List Value}, w'.ownsRow base E 1 v' k cs → ∃ ao' cap', v' = .slice ao' k cap' := by
    intro w' v' k cs h
    rcases h.2 with ⟨rfl, rfl⟩ | ⟨g, cap, cur, rfl, _⟩
    · exact ⟨_, _, rfl⟩
    · exact ⟨_, _, rfl⟩
  cases ao with
  | none =>
    have h0 := row_none hy
    subst h0
    have hm0 : m = 0 := by simpa using hm.symm
    subst hm0
    rw [hc rfl] at hx
    obtain ⟨ao', cap', rfl⟩ := sl hown
    have hrun := run_append_owned_none (P := Try.prog) (w := w) base T o.type E i0 1 ht hi _ n xs hown
    unfold Oper.wp
    simp [execOp, ho, resolve, invoke, builtin, hs, hx, hrun, Result.andThen]
    exact h ao' cap' w (by simpa using hown) (World.grownBy.refl _ _)
  | some ad =>
    refine wp_append_own w s x T ho base E i0 z 1 bytes ht hi hz0 hz1 hz2 hzs (by decide) v n xs hs hown ad m c ys hx (by omega) ?_ h1 (by unfold maxLen; omega) (Nat.le_trans (Nat.mul_le_mul (show n + m ≤ 5000 from h63) hby) (by decide)) hbase ?_
    · intro j u hu
      obtain ⟨a', e, hcell⟩ := hy.cell j u hu
      cases e
      exact hcell
    · intro v' w' h1 h2 _
      obtain ⟨ao', cap', rfl⟩ := sl h1
      exact h ao' cap' w' h1 h2
theorem one_hd2 (w : World) (x : Hd) (T : TypeId) : Row (w.alloc (.cells #[x.v] T)) (some ⟨w.heap.size, 0, none⟩) (hds [x]) := by
  refine ⟨fun j u hu => ⟨_, rfl, ?_⟩⟩
  match j, hu with
  | 0, hu => simp [hds] at hu; subst hu; simp [Addr.add]
/-! ### One core is waited for no more -/
/-- The first i of the lists have it struck. -/
def Uns (k i : Nat) (S0 sl : List (List Bool)) : Prop := sl.length = S0.length ∧ ∀ p, p < S0.length → sl.getD p [] = if p < i then (S0.getD p []).set k false else S0.getD p []
theorem uns_start (k : Nat) (S0 : List (List Bool)) : Uns k 0 S0 S0 := ⟨rfl, fun p _ => by simp⟩
theorem uns_step {k i : Nat} {S0 sl : List (List Bool)} (h : Uns k i S0 sl) (hi : i < S0.length) : Uns k (i + 1) S0 (sl.set i ((sl.getD i []).set k false)) := by
  refine ⟨by simp [h.1], fun p hp => ?_⟩
  have hs : i < sl.length := by rw [h.1]; exact hi
  by_cases e : p = i
  · subst e
    rw [if_pos (by omega), show (sl.set p ((sl.getD p []).set k false)).getD p [] = (sl.getD p []).set k false by simp [List.getD, hs], h.2 p hp, if_neg (by omega)]
  · have e2 : i ≠ p := fun x => e x.symm
    rw [show (sl.set i ((sl.getD i []).set k false)).getD p [] = sl.getD p [] by simp [List.getD, e2], h.2 p hp]
    by_cases e3 : p < i
    · rw [if_pos e3, if_pos (by omega)]
    · rw [if_neg e3, if_neg (by omega)]
theorem uns_end {k i : Nat} {G : List En} {sl : List (List Bool)} (h : Uns k i (G.map (fun g => g.see)) sl) (hi : G.length ≤ i) : sl = (G.map (unsee (k : Int))).map (fun g => g.see) := by
  apply List.ext_getElem
  · rw [h.1]; simp
  · intro p h1 h2
    have hp : p < G.length := by simpa using h2
    have := h.2 p (by simpa using hp)
    rw [if_pos (by omega), get_lt h1, get_lt (by simpa using hp)] at this
    rw [this]
    simp [unsee]
theorem see_len {f : E} {pd : List Bool} {G : List En} (h : Sf f pd G) {p : Nat} (hp : p < G.length) : ((G.map (fun g => g.see)).getD p []).length = f.pins.length := by
  rw [get_lt (by simpa using hp)]
  simp only [List.getElem_map]
  exact h.seel _ (List.getElem_mem hp)
theorem map_get {α β : Type} (l : List α) (f : α → β) (d : β) {p : Nat} {g : α} (h : l[p]? = some g) : (l.map f).getD p d = f g := by
  simp [List.getD, h]
theorem erase_map {α β : Type} (l : List α) (f : α → β) (p : Nat) : (l.eraseIdx p).map f = (l.map f).eraseIdx p := by
  apply List.ext_getElem?
  intro i
  simp only [List.getElem?_map, List.getElem?_eraseIdx]
  split <;> simp
theorem erase_cut {α : Type} (l : List α) (p : Nat) : l.take p ++ l.drop (p + 1) = l.eraseIdx p := (List.eraseIdx_eq_take_drop_succ l p).symm
end Go.Proofs.Ytejghoncihdfkaa.Ep
