/- What lies in memory, what a call leaves as it was, append of a row; prs as cells. -/
import Derived.Test.YtilannincbcgkaaDoorChecked
import Derived.Test.YtilannincbcgkaaDoorAdMath
import Derived.WalkKit
import Derived.WalkLawsBesides
import Derived.Deep.QuietTactic
import Derived.BigQuiet
import Derived.Laws.AppendOwnNone
import Derived.Deep.AppendLies
import Derived.Laws.MakeOwn
import Derived.OneCell
import Derived.Sort.Grow
namespace Go.Proofs.YtilannincbcgkaaDoor.Ad
open Go.RowKit

theorem q_trans {a b c : World} (h : Below a.heap.size a b) (k : Below b.heap.size b c) : Below a.heap.size a c := h.trans (k.mono h.size)
theorem q_alloc {a w : World} (h : Below a.heap.size a w) (o : Obj) : Below a.heap.size a (w.alloc o) := h.alloc h.size o
theorem q_set {a w : World} (h : Below a.heap.size a w) {p : Addr} (hp : a.heap.size ≤ p.block) (u : Value) : Below a.heap.size a (w.setCell p u) := h.setCell hp u
theorem q_drewN {a w : World} (h : Below a.heap.size a w) (n : Nat) : Below a.heap.size a (w.drewN n) := ⟨h.os, h.tape, h.output, h.size, h.block⟩
theorem ret_int {k : IntKind} {a b : Int} (h : a = b) : Ending.returned (.int k a) = .returned (.int k b) := by rw [h]
theorem ret_bool {a b : Bool} (h : a = b) : Ending.returned (.bool a) = .returned (.bool b) := by rw [h]

theorem hid {p : Prop} (h : p) : Hid p := h
/-- ALL BLOCKS THAT WERE THERE, BUT THOSE OF S, ARE AS THEY WERE. -/
structure Kept (S : Nat → Prop) (w w' : World) : Prop where
  os : w'.os = w.os
  tape : w'.tape = w.tape
  output : w'.output = w.output
  size : w.heap.size ≤ w'.heap.size
  block : ∀ k, k < w.heap.size → ¬ S k → w'.heap[k]? = w.heap[k]?
theorem Kept.refl (S : Nat → Prop) (w : World) : Kept S w w := ⟨rfl, rfl, rfl, Nat.le_refl _, fun _ _ _ => rfl⟩
theorem Kept.trans {S S' : Nat → Prop} {a b c : World} (h : Kept S a b) (k : Kept S' b c) (hs : ∀ i, i < a.heap.size → S' i → S i) : Kept S a c :=
  ⟨k.os.trans h.os, k.tape.trans h.tape, k.output.trans h.output, Nat.le_trans h.size k.size, fun i hi hn => (k.block i (Nat.lt_of_lt_of_le hi h.size) (fun e => hn (hs i hi e))).trans (h.block i hi hn)⟩
theorem Kept.mono {S S' : Nat → Prop} {a b : World} (h : Kept S a b) (hs : ∀ i, i < a.heap.size → S i → S' i) : Kept S' a b :=
  ⟨h.os, h.tape, h.output, h.size, fun i hi hn => h.block i hi (fun e => hn (hs i hi e))⟩
theorem kept_below {S : Nat → Prop} {a b : World} (h : Below a.heap.size a b) : Kept S a b := ⟨h.os, h.tape, h.output, h.size, fun i hi _ => h.block i hi⟩
theorem Kept.alloc {S : Nat → Prop} {a b : World} (h : Kept S a b) (o : Obj) : Kept S a (b.alloc o) := h.trans (S' := S) (kept_below (q_alloc (Below.refl _ _) o)) (fun _ _ e => e)
theorem Kept.then {S : Nat → Prop} {a b c : World} (h : Kept S a b) (k : Below b.heap.size b c) : Kept S a c := h.trans (S' := S) (kept_below k) (fun _ _ e => e)
theorem Kept.drew {S : Nat → Prop} {a b : World} (h : Kept S a b) : Kept S a b.drew := ⟨h.os, h.tape, h.output, h.size, h.block⟩
theorem Kept.drewN {S : Nat → Prop} {a b : World} (h : Kept S a b) (n : Nat) : Kept S a (b.drewN n) := ⟨h.os, h.tape, h.output, h.size, h.block⟩
theorem kept_set (S : Nat → Prop) (w : World) (p : Addr) (u : Value) (hp : S p.block) : Kept S w (w.setCell p u) :=
  ⟨rfl, rfl, rfl, by simp [World.setCell], fun k _ hn => Below.heap_setCell w p u k (fun e => hn (e ▸ hp))⟩
theorem Kept.setCell {S : Nat → Prop} {a b : World} (h : Kept S a b) (p : Addr) (u : Value) (hp : p.block < a.heap.size → S p.block) : Kept S a (b.setCell p u) :=
  h.trans (S' := fun k => k = p.block) (kept_set _ b p u rfl) (fun i hi e => by subst e; exact hp hi)
theorem kept_grown {w w' : World} {row : Option Nat} (h : w.grownBy w' row) : Kept (fun k => some k = row) w w' := ⟨h.os, h.tape, h.output, h.size, h.block⟩
theorem Kept.below {S : Nat → Prop} {a b : World} (h : Kept S a b) (B : Nat) (hB : B ≤ a.heap.size) (hs : ∀ i, S i → B ≤ i) : Below B a b :=
  ⟨h.os, h.tape, h.output, h.size, fun i hi => h.block i (Nat.lt_of_lt_of_le hi hB) (fun e => by have := hs i e; omega)⟩
theorem Kept.cell {S : Nat → Prop} {a b : World} (h : Kept S a b) {p : Addr} {v : Value} (hc : a.cell? p = some v) (hn : ¬ S p.block) : b.cell? p = some v :=
  (World.cell?_of_block (h.block p.block (World.block_lt_of_cell? a p hc) hn)).trans hc

/-! ### Cells that lie one behind the other -/
structure Row (w : World) (ao : Option Addr) (cs : List Value) : Prop where
  cell : ∀ (j : Nat) (u : Value), cs[j]? = some u → ∃ a, ao = some a ∧ w.cell? (a.add j) = some u
/-- They lie in none of the blocks S. -/
def Off (S : Nat → Prop) (ao : Option Addr) (cs : List Value) : Prop := 0 < cs.length → ∀ a, ao = some a → ¬ S a.block
theorem add_block (a : Addr) (i : Nat) : (a.add i).block = a.block := by unfold Addr.add; split <;> rfl
theorem Row.kept {S : Nat → Prop} {w w' : World} {ao : Option Addr} {cs : List Value} (h : Row w ao cs) (k : Kept S w w') (hs : Off S ao cs) : Row w' ao cs := by
  refine ⟨fun j u hu => ?_⟩
  obtain ⟨a, e, hc⟩ := h.cell j u hu
  refine ⟨a, e, k.cell hc ?_⟩
  rw [add_block]
  exact hs (by have := (List.getElem?_eq_some_iff.1 hu).1; omega) a e
theorem Row.below {w w' : World} {ao : Option Addr} {cs : List Value} (h : Row w ao cs) (hb : Below w.heap.size w w') : Row w' ao cs :=
  h.kept (S := fun _ => False) (kept_below hb) (fun _ _ _ e => e)
theorem Row.lt {w : World} {ao : Option Addr} {cs : List Value} (h : Row w ao cs) (h0 : 0 < cs.length) : ∃ a, ao = some a ∧ a.block < w.heap.size := by
  obtain ⟨a, e, hc⟩ := h.cell 0 cs[0] (by simp)
  exact ⟨a, e, by have := World.block_lt_of_cell? w _ hc; rwa [add_block] at this⟩
theorem row_nil (w : World) (ao : Option Addr) : Row w ao [] := ⟨fun j u h => by simp at h⟩

theorem own_row {w : World} {B n size cap : Nat} {e : TypeId} {ao : Option Addr} {cs : List Value} (h : w.ownsRow B e size (.slice ao n cap) n cs) :
    Row w ao cs ∧ n ≤ cap ∧ (ao = none → cap = 0) ∧ (∀ a, ao = some a → B ≤ a.block ∧ a.block < w.heap.size) := by
  have hc := fun g hg => h.cells (g := g) hg
  have hl := h.lt
  rcases h.2 with ⟨e, rfl⟩ | ⟨g, cap', cur, e, _, _, hle, _, _, _⟩
  · cases e
    refine ⟨?_, Nat.le_refl _, fun _ => rfl, fun a e => by cases e⟩
    have : cs = [] := List.eq_nil_of_length_eq_zero (by simpa using h.1)
    subst this
    exact row_nil _ _
  · cases e
    refine ⟨⟨fun j u hu => ⟨_, rfl, hc g rfl j u hu⟩⟩, hle, (fun h => by cases h), fun a e => ?_⟩
    cases e
    exact hl g rfl

/-- A row is told by where it lies: the same at a greater bound below it. -/
theorem own_base {w : World} {B B' n size : Nat} {e : TypeId} {v : Value} {cs : List Value} (h : w.ownsRow B e size v n cs) (hb : ∀ k, v.ownBlock = some k → B' ≤ k) : w.ownsRow B' e size v n cs := by
  refine ⟨h.1, ?_⟩
  rcases h.2 with hn | ⟨g, cap, cur, rfl, _, rest⟩
  · exact .inl hn
  · exact .inr ⟨g, cap, cur, rfl, hb g rfl, rest⟩
theorem own_kept {S : Nat → Prop} {w w' : World} {B n size : Nat} {e : TypeId} {v : Value} {cs : List Value} (h : w.ownsRow B e size v n cs) (k : Kept S w w') (hs : ∀ i, v.ownBlock = some i → ¬ S i) : w'.ownsRow B e size v n cs := by
  refine ⟨h.1, ?_⟩
  rcases h.2 with hn | ⟨g, cap, cur, rfl, hb, hg, rest⟩
  · exact .inl hn
  · refine .inr ⟨g, cap, cur, rfl, hb, ?_, rest⟩
    rw [k.block g (Array.getElem?_eq_some_iff.1 hg).1 (hs g rfl)]
    exact hg
theorem own_below {w w' : World} {B n size : Nat} {e : TypeId} {v : Value} {cs : List Value} (h : w.ownsRow B e size v n cs) (hb : Below w.heap.size w w') : w'.ownsRow B e size v n cs :=
  own_kept (S := fun _ => False) h (kept_below hb) (fun _ _ e => e)

theorem own_frozen {w : World} {B n cap g j size : Nat} {e : TypeId} {cs : List Value} (h : w.ownsRow B e size (.slice (some ⟨g, 0, none⟩) n cap) n cs) : w.frozen? ⟨g, j, none⟩ = false := by
  rcases h.2 with ⟨e, _⟩ | ⟨g', cap', cur, e, hb, hg, h1, h2, h3, h4⟩
  · cases e
  · cases e
    simp [World.frozen?, hg]

/-! ### Wastes as cells -/
def pC (k : P) : List Value := [.int .i64 k.1, .int .i64 k.2]
def prs (l : List P) : List Value := l.flatMap pC
theorem len_prs (l : List P) : (prs l).length = l.length * 2 := by
  induction l with
  | nil => rfl
  | cons o r ih => simp only [prs, List.flatMap_cons, List.length_append, List.length_cons] at ih ⊢; rw [ih]; simp [pC]; omega
theorem prs_app (l m : List P) : prs (l ++ m) = prs l ++ prs m := by simp [prs]
theorem prs_nil : prs [] = [] := rfl
theorem prs_one (l : List P) : ∀ u ∈ prs l, u.oneCell' = true := by
  intro u hu
  simp only [prs, List.mem_flatMap, pC, List.mem_cons, List.not_mem_nil, or_false] at hu
  obtain ⟨r, _, rfl | rfl⟩ := hu <;> rfl
theorem prs_at (l : List P) (j i : Nat) (hi : i < 2) (h : j < l.length) : (prs l)[j * 2 + i]? = (pC (l.getD j (0, 0)))[i]? := by
  induction l generalizing j with
  | nil => simp at h
  | cons o r ih =>
    cases j with
    | zero => simp only [prs, List.flatMap_cons]; rw [List.getElem?_append_left (by simp [pC]; omega)]; simp
    | succ j =>
      have := ih j (by simpa using h)
      simp only [prs, List.flatMap_cons] at this ⊢
      rw [List.getElem?_append_right (by simp [pC]; omega)]
      rw [show (j + 1) * 2 + i - (pC o).length = j * 2 + i by simp [pC]; omega, this]
      simp
theorem prs_get {l : List P} {j : Nat} {u : Value} (h : (prs l)[j]? = some u) : ∃ c, l[j / 2]? = some c ∧ (pC c)[j % 2]? = some u := by
  have hj := (List.getElem?_eq_some_iff.1 h).1
  rw [len_prs] at hj
  have hd : j / 2 < l.length := by omega
  have := prs_at l (j / 2) (j % 2) (by omega) hd
  rw [show j / 2 * 2 + j % 2 = j by omega, h] at this
  exact ⟨l[j / 2], by simp, by rw [this]; simp [List.getD, hd]⟩
/-- One that waits lies at an address. -/
structure AtP (w : World) (a : Addr) (k : P) : Prop where
  c0 : w.cell? a = some (.int .i64 k.1)
  c1 : w.cell? ⟨a.block, a.off + 1, none⟩ = some (.int .i64 k.2)
theorem add_add (a : Addr) (i j : Nat) : (a.add i).add j = a.add (i + j) := by
  unfold Addr.add
  by_cases h1 : i = 0 <;> by_cases h2 : j = 0 <;> simp [h1, h2, Nat.add_assoc]
theorem add_off (a : Addr) (i : Nat) (h : i ≠ 0) : (⟨a.block, a.off + i, none⟩ : Addr) = a.add i := by simp [Addr.add, h]
theorem atP_of {w : World} {ao : Option Addr} {l : List P} (h : Row w ao (prs l)) (k : Nat) (hk : k < l.length) : ∃ a, ao = some a ∧ AtP w (a.add (k * 2)) (l.getD k (0, 0)) := by
  have g := fun (i : Nat) (hi : i < 2) (u : Value) (hu : (pC (l.getD k (0, 0)))[i]? = some u) => h.cell (k * 2 + i) u ((prs_at l k i hi hk).trans hu)
  obtain ⟨a, rfl, h0⟩ := g 0 (by omega) _ rfl
  refine ⟨a, rfl, h0, ?_⟩
  rw [add_off _ _ (by decide), add_add]
  obtain ⟨_, e, h⟩ := g 1 (by omega) _ rfl
  cases e
  exact h
theorem AtP.lt {w : World} {a : Addr} {k : P} (h : AtP w a k) : a.block < w.heap.size := World.block_lt_of_cell? w _ h.c0
theorem AtP.below {w w' : World} {a : Addr} {k : P} (h : AtP w a k) (hb : Below w.heap.size w w') : AtP w' a k :=
  ⟨(hb.cell h.lt).trans h.c0, (hb.cell (p := ⟨a.block, a.off + 1, none⟩) h.lt).trans h.c1⟩
theorem row_none {w : World} {cs : List Value} (h : Row w none cs) : cs = [] := by
  cases cs with
  | nil => rfl
  | cons y r => obtain ⟨_, e, _⟩ := h.cell 0 y rfl; cases e
theorem info_of {P : Program} {e : TypeId} {z : Value} {size bytes : Nat} (h : (P.info? e).map (fun i => (i.zero, i.size, i.bytes)) = some (some z, size, bytes)) :
    ∃ i, P.info? e = some i ∧ i.zero = some z ∧ i.size = size ∧ i.bytes = bytes := by
  cases hi : P.info? e with
  | none => simp [hi] at h
  | some i => simp [hi] at h; exact ⟨i, rfl, h.1, h.2.1, h.2.2⟩

/-- append, AS A LAW FOR THE WALK: what is owned, and behind it what lies in the other slice. -/
theorem wpList_append_row (w : World) {ops : Array Oper} {rest : List Oper} {o : Oper} {a : Act} {Q : Exit → Act → World → Prop} (hgd : o.guard = none) (s x : Operand) (T E : TypeId) (z : Value) (size bytes : Nat)
    (ho : o.op = .call { callee := .builtin .append, args := #[s, x], argTypes := #[T, T] }) (ht : Tryd.prog.underlying T = some (.slice E))
    (hi0 : (Tryd.prog.info? E).map (fun i => (i.zero, i.size, i.bytes)) = some (some z, size, bytes)) (hzs : z.cells.size = size) (hsz : 0 < size) (hby : bytes ≤ 1000)
    (base : Nat) (v : Value) (n : Nat) (xs : List Value) (hs : a.eval s = v) (hown : w.ownsRow base E size v n xs)
    (ao : Option Addr) (m c : Nat) (ys : List Value) (hx : a.eval x = .slice ao m c) (hm : ys.length = m * size) (hc : ao = none → c = 0) (hy : Row w ao ys) (h1 : ∀ u ∈ ys, u.oneCell' = true)
    (h63 : n + m ≤ 2000000) (hbase : base ≤ w.heap.size)
    (h : ∀ ao' cap' w', w'.ownsRow base E size (.slice ao' (n + m) cap') (n + m) (xs ++ ys) → w.grownBy w' v.ownBlock → wpList Tryd.prog ops Q rest (a.put o.dst (.slice ao' (n + m) cap')) w') : wpList Tryd.prog ops Q (o :: rest) a w := by
  obtain ⟨i0, hi, hz0, hz1, hz2⟩ := info_of hi0
  have sl : ∀ {w' : World} {v' : Value} {k : Nat} {cs : List Value}, w'.ownsRow base E size v' k cs → ∃ ao' cap', v' = .slice ao' k cap' := by
    intro w' v' k cs h
    rcases h.2 with ⟨rfl, rfl⟩ | ⟨g, cap, cur, rfl, _⟩
    · exact ⟨_, _, rfl⟩
    · exact ⟨_, _, rfl⟩
  cases ao with
  | none =>
    have hys : ys = [] := by
      cases ys with
      | nil => rfl
      | cons y r => obtain ⟨_, e, _⟩ := hy.cell 0 y rfl; cases e
    subst hys
    have hm0 : m = 0 := by
      cases m with
      | zero => rfl
      | succ m =>
        have := Nat.le_mul_of_pos_left size (Nat.succ_pos m)
        rw [List.length_nil] at hm
        rw [Nat.succ_eq_add_one, ← hm] at this
        omega
    subst hm0
    rw [hc rfl] at hx
    obtain ⟨ao', cap', rfl⟩ := sl hown
    refine wpList_append_own_none hgd s x T ho base E i0 size ht hi _ n xs hs hown hx ?_
    exact h ao' cap' w (by simpa using hown) (World.grownBy.refl _ _)
  | some ad =>
    refine wpList_append_own w hgd s x T ho base E i0 z size bytes ht hi hz0 hz1 hz2 hzs hsz v n xs hs hown ad m c ys hx hm ?_ h1 (by unfold maxLen; omega) (Nat.le_trans (Nat.mul_le_mul h63 hby) (by decide)) hbase ?_
    · intro j u hu
      obtain ⟨a', e, hcell⟩ := hy.cell j u hu
      cases e
      exact hcell
    · intro v' w' h1 h2 _
      obtain ⟨ao', cap', rfl⟩ := sl h1
      exact h ao' cap' w' h1 h2

/-- The same where the operation stands behind a guard that lets it by. -/
theorem wpList_append_row_g (w : World) {ops : Array Oper} {rest : List Oper} {o : Oper} {a : Act} {Q : Exit → Act → World → Prop} (hwt : Region.wanted o (yielded ops a.tmps) = true) (s x : Operand) (T E : TypeId) (z : Value) (size bytes : Nat)
    (ho : o.op = .call { callee := .builtin .append, args := #[s, x], argTypes := #[T, T] }) (ht : Tryd.prog.underlying T = some (.slice E))
    (hi0 : (Tryd.prog.info? E).map (fun i => (i.zero, i.size, i.bytes)) = some (some z, size, bytes)) (hzs : z.cells.size = size) (hsz : 0 < size) (hby : bytes ≤ 1000)
    (base : Nat) (v : Value) (n : Nat) (xs : List Value) (hs : a.eval s = v) (hown : w.ownsRow base E size v n xs)
    (ao : Option Addr) (m c : Nat) (ys : List Value) (hx : a.eval x = .slice ao m c) (hm : ys.length = m * size) (hc : ao = none → c = 0) (hy : Row w ao ys) (h1 : ∀ u ∈ ys, u.oneCell' = true)
    (h63 : n + m ≤ 2000000) (hbase : base ≤ w.heap.size)
    (h : ∀ ao' cap' w', w'.ownsRow base E size (.slice ao' (n + m) cap') (n + m) (xs ++ ys) → w.grownBy w' v.ownBlock → wpList Tryd.prog ops Q rest (a.put o.dst (.slice ao' (n + m) cap')) w') : wpList Tryd.prog ops Q (o :: rest) a w := by
  obtain ⟨i0, hi, hz0, hz1, hz2⟩ := info_of hi0
  have sl : ∀ {w' : World} {v' : Value} {k : Nat} {cs : List Value}, w'.ownsRow base E size v' k cs → ∃ ao' cap', v' = .slice ao' k cap' := by
    intro w' v' k cs h
    rcases h.2 with ⟨rfl, rfl⟩ | ⟨g, cap, cur, rfl, _⟩
    · exact ⟨_, _, rfl⟩
    · exact ⟨_, _, rfl⟩
  cases ao with
  | none =>
    have hys : ys = [] := by
      cases ys with
      | nil => rfl
      | cons y r => obtain ⟨_, e, _⟩ := hy.cell 0 y rfl; cases e
    subst hys
    have hm0 : m = 0 := by
      cases m with
      | zero => rfl
      | succ m =>
        have := Nat.le_mul_of_pos_left size (Nat.succ_pos m)
        rw [List.length_nil] at hm
        rw [Nat.succ_eq_add_one, ← hm] at this
        omega
    subst hm0
    rw [hc rfl] at hx
    obtain ⟨ao', cap', rfl⟩ := sl hown
    refine wpList_step fun P hK => ?_
    rw [if_pos hwt]
    have hrun := run_append_owned_none (P := Tryd.prog) (w := w) base T o.type E i0 size ht hi _ n xs hown
    unfold Oper.wp
    simp [execOp, ho, resolve, invoke, builtin, hs, hx, hrun, Result.andThen]
    exact hK _ _ (h ao' cap' w (by simpa using hown) (World.grownBy.refl _ _))
  | some ad =>
    refine wpList_step fun P hK => ?_
    rw [if_pos hwt]
    refine wp_append_own w s x T ho base E i0 z size bytes ht hi hz0 hz1 hz2 hzs hsz v n xs hs hown ad m c ys hx hm ?_ h1 (by unfold maxLen; omega) (Nat.le_trans (Nat.mul_le_mul h63 hby) (by decide)) hbase ?_
    · intro j u hu
      obtain ⟨a', e, hcell⟩ := hy.cell j u hu
      cases e
      exact hcell
    · intro v' w' h1 h2 _
      obtain ⟨ao', cap', rfl⟩ := sl h1
      exact hK _ _ (h ao' cap' w' h1 h2)

theorem own0 (w : World) (E : TypeId) (size : Nat) : (w.alloc (.cells #[] E)).ownsRow w.heap.size E size (.slice (some ⟨w.heap.size, 0, none⟩) 0 0) 0 [] :=
  World.ownsRow_made w #[] 0 (Nat.le_refl _) (by decide) (by simp)
theorem app_below {w w1 : World} {E : TypeId} {n c : Nat} (h : (w.alloc (.cells #[] E)).grownBy w1 (Value.ownBlock (.slice (some ⟨w.heap.size, 0, none⟩) n c))) : Below w.heap.size w w1 :=
  ((Below.refl _ w).alloc (Nat.le_refl _) _).grown h (by simp) (fun k e => by cases e; exact Nat.le_refl _)
theorem alloc_below (w : World) (o : Obj) : Below w.heap.size w (w.alloc o) := (Below.refl _ w).alloc (Nat.le_refl _) _

/-- A list of prs that lies somewhere. -/
structure HasP (w : World) (ao : Option Addr) (n cap : Nat) (l : List P) : Prop where
  len : n = l.length
  nil : ao = none → cap = 0
  cap : n ≤ cap
  row : Row w ao (prs l)
theorem HasP.below {w w' : World} {ao : Option Addr} {n cap : Nat} {l : List P} (h : HasP w ao n cap l) (hb : Below w.heap.size w w') : HasP w' ao n cap l := ⟨h.len, h.nil, h.cap, h.row.below hb⟩
/-- A list that a call has made: a row of its own from B on. -/
def MineP (E : TypeId) (w : World) (B : Nat) (ao : Option Addr) (n cap : Nat) (l : List P) : Prop := n = l.length ∧ w.ownsRow B E 2 (.slice ao n cap) n (prs l)
theorem MineP.has {E : TypeId} {w : World} {B n cap : Nat} {ao : Option Addr} {l : List P} (h : MineP E w B ao n cap l) : HasP w ao n cap l := ⟨h.1, (own_row h.2).2.2.1, (own_row h.2).2.1, (own_row h.2).1⟩
theorem MineP.below {E : TypeId} {w w' : World} {B n cap : Nat} {ao : Option Addr} {l : List P} (h : MineP E w B ao n cap l) (hb : Below w.heap.size w w') : MineP E w' B ao n cap l := ⟨h.1, own_below h.2 hb⟩
theorem mineP_nil (E : TypeId) (w : World) (B : Nat) : MineP E w B none 0 0 [] := ⟨rfl, World.ownsRow_nil _ _ _ _⟩
theorem MineP.append {E : TypeId} {w w1 : World} {B n m cap cap' : Nat} {ao ao' : Option Addr} {l k : List P} (h : MineP E w B ao n cap l) (hB : B ≤ w.heap.size) (hk : m = k.length)
    (h1 : w1.ownsRow B E 2 (.slice ao' (n + m) cap') (n + m) (prs l ++ prs k)) (hg : w.grownBy w1 (Value.ownBlock (.slice ao n cap))) : MineP E w1 B ao' (n + m) cap' (l ++ k) ∧ Below B w w1 := by
  refine ⟨⟨by rw [h.1, hk]; simp, ?_⟩, (Below.refl B w).grown hg hB (fun k e => (World.ownsRow.lt h.2 k e).1)⟩
  rw [prs_app]
  exact h1
theorem one_pair (w : World) (k : P) (t : TypeId) : Row (w.alloc (.cells #[.int .i64 k.1, .int .i64 k.2] t)) (some ⟨w.heap.size, 0, none⟩) (prs [k]) := by
  refine ⟨fun j u hu => ⟨_, rfl, ?_⟩⟩
  match j, hu with
  | 0, hu => simp [prs, pC] at hu; subst hu; simp [Addr.add]
  | 1, hu => simp [prs, pC] at hu; subst hu; simp [Addr.add]
theorem at_new (w : World) (k : P) (t : TypeId) : AtP (w.alloc (.cells #[.int .i64 k.1, .int .i64 k.2] t)) ⟨w.heap.size, 0, none⟩ k := by constructor <;> simp
theorem at_new2 (w : World) (a b : P) (t : TypeId) : AtP ((w.alloc (.cells #[.int .i64 a.1, .int .i64 a.2] t)).alloc (.cells #[.int .i64 b.1, .int .i64 b.2] t)) ⟨w.heap.size + 1, 0, none⟩ b := by
  have := at_new (w.alloc (.cells #[.int .i64 a.1, .int .i64 a.2] t)) b t
  simpa using this
theorem infoS : (Tryd.prog.info? 70).map (fun i => (i.zero, i.size, i.bytes)) = some (some (.agg #[.int .i64 0, .int .i64 0]), 2, 16) := by kernel_rfl
/-! ### Numbers as cells -/
abbrev vals (l : List Int) : List Value := l.map (Value.int .i64)
theorem len_vals (l : List Int) : (vals l).length = l.length := by simp
theorem vals_at (l : List Int) (j : Nat) (h : j < l.length) : (vals l)[j]? = some (.int .i64 (l.getD j 0)) := by simp [vals, List.getD, h]
theorem vals_one (l : List Int) : ∀ u ∈ vals l, u.oneCell' = true := by
  intro u hu
  simp only [vals, List.mem_map] at hu
  obtain ⟨x, _, rfl⟩ := hu
  rfl
/-- A list of numbers that lies somewhere. -/
structure Has (w : World) (ao : Option Addr) (n cap : Nat) (l : List Int) : Prop where
  len : n = l.length
  nil : ao = none → cap = 0
  le : n ≤ cap
  row : Row w ao (vals l)
/-- .. in a block from B on. -/
structure Mine (w : World) (B : Nat) (ao : Option Addr) (n cap : Nat) (l : List Int) : Prop where
  has : Has w ao n cap l
  new : ∀ a, ao = some a → B ≤ a.block
theorem Has.kept {S : Nat → Prop} {w w' : World} {ao : Option Addr} {n cap : Nat} {l : List Int} (h : Has w ao n cap l) (k : Kept S w w') (hs : Off S ao (vals l)) : Has w' ao n cap l := ⟨h.len, h.nil, h.le, h.row.kept k hs⟩
theorem Has.below {w w' : World} {ao : Option Addr} {n cap : Nat} {l : List Int} (h : Has w ao n cap l) (hb : Below w.heap.size w w') : Has w' ao n cap l := ⟨h.len, h.nil, h.le, h.row.below hb⟩
theorem Has.cell {w : World} {ao : Option Addr} {n cap : Nat} {l : List Int} (h : Has w ao n cap l) (j : Nat) (hj : j < n) : ∃ a, ao = some a ∧ w.cell? (a.add j) = some (.int .i64 (l.getD j 0)) :=
  h.row.cell j _ (vals_at l j (by have := h.len; omega))
theorem Mine.below {w w' : World} {B : Nat} {ao : Option Addr} {n cap : Nat} {l : List Int} (h : Mine w B ao n cap l) (hb : Below w.heap.size w w') : Mine w' B ao n cap l := ⟨h.has.below hb, h.new⟩
theorem Mine.kept {S : Nat → Prop} {w w' : World} {B B' : Nat} {ao : Option Addr} {n cap : Nat} {l : List Int} (h : Mine w B ao n cap l) (k : Kept S w w') (hs : ∀ i, B ≤ i → ¬ S i) (hB : B' ≤ B) : Mine w' B' ao n cap l :=
  ⟨h.has.kept k (fun _ a e => hs _ (h.new a e)), fun a e => Nat.le_trans hB (h.new a e)⟩
theorem Mine.base {w : World} {B B' : Nat} {ao : Option Addr} {n cap : Nat} {l : List Int} (h : Mine w B ao n cap l) (hB : B' ≤ B) : Mine w B' ao n cap l := ⟨h.has, fun a e => Nat.le_trans hB (h.new a e)⟩
theorem has_nil (w : World) : Has w none 0 0 [] := ⟨rfl, fun _ => rfl, Nat.le_refl _, row_nil _ _⟩
theorem own_mine {w : World} {B n cap : Nat} {e : TypeId} {ao : Option Addr} {l : List Int} (h : w.ownsRow B e 1 (.slice ao n cap) n (vals l)) : Mine w B ao n cap l := by
  obtain ⟨h1, h2, h3, h4⟩ := own_row h
  exact ⟨⟨by have := h.1; simp at this; omega, h3, h2, h1⟩, fun a e => (h4 a e).1⟩

theorem infoN : (Tryd.prog.info? 3).map (fun i => (i.zero, i.size, i.bytes)) = some (some (.int .i64 0), 1, 8) := by kernel_rfl

/-! ### Worlds that grew -/
/-- Draws, and new blocks behind. -/
def Grows (w w' : World) : Prop := ∃ q os, w' = Go.Sort.grow (w.drewN q) os
theorem Grows.below {w w' : World} (h : Grows w w') : Below w.heap.size w w' := by
  obtain ⟨q, os, rfl⟩ := h
  exact ⟨rfl, rfl, rfl, by simp [Go.Sort.grow], fun i hi => by simp [Go.Sort.grow, Array.getElem?_append, World.drewN, hi]⟩
theorem Grows.refl (w : World) : Grows w w := ⟨0, #[], by simp [World.drewN]⟩
theorem Grows.alloc {w w' : World} (h : Grows w w') (o : Obj) : Grows w (w'.alloc o) := by
  obtain ⟨q, os, rfl⟩ := h
  exact ⟨q, os ++ #[o], by rw [Go.Sort.alloc_eq_grow, Go.Sort.grow_grow]⟩
theorem Grows.drewN {w w' : World} (h : Grows w w') (n : Nat) : Grows w (w'.drewN n) := by
  obtain ⟨q, os, rfl⟩ := h
  exact ⟨q + n, os, by simp [Go.Sort.grow, World.drewN, Nat.add_assoc]⟩
theorem Grows.trans {a b c : World} (h : Grows a b) (k : Grows b c) : Grows a c := by
  obtain ⟨q, os, rfl⟩ := k
  obtain ⟨q', os', rfl⟩ := h
  exact ⟨q' + q, os' ++ os, by simp [Go.Sort.grow, World.drewN, Nat.add_assoc]⟩

/-! ### Later worlds -/
/-- A WORLD THAT CAME AFTER w. -/
structure Later (w : World) where
  now : World
  low : Below w.heap.size w now
theorem Later.cell {w : World} (g : Later w) {a : Addr} {v : Value} (h : w.cell? a = some v) : g.now.cell? a = some v := (g.low.cell (World.block_lt_of_cell? w _ h)).trans h
/-- A REGION THAT DRAWS ITS ORDER, EVERY OPERATION OF WHICH YIELDS ONE VALUE IN EVERY LATER WORLD: ONE WALK. -/
theorem wp_region_later {P : Program} {id : Nat} {Q : Exit → Act → World → Prop} {a : Act} {w : World} {l : List Oper} (hm : P.follows .mixedOrders = true) (hB : Region.lexB .any l.toArray = true)
    (h : wpQuiet P l.toArray (fun w' => ∃ g : Later w, w' = g.now) (fun a' => ∀ w', (∃ g : Later w, w' = g.now) → Q .normal a' w') l a) : (Code.region id l.toArray true).wp P Q a w :=
  wp_region_quiet (C := fun w' => ∃ g : Later w, w' = g.now) hm hB ⟨⟨_, (Below.refl _ w).drew⟩, rfl⟩ (by simpa using h)
theorem later_call {P : Program} {f : FuncId} {args : Array Value} {w : World} {g : Later w} {v : Value}
    (h : Calls P f args g.now fun e w' => e = .returned v ∧ Below g.now.heap.size g.now w') : Calls P f args g.now fun e w'' => e = .returned v ∧ ∃ g' : Later w, w'' = g'.now :=
  h.mono fun _ w' ⟨he, hb⟩ => ⟨he, ⟨w', q_trans g.low hb⟩, rfl⟩
theorem AtP.always {w : World} {a : Addr} {k : P} (h : AtP w a k) : (∀ g : Later w, g.now.cell? a = some (.int .i64 k.1)) ∧ (∀ g : Later w, g.now.cell? ⟨a.block, a.off + 1, none⟩ = some (.int .i64 k.2)) :=
  ⟨fun g => g.cell h.c0, fun g => g.cell h.c1⟩
end Go.Proofs.YtilannincbcgkaaDoor.Ad
