/- Lists of waiters cut, and put one behind the other; append at a step of a region. -/
import Derived.Test.YtpcdjpcdmnjdfabPoMem
namespace Go.Proofs.Ytpcdjpcdmnjdfab.Po
open Go.RowKit

theorem HasQ.take {w : World} {y : Hd} {l : List Wt} (h : HasQ w y l) (k : Nat) (hk : k ≤ y.n) : HasQ w ⟨y.o, k, y.c⟩ (l.take k) := by
  refine ⟨by have := h.len; simp; omega, h.nil, Nat.le_trans hk h.cap, ⟨fun j u hu => ?_⟩⟩
  refine h.row.cell j u ?_
  have e : wts l = wts (l.take k) ++ wts (l.drop k) := by rw [← wts_app, List.take_append_drop]
  rw [e, List.getElem?_append_left (List.getElem?_eq_some_iff.1 hu).1]
  exact hu
theorem run_from (ao : Option Addr) (k n cap : Nat) (hk : k ≤ n) (W : World) :
    (Instr.slice 23 (.slice ao n cap) (some (.int .i64 k)) none none).run Try.prog W = .ok (.slice (if cap = k then ao else ao.map (·.add (k * 8))) (n - k) (cap - k)) W := by
  have hb := fun code => run_sliceBound (P := Try.prog) (w := W) .i64 (k : Int) n code (by omega) (by omega)
  simp [Instr.slice, Instr.sliceBounds, run_underlying Try.underlying23, hb, Try.sizeOf30]
theorem run_to (ao : Option Addr) (k n cap : Nat) (hk : k ≤ cap) (W : World) :
    (Instr.slice 23 (.slice ao n cap) none (some (.int .i64 k)) none).run Try.prog W = .ok (.slice ao k cap) W := by
  have hb := fun code => run_sliceBound (P := Try.prog) (w := W) .i64 (k : Int) cap code (by omega) (by omega)
  have ha : ao.map (fun a => a.add 0) = ao := by cases ao <;> simp [Addr.add]
  simp [Instr.slice, Instr.sliceBounds, run_underlying Try.underlying23, hb, Try.sizeOf30, ha]
theorem wts_drop (l : List Wt) (k j : Nat) : (wts (l.drop k))[j]? = (wts l)[k * 8 + j]? := by
  by_cases hk : k ≤ l.length
  · have e : wts l = wts (l.take k) ++ wts (l.drop k) := by rw [← wts_app, List.take_append_drop]
    rw [e, List.getElem?_append_right (by rw [len_wts, List.length_take]; omega)]
    congr 1
    rw [len_wts, List.length_take, Nat.min_eq_left hk]
    omega
  · rw [List.drop_eq_nil_of_le (by omega), List.getElem?_eq_none (by simp [wts]), List.getElem?_eq_none (by rw [len_wts]; omega)]
theorem HasQ.drop {w : World} {y : Hd} {l : List Wt} (h : HasQ w y l) (k : Nat) (hk : k ≤ y.n) : HasQ w ⟨if y.c = k then y.o else y.o.map (·.add (k * 8)), y.n - k, y.c - k⟩ (l.drop k) := by
  have hl := h.len
  have hc := h.cap
  refine ⟨by simp; omega, ?_, by show y.n - k ≤ y.c - k; omega, ⟨fun j u hu => ?_⟩⟩
  · intro e
    have e : (if y.c = k then y.o else y.o.map (·.add (k * 8))) = none := e
    show y.c - k = 0
    split at e
    · omega
    · cases ho : y.o with
      | none => have := h.nil ho; omega
      | some a => rw [ho] at e; cases e
  · have hj := (List.getElem?_eq_some_iff.1 hu).1
    rw [len_wts, List.length_drop] at hj
    rw [wts_drop] at hu
    obtain ⟨a, e, hcell⟩ := h.row.cell _ u hu
    refine ⟨a.add (k * 8), by show (if y.c = k then y.o else y.o.map (·.add (k * 8))) = _; rw [if_neg (by omega), e]; rfl, ?_⟩
    rw [add_add]
    exact hcell
theorem step_ws (w : World) {ops : Array Oper} {o : Oper} {a : Act} {C : Act → World → Prop} {Q : Exit → Act → World → Prop} {E : Prop} (hgd : o.guard = none) (s x : Operand)
    (ho : o.op = .call { callee := .builtin .append, args := #[s, x], argTypes := #[23, 23] })
    (base : Nat) (v : Value) (n : Nat) (xs : List Wt) (hs : a.eval s = v) (hown : w.ownsRow base 30 8 v n (wts xs))
    (ao : Option Addr) (m c : Nat) (ys : List Wt) (hx : a.eval x = .slice ao m c) (hm : m = ys.length) (hc : ao = none → c = 0) (hy : Row w ao (wts ys))
    (N : Nat) (hN : n + m = N) (Z : List Wt) (hZ : xs ++ ys = Z) (h63 : N ≤ 5000) (hbase : base ≤ w.heap.size)
    (h : ∀ ao' cap' w', w'.ownsRow base 30 8 (.slice ao' N cap') N (wts Z) → w.grownBy w' v.ownBlock → C (a.put o.dst (.slice ao' N cap')) w') :
    if Region.wanted o (yielded ops a.tmps) = true then Oper.wp Try.prog o a w C Q else E := by
  have hw : Region.wanted o (yielded ops a.tmps) = true := by simp [Region.wanted, hgd]
  rw [if_pos hw]
  subst hN hZ
  rw [wts_app] at h
  obtain ⟨i0, hi, hz0, hz1, hz2⟩ := info_of infoW
  have sl : ∀ {w' : World} {v' : Value} {k : Nat} {cs : List Value}, w'.ownsRow base 30 8 v' k cs → ∃ ao' cap', v' = .slice ao' k cap' := by
    intro w' v' k cs h
    rcases h.2 with ⟨rfl, rfl⟩ | ⟨g, cap, cur, rfl, _⟩
    · exact ⟨_, _, rfl⟩
    · exact ⟨_, _, rfl⟩
  cases ao with
  | none =>
    have h0 := row_none hy
    have hl := len_wts ys
    rw [h0] at hl
    have hm0 : m = 0 := by rw [hm]; simp at hl; omega
    subst hm0
    rw [hc rfl] at hx
    obtain ⟨ao', cap', rfl⟩ := sl hown
    have hrun := run_append_owned_none (P := Try.prog) (w := w) base 23 o.type 30 i0 8 Try.underlying23 hi _ n (wts xs) hown
    unfold Oper.wp
    simp [execOp, ho, resolve, invoke, builtin, hs, hx, hrun, Result.andThen]
    exact h ao' cap' w (by rw [h0]; simpa using hown) (World.grownBy.refl _ _)
  | some ad =>
    refine wp_append_own w s x 23 ho base 30 i0 _ 8 64 Try.underlying23 hi hz0 hz1 hz2 rfl (by decide) v n (wts xs) hs hown ad m c (wts ys) hx (by rw [len_wts, hm]) ?_ (wts_one _) (by unfold maxLen; omega) (by omega) hbase ?_
    · intro j u hu
      obtain ⟨a', e, hcell⟩ := hy.cell j u hu
      cases e
      exact hcell
    · intro v' w' h1 h2 _
      obtain ⟨ao', cap', rfl⟩ := sl h1
      exact h ao' cap' w' h1 h2
theorem own_grown {w w' w6 : World} {B n : Nat} {E : TypeId} {v : Value} {sz : Nat} {cs : List Value} (own : w'.ownsRow w.heap.size E sz v n cs) (g : w'.grownBy w6 v.ownBlock) (hB : w.heap.size ≤ w'.heap.size) (b : Below w.heap.size w w') (_ : B = B) : Below w.heap.size w w6 :=
  b.grown g hB (fun k e => (World.ownsRow.lt own k e).1)
theorem HasQ.set {w : World} {y : Hd} {l : List Wt} {N : Nat} (h : HasQ w y l) (hn : Off (fun i => i < N) y.o (wts l)) {p : Addr} (hp : p.block < N) (u : Value) : HasQ (w.setCell p u) y l :=
  h.kept (kept_set (fun i => i = p.block) w p u rfl) (fun h0 a e s => hn h0 a e (by have s : a.block = p.block := s; show a.block < N; rw [s]; exact hp))
theorem HasQ.set3 {w : World} {y : Hd} {l : List Wt} {N b : Nat} (h : HasQ w y l) (hn : Off (fun i => i < N) y.o (wts l)) (hb : b < N) (p : Pt) (z : Hd) : HasQ (put3 w b p z) y l :=
  h.kept (kept_put3 w b p z) (fun h0 a e s => hn h0 a e (by have s : a.block = b := s; show a.block < N; omega))
theorem HasQ.set8 {w : World} {y : Hd} {l : List Wt} {N b : Nat} (h : HasQ w y l) (hn : Off (fun i => i < N) y.o (wts l)) (hb : b < N) (x : Wt) : HasQ (put8 w b x) y l :=
  h.kept (kept_put8 w b x) (fun h0 a e s => hn h0 a e (by have s : a.block = b := s; show a.block < N; omega))
theorem off_less {N M : Nat} {ao : Option Addr} {cs : List Value} (h : Off (fun i => i < N) ao cs) (hm : M ≤ N) : Off (fun i => i < M) ao cs := fun h0 a e s => h h0 a e (Nat.lt_of_lt_of_le s hm)
/-! ### The boxes of a call -/
/-- A port's box, and the answer's. -/
structure B2 (w wr : World) (p q : Pt) (y z : Hd) : Prop where
  a : Pb wr w.heap.size p y
  r : Pb wr (w.heap.size + 1) q z
  low : Below w.heap.size w wr
theorem B2.below {w wr w' : World} {p q : Pt} {y z : Hd} (h : B2 w wr p q y z) (b : Below wr.heap.size wr w') : B2 w w' p q y z := ⟨h.a.below b, h.r.below b, q_trans h.low b⟩
theorem b2_new (w : World) (p q : Pt) (y z : Hd) : B2 w ((w.alloc (.cells #[.int .i64 p.k, .int .i64 p.w, .slice y.o y.n y.c] 25)).alloc (.cells #[.int .i64 q.k, .int .i64 q.w, .slice z.o z.n z.c] 25)) p q y z := by
  refine ⟨(pb_new w p y).below (alloc_below _ _), ?_, q_alloc (alloc_below _ _) _⟩
  have h := pb_new (w.alloc (.cells #[.int .i64 p.k, .int .i64 p.w, .slice y.o y.n y.c] 25)) q z
  rwa [show (w.alloc (.cells #[.int .i64 p.k, .int .i64 p.w, .slice y.o y.n y.c] 25)).heap.size = w.heap.size + 1 by simp] at h
/-- A port's box, a waiter's, the answers'. -/
structure B4 (w wr : World) (p q : Pt) (y z : Hd) (x v : Wt) : Prop where
  a : Pb wr w.heap.size p y
  b : Wb wr (w.heap.size + 1) x
  r : Pb wr (w.heap.size + 2) q z
  s : Wb wr (w.heap.size + 3) v
  low : Below w.heap.size w wr
theorem B4.below {w wr w' : World} {p q : Pt} {y z : Hd} {x v : Wt} (h : B4 w wr p q y z x v) (b : Below wr.heap.size wr w') : B4 w w' p q y z x v := ⟨h.a.below b, h.b.below b, h.r.below b, h.s.below b, q_trans h.low b⟩
theorem b4_new (w : World) (p q : Pt) (y z : Hd) (x v : Wt) : B4 w ((((w.alloc (.cells #[.int .i64 p.k, .int .i64 p.w, .slice y.o y.n y.c] 25)).alloc (.cells #[.int .i64 x.c, .int .i64 x.v, .int .i64 x.b, .bool x.h, .int .i64 x.o, .int .i64 x.s, .int .i64 x.g, .bool x.t] 30)).alloc (.cells #[.int .i64 q.k, .int .i64 q.w, .slice z.o z.n z.c] 25)).alloc (.cells #[.int .i64 v.c, .int .i64 v.v, .int .i64 v.b, .bool v.h, .int .i64 v.o, .int .i64 v.s, .int .i64 v.g, .bool v.t] 30)) p q y z x v := by
  have s1 : (w.alloc (.cells #[.int .i64 p.k, .int .i64 p.w, .slice y.o y.n y.c] 25)).heap.size = w.heap.size + 1 := by simp
  have s2 : ((w.alloc (.cells #[.int .i64 p.k, .int .i64 p.w, .slice y.o y.n y.c] 25)).alloc (.cells #[.int .i64 x.c, .int .i64 x.v, .int .i64 x.b, .bool x.h, .int .i64 x.o, .int .i64 x.s, .int .i64 x.g, .bool x.t] 30)).heap.size = w.heap.size + 2 := by simp
  have s3 : (((w.alloc (.cells #[.int .i64 p.k, .int .i64 p.w, .slice y.o y.n y.c] 25)).alloc (.cells #[.int .i64 x.c, .int .i64 x.v, .int .i64 x.b, .bool x.h, .int .i64 x.o, .int .i64 x.s, .int .i64 x.g, .bool x.t] 30)).alloc (.cells #[.int .i64 q.k, .int .i64 q.w, .slice z.o z.n z.c] 25)).heap.size = w.heap.size + 3 := by simp
  refine ⟨(((pb_new w p y).below (alloc_below _ _)).below (alloc_below _ _)).below (alloc_below _ _), ?_, ?_, ?_, q_alloc (q_alloc (q_alloc (alloc_below _ _) _) _) _⟩
  · have h := ((wb_new (w.alloc (.cells #[.int .i64 p.k, .int .i64 p.w, .slice y.o y.n y.c] 25)) x).below (alloc_below _ (.cells #[.int .i64 q.k, .int .i64 q.w, .slice z.o z.n z.c] 25))).below (alloc_below _ (.cells #[.int .i64 v.c, .int .i64 v.v, .int .i64 v.b, .bool v.h, .int .i64 v.o, .int .i64 v.s, .int .i64 v.g, .bool v.t] 30))
    rwa [s1] at h
  · have h := (pb_new ((w.alloc (.cells #[.int .i64 p.k, .int .i64 p.w, .slice y.o y.n y.c] 25)).alloc (.cells #[.int .i64 x.c, .int .i64 x.v, .int .i64 x.b, .bool x.h, .int .i64 x.o, .int .i64 x.s, .int .i64 x.g, .bool x.t] 30)) q z).below (alloc_below _ (.cells #[.int .i64 v.c, .int .i64 v.v, .int .i64 v.b, .bool v.h, .int .i64 v.o, .int .i64 v.s, .int .i64 v.g, .bool v.t] 30))
    rwa [s2] at h
  · have h := wb_new (((w.alloc (.cells #[.int .i64 p.k, .int .i64 p.w, .slice y.o y.n y.c] 25)).alloc (.cells #[.int .i64 x.c, .int .i64 x.v, .int .i64 x.b, .bool x.h, .int .i64 x.o, .int .i64 x.s, .int .i64 x.g, .bool x.t] 30)).alloc (.cells #[.int .i64 q.k, .int .i64 q.w, .slice z.o z.n z.c] 25)) v
    rwa [s3] at h
theorem B4.lt {w wr : World} {p q : Pt} {y z : Hd} {x v : Wt} (h : B4 w wr p q y z x v) : w.heap.size + 3 < wr.heap.size := h.s.lt
/-- A port's box, the answers'. -/
structure B3 (w wr : World) (p q : Pt) (y z : Hd) (v : Wt) : Prop where
  a : Pb wr w.heap.size p y
  r : Pb wr (w.heap.size + 1) q z
  s : Wb wr (w.heap.size + 2) v
  low : Below w.heap.size w wr
theorem B3.below {w wr w' : World} {p q : Pt} {y z : Hd} {v : Wt} (h : B3 w wr p q y z v) (b : Below wr.heap.size wr w') : B3 w w' p q y z v := ⟨h.a.below b, h.r.below b, h.s.below b, q_trans h.low b⟩
theorem b3_new (w : World) (p q : Pt) (y z : Hd) (v : Wt) : B3 w (((w.alloc (.cells #[.int .i64 p.k, .int .i64 p.w, .slice y.o y.n y.c] 25)).alloc (.cells #[.int .i64 q.k, .int .i64 q.w, .slice z.o z.n z.c] 25)).alloc (.cells #[.int .i64 v.c, .int .i64 v.v, .int .i64 v.b, .bool v.h, .int .i64 v.o, .int .i64 v.s, .int .i64 v.g, .bool v.t] 30)) p q y z v := by
  have s1 : (w.alloc (.cells #[.int .i64 p.k, .int .i64 p.w, .slice y.o y.n y.c] 25)).heap.size = w.heap.size + 1 := by simp
  have s2 : ((w.alloc (.cells #[.int .i64 p.k, .int .i64 p.w, .slice y.o y.n y.c] 25)).alloc (.cells #[.int .i64 q.k, .int .i64 q.w, .slice z.o z.n z.c] 25)).heap.size = w.heap.size + 2 := by simp
  refine ⟨((pb_new w p y).below (alloc_below _ _)).below (alloc_below _ _), ?_, ?_, q_alloc (q_alloc (alloc_below _ _) _) _⟩
  · have h := (pb_new (w.alloc (.cells #[.int .i64 p.k, .int .i64 p.w, .slice y.o y.n y.c] 25)) q z).below (alloc_below _ (.cells #[.int .i64 v.c, .int .i64 v.v, .int .i64 v.b, .bool v.h, .int .i64 v.o, .int .i64 v.s, .int .i64 v.g, .bool v.t] 30))
    rwa [s1] at h
  · have h := wb_new ((w.alloc (.cells #[.int .i64 p.k, .int .i64 p.w, .slice y.o y.n y.c] 25)).alloc (.cells #[.int .i64 q.k, .int .i64 q.w, .slice z.o z.n z.c] 25)) v
    rwa [s2] at h
theorem B3.lt {w wr : World} {p q : Pt} {y z : Hd} {v : Wt} (h : B3 w wr p q y z v) : w.heap.size + 2 < wr.heap.size := h.s.lt
theorem B2.lt {w wr : World} {p q : Pt} {y z : Hd} (h : B2 w wr p q y z) : w.heap.size + 1 < wr.heap.size := h.r.lt
/-- What a call that answers a port says of its list. -/
structure Ans (w w' : World) (z : Hd) (l : List Wt) : Prop where
  has : HasQ w' z l
  new : NewQ w z l
  low : Below w.heap.size w w'
theorem Ans.of {w w1 w' : World} {z : Hd} {l : List Wt} (h : Ans w1 w' z l) (b : Below w.heap.size w w1) : Ans w w' z l := ⟨h.has, h.new.mono b, q_trans b h.low⟩
end Go.Proofs.Ytpcdjpcdmnjdfab.Po
