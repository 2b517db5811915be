/- Waiters, ports and acts in memory. -/
import Derived.Test.YtpcdjpcdmnjdfabPoMem0
namespace Go.Proofs.Ytpcdjpcdmnjdfab.Po
open Go.RowKit

theorem add_zero_addr (a : Addr) : a.add 0 = a := by simp [Addr.add]
def wC (x : Wt) : List Value := [.int .i64 x.c, .int .i64 x.v, .int .i64 x.b, .bool x.h, .int .i64 x.o, .int .i64 x.s, .int .i64 x.g, .bool x.t]
def wts (l : List Wt) : List Value := l.flatMap wC
theorem len_wts (l : List Wt) : (wts l).length = l.length * 8 := by
  induction l with
  | nil => rfl
  | cons o r ih => simp only [wts, List.flatMap_cons, List.length_append, List.length_cons] at ih ⊢; rw [ih]; simp [wC]; omega
theorem wts_app (l m : List Wt) : wts (l ++ m) = wts l ++ wts m := by simp [wts]
theorem wts_nil : wts [] = [] := rfl
theorem wts_one (l : List Wt) : ∀ u ∈ wts l, u.oneCell' = true := by
  intro u hu
  simp only [wts, List.mem_flatMap, wC, List.mem_cons, List.not_mem_nil, or_false] at hu
  obtain ⟨r, _, rfl | rfl | rfl | rfl | rfl | rfl | rfl | rfl⟩ := hu <;> rfl
theorem wts_at (l : List Wt) (j i : Nat) (hi : i < 8) (h : j < l.length) : (wts l)[j * 8 + i]? = (wC (l.getD j z0))[i]? := by
  induction l generalizing j with
  | nil => simp at h
  | cons o r ih =>
    cases j with
    | zero => simp only [wts, List.flatMap_cons]; rw [List.getElem?_append_left (by simp [wC]; omega)]; simp
    | succ j =>
      have := ih j (by simpa using h)
      simp only [wts, List.flatMap_cons] at this ⊢
      rw [List.getElem?_append_right (by simp [wC]; omega)]
      rw [show (j + 1) * 8 + i - (wC o).length = j * 8 + i by simp [wC]; omega, this]
      simp
/-- A waiter lies at an address. -/
structure AtW (w : World) (a : Addr) (x : Wt) : Prop where
  c0 : w.cell? a = some (.int .i64 x.c)
  c1 : w.cell? ⟨a.block, a.off + 1, none⟩ = some (.int .i64 x.v)
  c2 : w.cell? ⟨a.block, a.off + 2, none⟩ = some (.int .i64 x.b)
  c3 : w.cell? ⟨a.block, a.off + 3, none⟩ = some (.bool x.h)
  c4 : w.cell? ⟨a.block, a.off + 4, none⟩ = some (.int .i64 x.o)
  c5 : w.cell? ⟨a.block, a.off + 5, none⟩ = some (.int .i64 x.s)
  c6 : w.cell? ⟨a.block, a.off + 6, none⟩ = some (.int .i64 x.g)
  c7 : w.cell? ⟨a.block, a.off + 7, none⟩ = some (.bool x.t)
theorem atW_of {w : World} {ao : Option Addr} {l : List Wt} (h : Row w ao (wts l)) (k : Nat) (hk : k < l.length) : ∃ a, ao = some a ∧ AtW w (a.add (k * 8)) (l.getD k z0) := by
  have g := fun (i : Nat) (hi : i < 8) (u : Value) (hu : (wC (l.getD k z0))[i]? = some u) => h.cell (k * 8 + i) u ((wts_at l k i hi hk).trans hu)
  obtain ⟨a, rfl, h0⟩ := g 0 (by omega) _ rfl
  refine ⟨a, rfl, h0, ?_, ?_, ?_, ?_, ?_, ?_, ?_⟩
  all_goals rw [add_off _ _ (by decide), add_add]
  · obtain ⟨_, e, h⟩ := g 1 (by omega) _ rfl
    cases e
    exact h
  · obtain ⟨_, e, h⟩ := g 2 (by omega) _ rfl
    cases e
    exact h
  · obtain ⟨_, e, h⟩ := g 3 (by omega) _ rfl
    cases e
    exact h
  · obtain ⟨_, e, h⟩ := g 4 (by omega) _ rfl
    cases e
    exact h
  · obtain ⟨_, e, h⟩ := g 5 (by omega) _ rfl
    cases e
    exact h
  · obtain ⟨_, e, h⟩ := g 6 (by omega) _ rfl
    cases e
    exact h
  · obtain ⟨_, e, h⟩ := g 7 (by omega) _ rfl
    cases e
    exact h
theorem AtW.lt {w : World} {a : Addr} {x : Wt} (h : AtW w a x) : a.block < w.heap.size := World.block_lt_of_cell? w _ h.c0
theorem AtW.kept {S : Nat → Prop} {w w' : World} {a : Addr} {x : Wt} (h : AtW w a x) (k : Kept S w w') (hn : ¬ S a.block) : AtW w' a x :=
  ⟨k.cell h.c0 hn, k.cell h.c1 hn, k.cell h.c2 hn, k.cell h.c3 hn, k.cell h.c4 hn, k.cell h.c5 hn, k.cell h.c6 hn, k.cell h.c7 hn⟩
theorem AtW.below {w w' : World} {a : Addr} {x : Wt} (h : AtW w a x) (hb : Below w.heap.size w w') : AtW w' a x := h.kept (S := fun _ => False) (kept_below hb) id
theorem atW_new (w : World) (x : Wt) (t : TypeId) : AtW (w.alloc (.cells #[.int .i64 x.c, .int .i64 x.v, .int .i64 x.b, .bool x.h, .int .i64 x.o, .int .i64 x.s, .int .i64 x.g, .bool x.t] t)) ⟨w.heap.size, 0, none⟩ x := by constructor <;> simp
theorem AtW.always {w : World} {a : Addr} {x : Wt} (h : AtW w a x) : (∀ g : Later w, g.now.cell? a = some (.int .i64 x.c)) ∧ (∀ g : Later w, g.now.cell? ⟨a.block, a.off + 1, none⟩ = some (.int .i64 x.v)) ∧ (∀ g : Later w, g.now.cell? ⟨a.block, a.off + 2, none⟩ = some (.int .i64 x.b)) ∧ (∀ g : Later w, g.now.cell? ⟨a.block, a.off + 3, none⟩ = some (.bool x.h)) ∧ (∀ g : Later w, g.now.cell? ⟨a.block, a.off + 4, none⟩ = some (.int .i64 x.o)) ∧ (∀ g : Later w, g.now.cell? ⟨a.block, a.off + 5, none⟩ = some (.int .i64 x.s)) ∧ (∀ g : Later w, g.now.cell? ⟨a.block, a.off + 6, none⟩ = some (.int .i64 x.g)) ∧ (∀ g : Later w, g.now.cell? ⟨a.block, a.off + 7, none⟩ = some (.bool x.t)) :=
  ⟨fun g => g.cell h.c0, fun g => g.cell h.c1, fun g => g.cell h.c2, fun g => g.cell h.c3, fun g => g.cell h.c4, fun g => g.cell h.c5, fun g => g.cell h.c6, fun g => g.cell h.c7⟩
/-- Where a list lies. -/
structure Hd where
  o : Option Addr
  n : Nat
  c : Nat
abbrev nilH : Hd := ⟨none, 0, 0⟩
/-- A list of waiters that lies somewhere. -/
structure HasQ (w : World) (y : Hd) (l : List Wt) : Prop where
  len : y.n = l.length
  nil : y.o = none → y.c = 0
  cap : y.n ≤ y.c
  row : Row w y.o (wts l)
theorem HasQ.below {w w' : World} {y : Hd} {l : List Wt} (h : HasQ w y l) (hb : Below w.heap.size w w') : HasQ w' y l := ⟨h.len, h.nil, h.cap, h.row.below hb⟩
theorem HasQ.kept {S : Nat → Prop} {w w' : World} {y : Hd} {l : List Wt} (h : HasQ w y l) (k : Kept S w w') (hs : Off S y.o (wts l)) : HasQ w' y l := ⟨h.len, h.nil, h.cap, h.row.kept k hs⟩
theorem HasQ.at {w : World} {y : Hd} {l : List Wt} (h : HasQ w y l) (j : Nat) (hj : j < y.n) : ∃ a, y.o = some a ∧ AtW w (a.add (j * 8)) (l.getD j z0) := atW_of h.row j (by have := h.len; omega)
theorem hasQ_nil (w : World) : HasQ w nilH [] := ⟨rfl, fun _ => rfl, Nat.le_refl _, row_nil _ _⟩
/-- A list that a call has made: a row of its own from B on. -/
def MineQ (w : World) (B : Nat) (y : Hd) (l : List Wt) : Prop := y.n = l.length ∧ w.ownsRow B 30 8 (.slice y.o y.n y.c) y.n (wts l)
theorem MineQ.has {w : World} {B : Nat} {y : Hd} {l : List Wt} (h : MineQ w B y l) : HasQ w y l := ⟨h.1, (own_row h.2).2.2.1, (own_row h.2).2.1, (own_row h.2).1⟩
theorem MineQ.below {w w' : World} {B : Nat} {y : Hd} {l : List Wt} (h : MineQ w B y l) (hb : Below w.heap.size w w') : MineQ w' B y l := ⟨h.1, own_below h.2 hb⟩
theorem mineQ_nil (w : World) (B : Nat) : MineQ w B nilH [] := ⟨rfl, World.ownsRow_nil _ _ _ _⟩
theorem MineQ.append {w w1 : World} {B m c : Nat} {y : Hd} {ao : Option Addr} {l k : List Wt} (h : MineQ w B y l) (hB : B ≤ w.heap.size) (hk : m = k.length)
    (h1 : w1.ownsRow B 30 8 (.slice ao (y.n + m) c) (y.n + m) (wts l ++ wts k)) (hg : w.grownBy w1 (Value.ownBlock (.slice y.o y.n y.c))) : MineQ w1 B ⟨ao, y.n + m, c⟩ (l ++ k) ∧ Below B w w1 := by
  refine ⟨⟨by simp only [List.length_append]; rw [h.1, hk], ?_⟩, (Below.refl B w).grown hg hB (fun k e => (World.ownsRow.lt h.2 k e).1)⟩
  rw [wts_app]
  exact h1
/-- It lies in no block that there was. -/
def NewQ (w : World) (y : Hd) (l : List Wt) : Prop := Off (fun i => i < w.heap.size) y.o (wts l)
theorem MineQ.new {w w' : World} {y : Hd} {l : List Wt} (h : MineQ w' w.heap.size y l) : NewQ w y l := fun _ a e s => by
  have := ((own_row h.2).2.2.2 a e).1
  omega
theorem MineQ.base {w : World} {B B' : Nat} {y : Hd} {l : List Wt} (h : MineQ w B y l) (hb : B' ≤ B) : MineQ w B' y l := ⟨h.1, own_base h.2 (fun k e => Nat.le_trans hb (World.ownsRow.lt h.2 k e).1)⟩
theorem NewQ.mono {w w' : World} {y : Hd} {l : List Wt} (h : NewQ w' y l) (b : Below w.heap.size w w') : NewQ w y l := fun h0 a e s => h h0 a e (Nat.lt_of_lt_of_le s b.size)
theorem one_wt (w : World) (x : Wt) (t : TypeId) : Row (w.alloc (.cells #[.int .i64 x.c, .int .i64 x.v, .int .i64 x.b, .bool x.h, .int .i64 x.o, .int .i64 x.s, .int .i64 x.g, .bool x.t] t)) (some ⟨w.heap.size, 0, none⟩) (wts [x]) := by
  refine ⟨fun j u hu => ⟨_, rfl, ?_⟩⟩
  match j, hu with
  | 0, hu => simp [wts, wC] at hu; subst hu; simp [Addr.add]
  | 1, hu => simp [wts, wC] at hu; subst hu; simp [Addr.add]
  | 2, hu => simp [wts, wC] at hu; subst hu; simp [Addr.add]
  | 3, hu => simp [wts, wC] at hu; subst hu; simp [Addr.add]
  | 4, hu => simp [wts, wC] at hu; subst hu; simp [Addr.add]
  | 5, hu => simp [wts, wC] at hu; subst hu; simp [Addr.add]
  | 6, hu => simp [wts, wC] at hu; subst hu; simp [Addr.add]
  | 7, hu => simp [wts, wC] at hu; subst hu; simp [Addr.add]
theorem infoW : (Try.prog.info? 30).map (fun i => (i.zero, i.size, i.bytes)) = some (some (.agg #[.int .i64 0, .int .i64 0, .int .i64 0, .bool false, .int .i64 0, .int .i64 0, .int .i64 0, .bool false]), 8, 64) := by kernel_rfl

/-! ### '==' -/
theorem eqw2 (a b : Wt) (w : World) : (Op.equalIn 10000 30 (.agg #[.int .i64 a.c, .int .i64 a.v, .int .i64 a.b, .bool a.h, .int .i64 a.o, .int .i64 a.s, .int .i64 a.g, .bool a.t]) (.agg #[.int .i64 b.c, .int .i64 b.v, .int .i64 b.b, .bool b.h, .int .i64 b.o, .int .i64 b.s, .int .i64 b.g, .bool b.t])).run Try.prog w = .ok (eqW a b) w := by
  have u2 := Try.underlying2
  have a2 := Try.isAgg2
  have z2 := Try.sizeOf2
  have u3 := Try.underlying3
  have a3 := Try.isAgg3
  have z3 := Try.sizeOf3
  have u4 := Try.underlying4
  have a4 := Try.isAgg4
  have z4 := Try.sizeOf4
  have a5 := Try.isAgg28
  have z5 := Try.sizeOf28
  have hS : Try.prog.underlying 30 = some (.struct (Try.prog.fieldsOf 30)) := by kernel_rfl
  rw [show (10000 : Nat) = 9999 + 1 from rfl, run_equalIn_agg w 9999 30 _ _ hS (by kernel_rfl)]
  simp only [Program.fieldsOf, Try.underlying30]
  go_simp
  cases a
  cases b
  simp only [eqW]
  clear hS
  repeat' split
  all_goals simp_all
theorem eqw_yes {a b : Wt} (h : a = b) (w : World) : (Op.equalIn 10000 30 (.agg #[.int .i64 a.c, .int .i64 a.v, .int .i64 a.b, .bool a.h, .int .i64 a.o, .int .i64 a.s, .int .i64 a.g, .bool a.t]) (.agg #[.int .i64 b.c, .int .i64 b.v, .int .i64 b.b, .bool b.h, .int .i64 b.o, .int .i64 b.s, .int .i64 b.g, .bool b.t])).run Try.prog w = .ok true w := by rw [eqw2, eqW_iff.2 h]
theorem eqw_no {a b : Wt} (h : ¬ a = b) (w : World) : (Op.equalIn 10000 30 (.agg #[.int .i64 a.c, .int .i64 a.v, .int .i64 a.b, .bool a.h, .int .i64 a.o, .int .i64 a.s, .int .i64 a.g, .bool a.t]) (.agg #[.int .i64 b.c, .int .i64 b.v, .int .i64 b.b, .bool b.h, .int .i64 b.o, .int .i64 b.s, .int .i64 b.g, .bool b.t])).run Try.prog w = .ok false w := by rw [eqw2, eqW_not.2 h]

/-! ### A port's box -/
structure Pb (w : World) (b : Nat) (p : Pt) (y : Hd) : Prop where
  h : w.heap[b]? = some (.cells #[.int .i64 p.k, .int .i64 p.w, .slice y.o y.n y.c] 25)
theorem Pb.c0 {w : World} {b : Nat} {p : Pt} {y : Hd} (g : Pb w b p y) : w.cell? ⟨b, 0, none⟩ = some (.int .i64 p.k) := by simp [World.cell?, g.h]
theorem Pb.c1 {w : World} {b : Nat} {p : Pt} {y : Hd} (g : Pb w b p y) : w.cell? ⟨b, 1, none⟩ = some (.int .i64 p.w) := by simp [World.cell?, g.h]
theorem Pb.c2 {w : World} {b : Nat} {p : Pt} {y : Hd} (g : Pb w b p y) : w.cell? ⟨b, 2, none⟩ = some (.slice y.o y.n y.c) := by simp [World.cell?, g.h]
theorem Pb.fz {w : World} {b : Nat} {p : Pt} {y : Hd} (g : Pb w b p y) (j : Nat) : w.frozen? ⟨b, j, none⟩ = false := by simp [World.frozen?, g.h]
theorem Pb.lt {w : World} {b : Nat} {p : Pt} {y : Hd} (g : Pb w b p y) : b < w.heap.size := World.block_lt_of_cell? w _ g.c0
theorem Pb.below {w w' : World} {b : Nat} {p : Pt} {y : Hd} (g : Pb w b p y) (q : Below w.heap.size w w') : Pb w' b p y := ⟨(q.block b g.lt).trans g.h⟩
theorem Pb.kept {S : Nat → Prop} {w w' : World} {b : Nat} {p : Pt} {y : Hd} (g : Pb w b p y) (k : Kept S w w') (hn : ¬ S b) : Pb w' b p y := ⟨(k.block b g.lt hn).trans g.h⟩
theorem pb_new (w : World) (p : Pt) (y : Hd) : Pb (w.alloc (.cells #[.int .i64 p.k, .int .i64 p.w, .slice y.o y.n y.c] 25)) w.heap.size p y := ⟨heap_alloc_new w _⟩
theorem Pb.always {w : World} {b : Nat} {p : Pt} {y : Hd} (h : Pb w b p y) : (∀ g : Later w, g.now.cell? ⟨b, 0, none⟩ = some (.int .i64 p.k)) ∧ (∀ g : Later w, g.now.cell? ⟨b, 1, none⟩ = some (.int .i64 p.w)) ∧ (∀ g : Later w, g.now.cell? ⟨b, 2, none⟩ = some (.slice y.o y.n y.c)) :=
  ⟨fun g => g.cell h.c0, fun g => g.cell h.c1, fun g => g.cell h.c2⟩
abbrev put3 (w : World) (b : Nat) (p : Pt) (y : Hd) : World := ((w.setCell ⟨b, 0, none⟩ (.int .i64 p.k)).setCell ⟨b, 1, none⟩ (.int .i64 p.w)).setCell ⟨b, 2, none⟩ (.slice y.o y.n y.c)
theorem Pb.put {w : World} {b : Nat} {p p' : Pt} {y y' : Hd} (g : Pb w b p y) : Pb (put3 w b p' y') b p' y' := ⟨by simp [put3, World.setCell, Array.getElem?_modify, g.h]⟩
theorem Pb.setK {w : World} {b : Nat} {p : Pt} {y : Hd} (g : Pb w b p y) (k : Int) : Pb (w.setCell ⟨b, 0, none⟩ (.int .i64 k)) b ⟨k, p.w, p.l⟩ y := ⟨by simp [World.setCell, Array.getElem?_modify, g.h]⟩
theorem Pb.setW {w : World} {b : Nat} {p : Pt} {y : Hd} (g : Pb w b p y) (k : Int) : Pb (w.setCell ⟨b, 1, none⟩ (.int .i64 k)) b ⟨p.k, k, p.l⟩ y := ⟨by simp [World.setCell, Array.getElem?_modify, g.h]⟩
theorem Pb.setQ {w : World} {b : Nat} {p : Pt} {y : Hd} (g : Pb w b p y) (l : List Wt) (z : Hd) : Pb (w.setCell ⟨b, 2, none⟩ (.slice z.o z.n z.c)) b ⟨p.k, p.w, l⟩ z := ⟨by simp [World.setCell, Array.getElem?_modify, g.h]⟩
theorem kept_put3 (w : World) (b : Nat) (p : Pt) (y : Hd) : Kept (fun i => i = b) w (put3 w b p y) :=
  ((kept_set (fun i => i = b) w ⟨b, 0, none⟩ _ rfl).setCell ⟨b, 1, none⟩ _ (fun _ => rfl)).setCell ⟨b, 2, none⟩ _ (fun _ => rfl)
theorem put3_low {a w : World} {b : Nat} {p : Pt} {y : Hd} (h : Below a.heap.size a w) (hb : a.heap.size ≤ b) : Below a.heap.size a (put3 w b p y) := q_set (q_set (q_set h hb _) hb _) hb _
/-- No waiter lies in a port's box. -/
theorem Pb.off {w : World} {b : Nat} {p : Pt} {y : Hd} {ao : Option Addr} {l : List Wt} (g : Pb w b p y) (r : Row w ao (wts l)) : Off (fun i => i = b) ao (wts l) := fun h0 a e s => by
  have hl : 0 < l.length := by rw [len_wts] at h0; omega
  obtain ⟨a', e', ha⟩ := atW_of r 0 hl
  rw [e] at e'
  cases e'
  have s : a.block = b := s
  have hc := ha.c0
  have hd := ha.c1
  have he := ha.c2
  rw [Nat.zero_mul, add_zero_addr] at hc hd he
  unfold World.cell? at hc hd he
  simp only [s, g.h] at hc hd he
  split at hc
  · cases hc
  · match a.off, hc, hd, he with
    | 0, _, _, he => simp at he
    | 1, _, hd, _ => simp at hd
    | 2, hc, _, _ => simp at hc
    | n + 3, hc, _, _ => simp at hc
/-- A port in a box. -/
structure Hp (w : World) (b : Nat) (p : Pt) (y : Hd) : Prop where
  pb : Pb w b p y
  has : HasQ w y p.l
theorem Hp.below {w w' : World} {b : Nat} {p : Pt} {y : Hd} (h : Hp w b p y) (q : Below w.heap.size w w') : Hp w' b p y := ⟨h.pb.below q, h.has.below q⟩
theorem hp_new {w : World} {p : Pt} {y : Hd} (h : HasQ w y p.l) : Hp (w.alloc (.cells #[.int .i64 p.k, .int .i64 p.w, .slice y.o y.n y.c] 25)) w.heap.size p y := ⟨pb_new w p y, h.below (alloc_below _ _)⟩
theorem HasQ.put {w : World} {b : Nat} {p p' : Pt} {y y' z : Hd} {l : List Wt} (g : Pb w b p y) (h : HasQ w z l) : HasQ (put3 w b p' y') z l := h.kept (kept_put3 w b p' y') (g.off h.row)
theorem hp_put {w : World} {b : Nat} {p p' : Pt} {y y' : Hd} (g : Pb w b p y) (h : HasQ w y' p'.l) : Hp (put3 w b p' y') b p' y' := ⟨g.put, h.put g⟩
theorem Hp.beside {w : World} {b c : Nat} {p q q' : Pt} {y z z' : Hd} (h : Hp w b p y) (g : Pb w c q z) (hne : b ≠ c) : Hp (put3 w c q' z') b p y := ⟨h.pb.kept (kept_put3 w c q' z') hne, h.has.put g⟩
/-! ### A waiter's box -/
structure Wb (w : World) (b : Nat) (x : Wt) : Prop where
  h : w.heap[b]? = some (.cells #[.int .i64 x.c, .int .i64 x.v, .int .i64 x.b, .bool x.h, .int .i64 x.o, .int .i64 x.s, .int .i64 x.g, .bool x.t] 30)
theorem Wb.at {w : World} {b : Nat} {x : Wt} (g : Wb w b x) : AtW w ⟨b, 0, none⟩ x := by constructor <;> simp [World.cell?, g.h]
theorem Wb.fz {w : World} {b : Nat} {x : Wt} (g : Wb w b x) (j : Nat) : w.frozen? ⟨b, j, none⟩ = false := by simp [World.frozen?, g.h]
theorem Wb.lt {w : World} {b : Nat} {x : Wt} (g : Wb w b x) : b < w.heap.size := World.block_lt_of_cell? w _ g.at.c0
theorem Wb.below {w w' : World} {b : Nat} {x : Wt} (g : Wb w b x) (q : Below w.heap.size w w') : Wb w' b x := ⟨(q.block b g.lt).trans g.h⟩
theorem Wb.kept {S : Nat → Prop} {w w' : World} {b : Nat} {x : Wt} (g : Wb w b x) (k : Kept S w w') (hn : ¬ S b) : Wb w' b x := ⟨(k.block b g.lt hn).trans g.h⟩
theorem wb_new (w : World) (x : Wt) : Wb (w.alloc (.cells #[.int .i64 x.c, .int .i64 x.v, .int .i64 x.b, .bool x.h, .int .i64 x.o, .int .i64 x.s, .int .i64 x.g, .bool x.t] 30)) w.heap.size x := ⟨heap_alloc_new w _⟩
abbrev put8 (w : World) (b : Nat) (x : Wt) : World := (((((((w.setCell ⟨b, 0, none⟩ (.int .i64 x.c)).setCell ⟨b, 1, none⟩ (.int .i64 x.v)).setCell ⟨b, 2, none⟩ (.int .i64 x.b)).setCell ⟨b, 3, none⟩ (.bool x.h)).setCell ⟨b, 4, none⟩ (.int .i64 x.o)).setCell ⟨b, 5, none⟩ (.int .i64 x.s)).setCell ⟨b, 6, none⟩ (.int .i64 x.g)).setCell ⟨b, 7, none⟩ (.bool x.t)
theorem Wb.put {w : World} {b : Nat} {x x' : Wt} (g : Wb w b x) : Wb (put8 w b x') b x' := ⟨by simp [put8, World.setCell, Array.getElem?_modify, g.h]⟩
theorem kept_put8 (w : World) (b : Nat) (x : Wt) : Kept (fun i => i = b) w (put8 w b x) :=
  (((((((kept_set (fun i => i = b) w ⟨b, 0, none⟩ _ rfl).setCell ⟨b, 1, none⟩ _ (fun _ => rfl)).setCell ⟨b, 2, none⟩ _ (fun _ => rfl)).setCell ⟨b, 3, none⟩ _ (fun _ => rfl)).setCell ⟨b, 4, none⟩ _ (fun _ => rfl)).setCell ⟨b, 5, none⟩ _ (fun _ => rfl)).setCell ⟨b, 6, none⟩ _ (fun _ => rfl)).setCell ⟨b, 7, none⟩ _ (fun _ => rfl)
theorem put8_low {a w : World} {b : Nat} {x : Wt} (h : Below a.heap.size a w) (hb : a.heap.size ≤ b) : Below a.heap.size a (put8 w b x) := q_set (q_set (q_set (q_set (q_set (q_set (q_set (q_set h hb _) hb _) hb _) hb _) hb _) hb _) hb _) hb _
theorem heap_alloc_new' (w : World) (o : Obj) : (w.alloc o).heap[w.heap.size]? = some o := heap_alloc_new w o

/-! ### Acts -/
structure AtZ (w : World) (a : Addr) (z : Ac) : Prop where
  k : w.cell? a = some (.int .i64 z.kind)
  c0 : w.cell? ⟨a.block, a.off + 1, none⟩ = some (.int .i64 z.x.c)
  c1 : w.cell? ⟨a.block, a.off + 2, none⟩ = some (.int .i64 z.x.v)
  c2 : w.cell? ⟨a.block, a.off + 3, none⟩ = some (.int .i64 z.x.b)
  c3 : w.cell? ⟨a.block, a.off + 4, none⟩ = some (.bool z.x.h)
  c4 : w.cell? ⟨a.block, a.off + 5, none⟩ = some (.int .i64 z.x.o)
  c5 : w.cell? ⟨a.block, a.off + 6, none⟩ = some (.int .i64 z.x.s)
  c6 : w.cell? ⟨a.block, a.off + 7, none⟩ = some (.int .i64 z.x.g)
  c7 : w.cell? ⟨a.block, a.off + 8, none⟩ = some (.bool z.x.t)
  n : w.cell? ⟨a.block, a.off + 9, none⟩ = some (.int .i64 z.n)
theorem AtZ.lt {w : World} {a : Addr} {z : Ac} (h : AtZ w a z) : a.block < w.heap.size := World.block_lt_of_cell? w _ h.k
theorem AtZ.kept {S : Nat → Prop} {w w' : World} {a : Addr} {z : Ac} (h : AtZ w a z) (k : Kept S w w') (hn : ¬ S a.block) : AtZ w' a z :=
  ⟨k.cell h.k hn, k.cell h.c0 hn, k.cell h.c1 hn, k.cell h.c2 hn, k.cell h.c3 hn, k.cell h.c4 hn, k.cell h.c5 hn, k.cell h.c6 hn, k.cell h.c7 hn, k.cell h.n hn⟩
theorem AtZ.below {w w' : World} {a : Addr} {z : Ac} (h : AtZ w a z) (hb : Below w.heap.size w w') : AtZ w' a z := h.kept (S := fun _ => False) (kept_below hb) id
theorem atZ_new (w : World) (z : Ac) (t : TypeId) : AtZ (w.alloc (.cells #[.int .i64 z.kind, .int .i64 z.x.c, .int .i64 z.x.v, .int .i64 z.x.b, .bool z.x.h, .int .i64 z.x.o, .int .i64 z.x.s, .int .i64 z.x.g, .bool z.x.t, .int .i64 z.n] t)) ⟨w.heap.size, 0, none⟩ z := by constructor <;> simp
def zC (z : Ac) : List Value := [.int .i64 z.kind, .int .i64 z.x.c, .int .i64 z.x.v, .int .i64 z.x.b, .bool z.x.h, .int .i64 z.x.o, .int .i64 z.x.s, .int .i64 z.x.g, .bool z.x.t, .int .i64 z.n]
abbrev a0 : Ac := ⟨0, z0, 0⟩
def zrs (l : List Ac) : List Value := l.flatMap zC
theorem len_zrs (l : List Ac) : (zrs l).length = l.length * 10 := by
  induction l with
  | nil => rfl
  | cons o r ih => simp only [zrs, List.flatMap_cons, List.length_append, List.length_cons] at ih ⊢; rw [ih]; simp [zC]; omega
theorem zrs_at (l : List Ac) (j i : Nat) (hi : i < 10) (h : j < l.length) : (zrs l)[j * 10 + i]? = (zC (l.getD j a0))[i]? := by
  induction l generalizing j with
  | nil => simp at h
  | cons o r ih =>
    cases j with
    | zero => simp only [zrs, List.flatMap_cons]; rw [List.getElem?_append_left (by simp [zC]; omega)]; simp
    | succ j =>
      have := ih j (by simpa using h)
      simp only [zrs, List.flatMap_cons] at this ⊢
      rw [List.getElem?_append_right (by simp [zC]; omega)]
      rw [show (j + 1) * 10 + i - (zC o).length = j * 10 + i by simp [zC]; omega, this]
      simp
/-- A list of acts that lies somewhere. -/
structure HasZ (w : World) (y : Hd) (l : List Ac) : Prop where
  len : y.n = l.length
  nil : y.o = none → y.c = 0
  row : Row w y.o (zrs l)
theorem HasZ.below {w w' : World} {y : Hd} {l : List Ac} (h : HasZ w y l) (hb : Below w.heap.size w w') : HasZ w' y l := ⟨h.len, h.nil, h.row.below hb⟩
theorem HasZ.at {w : World} {y : Hd} {l : List Ac} (h : HasZ w y l) (k : Nat) (hk : k < y.n) : ∃ a, y.o = some a ∧ AtZ w (a.add (k * 10)) (l.getD k a0) := by
  have hl := h.len
  have g := fun (i : Nat) (hi : i < 10) (u : Value) (hu : (zC (l.getD k a0))[i]? = some u) => h.row.cell (k * 10 + i) u ((zrs_at l k i hi (by omega)).trans hu)
  obtain ⟨a, ea, h0⟩ := g 0 (by omega) _ rfl
  refine ⟨a, ea, h0, ?_, ?_, ?_, ?_, ?_, ?_, ?_, ?_, ?_⟩
  all_goals rw [add_off _ _ (by decide), add_add]
  · obtain ⟨_, e, h⟩ := g 1 (by omega) _ rfl
    cases ea.symm.trans e
    exact h
  · obtain ⟨_, e, h⟩ := g 2 (by omega) _ rfl
    cases ea.symm.trans e
    exact h
  · obtain ⟨_, e, h⟩ := g 3 (by omega) _ rfl
    cases ea.symm.trans e
    exact h
  · obtain ⟨_, e, h⟩ := g 4 (by omega) _ rfl
    cases ea.symm.trans e
    exact h
  · obtain ⟨_, e, h⟩ := g 5 (by omega) _ rfl
    cases ea.symm.trans e
    exact h
  · obtain ⟨_, e, h⟩ := g 6 (by omega) _ rfl
    cases ea.symm.trans e
    exact h
  · obtain ⟨_, e, h⟩ := g 7 (by omega) _ rfl
    cases ea.symm.trans e
    exact h
  · obtain ⟨_, e, h⟩ := g 8 (by omega) _ rfl
    cases ea.symm.trans e
    exact h
  · obtain ⟨_, e, h⟩ := g 9 (by omega) _ rfl
    cases ea.symm.trans e
    exact h
end Go.Proofs.Ytpcdjpcdmnjdfab.Po
