/- append at a step of a region that draws its order; the boxes behind it. -/
import Derived.Test.YtmnkbkhfonngeaaHiW8
namespace Go.Proofs.Ytmnkbkhfonngeaa.Hi
open Go.RowKit

/-- append OF A ROW, at a step of a region. -/
theorem step_row (w : World) {ops : Array Oper} {o : Oper} {a : Act} {C : Act → World → Prop} {Q : Exit → Act → World → Prop} {F : Prop} (hgd : o.guard = none) (s x : Operand) (T E : TypeId) (z : Value) (size bytes : Nat)
    (ho : o.op = .call { callee := .builtin .append, args := #[s, x], argTypes := #[T, T] }) (ht : Try.prog.underlying T = some (.slice E))
    (hi0 : (Try.prog.info? E).map (fun i => (i.zero, i.size, i.bytes)) = some (some z, size, bytes)) (hzs : z.cells.size = size) (hsz : 0 < size) (hby : bytes ≤ 1000)
    (base : Nat) (v : Value) (n : Nat) (xs : List Value) (hs : a.eval s = v) (hown : w.ownsRow base E size v n xs)
    (ao : Option Addr) (m c : Nat) (ys : List Value) (hx : a.eval x = .slice ao m c) (hm : ys.length = m * size) (hc : ao = none → c = 0) (hy : Row w ao ys) (h1 : ∀ u ∈ ys, u.oneCell' = true)
    (N : Nat) (hN : n + m = N) (Z : List Value) (hZ : xs ++ ys = Z) (h63 : N ≤ 2000000) (hbase : base ≤ w.heap.size)
    (h : ∀ ao' cap' w', w'.ownsRow base E size (.slice ao' N cap') N Z → w.grownBy w' v.ownBlock → C (a.put o.dst (.slice ao' N cap')) w') :
    if Region.wanted o (yielded ops a.tmps) = true then Oper.wp Try.prog o a w C Q else F := by
  have hw : Region.wanted o (yielded ops a.tmps) = true := by simp [Region.wanted, hgd]
  rw [if_pos hw]
  subst hN hZ
  obtain ⟨i0, hi, hz0, hz1, hz2⟩ := info_of hi0
  have sl : ∀ {w' : World} {v' : Value} {k : Nat} {cs : List Value}, w'.ownsRow base E size v' k cs → ∃ ao' cap', v' = .slice ao' k cap' := by
    intro w' v' k cs h
    rcases h.2 with ⟨rfl, rfl⟩ | ⟨g, cap, cur, rfl, _⟩
    · exact ⟨_, _, rfl⟩
    · exact ⟨_, _, rfl⟩
  cases ao with
  | none =>
    have hys : ys = [] := row_none hy
    subst hys
    have hm0 : m = 0 := by
      cases m with
      | zero => rfl
      | succ m =>
        have := Nat.le_mul_of_pos_left size (Nat.succ_pos m)
        rw [List.length_nil] at hm
        rw [Nat.succ_eq_add_one, ← hm] at this
        omega
    subst hm0
    rw [hc rfl] at hx
    obtain ⟨ao', cap', rfl⟩ := sl hown
    have hrun := run_append_owned_none (P := Try.prog) (w := w) base T o.type E i0 size ht hi _ n xs hown
    unfold Oper.wp
    simp [execOp, ho, resolve, invoke, builtin, hs, hx, hrun, Result.andThen]
    exact h ao' cap' w (by simpa using hown) (World.grownBy.refl _ _)
  | some ad =>
    refine wp_append_own w s x T ho base E i0 z size bytes ht hi hz0 hz1 hz2 hzs hsz v n xs hs hown ad m c ys hx hm ?_ h1 (by unfold maxLen; omega) (Nat.le_trans (Nat.mul_le_mul h63 hby) (by decide)) hbase ?_
    · intro j u hu
      obtain ⟨a', e, hcell⟩ := hy.cell j u hu
      cases e
      exact hcell
    · intro v' w' h1 h2 _
      obtain ⟨ao', cap', rfl⟩ := sl h1
      exact h ao' cap' w' h1 h2
theorem app_below2 {w w1 : World} {o : Obj} {E : TypeId} {n c : Nat} (h : ((w.alloc o).alloc (.cells #[] E)).grownBy w1 (Value.ownBlock (.slice (some ⟨w.heap.size + 1, 0, none⟩) n c))) : Below w.heap.size w w1 :=
  (((Below.refl _ w).alloc (Nat.le_refl _) _).alloc (by simp) _).grown h (by simp; omega) (fun k e => by cases e; exact Nat.le_succ _)
theorem app_below3 {w w1 : World} {o : Obj} {E : TypeId} {n c : Nat} (h : ((w.alloc (.cells #[] E)).alloc o).grownBy w1 (Value.ownBlock (.slice (some ⟨w.heap.size, 0, none⟩) n c))) : Below w.heap.size w w1 :=
  (((Below.refl _ w).alloc (Nat.le_refl _) _).alloc (by simp) _).grown h (by simp; omega) (fun k e => by cases e; exact Nat.le_refl _)
theorem own_grown {w w1 : World} {B n sz : Nat} {E : TypeId} {v : Value} {cs : List Value} (h : w.ownsRow B E sz v n cs) (g : w.grownBy w1 v.ownBlock) (hB : B ≤ w.heap.size) : Below B w w1 := (Below.refl B w).grown g hB (fun k e => (World.ownsRow.lt h k e).1)
theorem row_off {X w5 : World} {b c n m : Nat} {cs : List Value} (h : Row X (some ⟨b, 0, none⟩) cs) (g : X.grownBy w5 (Value.ownBlock (.slice (some ⟨c, 0, none⟩) n m))) (hne : b ≠ c) : Row w5 (some ⟨b, 0, none⟩) cs :=
  h.kept (kept_grown g) (fun _ a e s => by
    cases e
    cases s
    exact hne rfl)
theorem own1L (o : Obj) (E : TypeId) (size : Nat) (w : World) : ((w.alloc o).alloc (.cells #[] E)).ownsRow w.heap.size E size (.slice (some ⟨w.heap.size + 1, 0, none⟩) 0 0) 0 [] := by
  have := World.ownsRow_made (base := w.heap.size) (e := E) (size := size) (w.alloc o) #[] 0 (by simp) (by decide) (by simp)
  simpa using this
theorem sp_at1 (x : Sp) (E : TypeId) (w : World) : Row ((w.alloc (.cells #[] E)).alloc (.cells #[.int .i64 x.co, .int .i64 x.c.k, .int .u64 x.c.a, .int .u64 x.c.b, .int .i64 x.c.r, .int .i64 x.c.g, .int .i64 x.c.t, .int .i64 x.c.s, .int .i64 x.c.v, .int .i64 x.st, .int .i64 x.en, .int .i64 x.r.e, .int .i64 x.r.v, .int .i64 x.r.b, .bool x.r.t] 50)) (some ⟨w.heap.size + 1, 0, none⟩) (List.flatMap spC [x]) := by
  have := one_sp (w.alloc (.cells #[] E)) x 50
  rwa [show (w.alloc (.cells #[] E)).heap.size = w.heap.size + 1 by simp] at this
theorem ev_at1 (x : Ev × Hd) (E : TypeId) (w : World) : Row ((w.alloc (.cells #[] E)).alloc (.cells #[.int .i64 x.1.k, .int .i64 x.1.co, .int .i64 x.1.c.k, .int .u64 x.1.c.a, .int .u64 x.1.c.b, .int .i64 x.1.c.r, .int .i64 x.1.c.g, .int .i64 x.1.c.t, .int .i64 x.1.c.s, .int .i64 x.1.c.v, .int .i64 x.1.sp, .slice x.2.o x.2.n x.2.c] 34)) (some ⟨w.heap.size + 1, 0, none⟩) (List.flatMap evC [x]) := by
  have := one_ev (w.alloc (.cells #[] E)) x 34
  rwa [show (w.alloc (.cells #[] E)).heap.size = w.heap.size + 1 by simp] at this
/-- What is answered lies in the first box. -/
structure Rz (w W : World) (z : Hh) (h : Hs) : Prop where
  a : Hb W w.heap.size z
  r : Hb W (w.heap.size + 2) nilX
  has : HasH W z h
  low : Below w.heap.size w W
theorem Rz.fin {w W : World} {z : Hh} {h : Hs} (g : Rz w W z h) : HasH (put2 W (w.heap.size + 2) z) z h ∧ Below w.heap.size w (put2 W (w.heap.size + 2) z) := ⟨g.has.put g.r, put2_low g.low (Nat.le_add_right _ 2)⟩
theorem Rz.below {w W W' : World} {z : Hh} {h : Hs} (g : Rz w W z h) (q : Below W.heap.size W W') : Rz w W' z h := ⟨g.a.below q, g.r.below q, g.has.below q, q_trans g.low q⟩
theorem Bw.rz {w W : World} {x : Hh} {h : Hs} {mid : Obj} (g : Bw w W x mid) (k : HasH w x h) : Rz w W x h := ⟨g.a, g.r, k.below g.low, g.low⟩
theorem md_S {w W w6 : World} {x : Hh} {h : Hs} {mid : Obj} {l : List Sp} {ao : Option Addr} {n c B : Nat} (g : Bw w W x mid) (k : HasH w x h) (b : Below W.heap.size W w6) (hB : w.heap.size < B) (o : w6.ownsRow B 50 15 (.slice ao n c) n (l.flatMap spC)) (hn : n = l.length) : Rz w (w6.setCell ⟨w.heap.size, 0, none⟩ (.slice ao n c)) ⟨⟨ao, n, c⟩, x.e⟩ ⟨l, h.e⟩ := by
  have g6 := g.below b
  have hk : Kept (fun i => i = w.heap.size) w6 (w6.setCell ⟨w.heap.size, 0, none⟩ (.slice ao n c)) := kept_set _ _ _ _ rfl
  have hm : MineS w6 B ⟨ao, n, c⟩ l := ⟨hn, o⟩
  have h9 := g.r.lt
  exact ⟨g6.a.setS ⟨ao, n, c⟩, g6.r.kept hk (by omega), ⟨(hm.kept hk (fun i hi e => by omega)).has, ((k.below g6.low).keptH g6.a hk).e⟩, q_set g6.low (Nat.le_refl _) _⟩
theorem md_E {w W w6 : World} {x : Hh} {h : Hs} {mid : Obj} {xs : List (Ev × Hd)} {l : List Ev} {ao : Option Addr} {n c B : Nat} (g : Bw w W x mid) (k : HasH w x h) (b : Below W.heap.size W w6) (hB : w.heap.size < B) (o : w6.ownsRow B 34 12 (.slice ao n c) n (xs.flatMap evC)) (hn : n = xs.length) (hl : xs.map (·.1) = l) (hd : ∀ y ∈ xs, HasD w y.2 y.1.l) : Rz w (w6.setCell ⟨w.heap.size, 1, none⟩ (.slice ao n c)) ⟨x.s, ⟨ao, n, c⟩⟩ ⟨h.s, l⟩ := by
  have g6 := g.below b
  have hk : Kept (fun i => i = w.heap.size) w6 (w6.setCell ⟨w.heap.size, 1, none⟩ (.slice ao n c)) := kept_set _ _ _ _ rfl
  have hm : MineX w6 B ⟨ao, n, c⟩ xs := ⟨hn, o⟩
  have h9 := g.r.lt
  exact ⟨g6.a.setE ⟨ao, n, c⟩, g6.r.kept hk (by omega), ⟨((k.below g6.low).keptH g6.a hk).s, xs, hl, (hm.kept hk (fun i hi e => by omega)).has, fun y hy => ((hd y hy).below g6.low).kept hk (g6.a.off dnC_int ((hd y hy).below g6.low).row)⟩, q_set g6.low (Nat.le_refl _) _⟩
end Go.Proofs.Ytmnkbkhfonngeaa.Hi
