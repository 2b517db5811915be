/- The lists that EpochSafe keeps beside the epochs: who is pinned, whose each is that waits, and for whom it waits. -/
import Derived.Test.YtejghoncihdfkaaEpOff
import Derived.Test.YtejghoncihdfkaaEpW4
import Derived.Test.YtejghoncihdfkaaEpW9
namespace Go.Proofs.Ytejghoncihdfkaa.Ep
open Go.RowKit

/-! ### Bools as cells -/
abbrev bvals (l : List Bool) : List Value := l.map Value.bool
theorem len_bvals (l : List Bool) : (bvals l).length = l.length := by simp
theorem bvals_at (l : List Bool) (j : Nat) (h : j < l.length) : (bvals l)[j]? = some (.bool (l.getD j false)) := by simp [bvals, List.getD, h]
theorem bvals_one (l : List Bool) : ∀ u ∈ bvals l, u.oneCell' = true := by
  intro u hu
  simp only [bvals, List.mem_map] at hu
  obtain ⟨x, _, rfl⟩ := hu
  rfl
theorem bvals_set (l : List Bool) (j : Nat) (t : Bool) : (bvals l).set j (.bool t) = bvals (l.set j t) := by simp [bvals, List.map_set]
theorem infoB : (Try.prog.info? 4).map (fun i => (i.zero, i.size, i.bytes)) = some (some (.bool false), 1, 1) := by kernel_rfl
theorem infoBs : (Try.prog.info? 45).map (fun i => (i.zero, i.size, i.bytes)) = some (some (.slice none 0 0), 1, 24) := by kernel_rfl
theorem tb1 : (3 : TypeId) ≠ 4 := by decide
theorem tb2 : (45 : TypeId) ≠ 4 := by decide
theorem tb3 : (3 : TypeId) ≠ 45 := by decide
theorem make_B (m : Nat) (hm : m ≤ 1000) : ∃ CB : Array Value, CB.toList = bvals (List.replicate m false) ∧ ∀ w : World, (Instr.makeSlice 45 (.int .i64 m) (.int .i64 m)).run Try.prog w = .ok (.slice (some ⟨w.heap.size, 0, none⟩) m m) (w.alloc (.cells CB 4)) := by
  obtain ⟨i0, hi, hz0, hz1, hz2⟩ := info_of infoB
  refine ⟨madeCells #[Value.bool false] m, by rw [made_one]; simp [bvals], fun w => ?_⟩
  have h := run_make (P := Try.prog) w 45 4 i0 _ Try.underlying45 hi hz0 .i64 .i64 m m (by omega) (by omega) (by rw [hz2]; omega) (by omega)
  rw [hz1] at h
  simpa [Value.cells] using h
/-! ### The rows -/
/-- Who is pinned (in the block PB), whose each is, for whom each waits: rows of one's own, in blocks of Pv. -/
structure Sr (B0 : Nat) (wr : World) (PB N : Nat) (pd : List Bool) (co : Option Addr) (cn cc : Nat) (cs : List Int) (so : Option Addr) (sn sc : Nat) (sl : List (List Bool)) (hs : List Hd) (Pv : Nat → Prop) : Prop where
  pin : wr.ownsRow B0 4 1 (.slice (some ⟨PB, 0, none⟩) N N) N (bvals pd)
  core : wr.ownsRow B0 3 1 (.slice co cn cc) cn (vals cs)
  sees : wr.ownsRow B0 45 1 (.slice so sn sc) sn (hds hs)
  hl : hs.length = sl.length
  each : ∀ k, k < sl.length → wr.ownsRow B0 4 1 (.slice (hs.getD k Hd.zero).o (hs.getD k Hd.zero).n (hs.getD k Hd.zero).c) (hs.getD k Hd.zero).n (bvals (sl.getD k []))
  eP : ∀ k, k < sl.length → ∀ q, (hs.getD k Hd.zero).v.ownBlock = some q → q ≠ PB
  sep : ∀ i j, i < j → j < sl.length → ∀ q, (hs.getD i Hd.zero).v.ownBlock = some q → (hs.getD j Hd.zero).v.ownBlock ≠ some q
  aP : Pv PB
  aC : ∀ q, (Value.slice co cn cc).ownBlock = some q → Pv q
  aS : ∀ q, (Value.slice so sn sc).ownBlock = some q → Pv q
  aE : ∀ k, k < sl.length → ∀ q, (hs.getD k Hd.zero).v.ownBlock = some q → Pv q
section
variable {B0 : Nat} {wr wm w3 : World} {PB N : Nat} {pd : List Bool} {co : Option Addr} {cn cc : Nat} {cs : List Int} {so : Option Addr} {sn sc : Nat} {sl : List (List Bool)} {hs : List Hd} {Pv Pv' : Nat → Prop}
theorem Sr.kept {S : Nat → Prop} (h : Sr B0 wr PB N pd co cn cc cs so sn sc sl hs Pv) (q : Kept S wr wm) (hS : ∀ i, S i → ¬ Pv i) : Sr B0 wm PB N pd co cn cc cs so sn sc sl hs Pv :=
  ⟨own_kept h.pin q (fun i e s => hS i s (by have e2 := Option.some.inj e; rw [← e2]; exact h.aP)), own_kept h.core q (fun i e s => hS i s (h.aC i e)), own_kept h.sees q (fun i e s => hS i s (h.aS i e)), h.hl, fun k hk => own_kept (h.each k hk) q (fun i e s => hS i s (h.aE k hk i e)), h.eP, h.sep, h.aP, h.aC, h.aS, h.aE⟩
theorem Sr.below (h : Sr B0 wr PB N pd co cn cc cs so sn sc sl hs Pv) (b : Below wr.heap.size wr wm) : Sr B0 wm PB N pd co cn cc cs so sn sc sl hs Pv := h.kept (S := fun _ => False) (kept_below b) (fun _ s => s.elim)
theorem Sr.weak (h : Sr B0 wr PB N pd co cn cc cs so sn sc sl hs Pv) (hP : ∀ i, Pv i → i < wr.heap.size → Pv' i) : Sr B0 wr PB N pd co cn cc cs so sn sc sl hs Pv' :=
  ⟨h.pin, h.core, h.sees, h.hl, h.each, h.eP, h.sep, hP _ h.aP (h.pin.lt PB rfl).2, fun q e => hP q (h.aC q e) (h.core.lt q e).2, fun q e => hP q (h.aS q e) (h.sees.lt q e).2, fun k hk q e => hP q (h.aE k hk q e) ((h.each k hk).lt q e).2⟩
theorem Sr.cn_ (h : Sr B0 wr PB N pd co cn cc cs so sn sc sl hs Pv) : cn = cs.length := by have := h.core.1; rw [len_vals] at this; omega
theorem Sr.sn_ (h : Sr B0 wr PB N pd co cn cc cs so sn sc sl hs Pv) : sn = sl.length := by have := h.sees.1; rw [len_hds, h.hl] at this; omega
theorem Sr.pin_cell (h : Sr B0 wr PB N pd co cn cc cs so sn sc sl hs Pv) {k : Nat} (hk : k < pd.length) : wr.cell? ⟨PB, k, none⟩ = some (.bool (pd.getD k false)) ∧ wr.frozen? ⟨PB, k, none⟩ = false := by
  obtain ⟨a, e, hc⟩ := (own_row h.pin).1.cell k _ (bvals_at pd k hk)
  cases e
  rw [add0] at hc
  exact ⟨hc, own_frozen h.pin⟩
/-- One is pinned, or unpinned. -/
theorem Sr.setpin (h : Sr B0 wr PB N pd co cn cc cs so sn sc sl hs Pv) (k : Nat) (t : Bool) : Sr B0 (wr.setCell ⟨PB, k, none⟩ (.bool t)) PB N (pd.set k t) co cn cc cs so sn sc sl hs Pv := by
  have q : Kept (fun i => i = PB) wr (wr.setCell ⟨PB, k, none⟩ (.bool t)) := kept_set _ wr _ _ rfl
  refine ⟨?_, own_kept h.core q (fun i e s => by subst s; exact own_apart h.core h.pin tb1 e rfl), own_kept h.sees q (fun i e s => by subst s; exact own_apart h.sees h.pin tb2 e rfl), h.hl, fun j hj => own_kept (h.each j hj) q (fun i e s => h.eP j hj i e s), h.eP, h.sep, h.aP, h.aC, h.aS, h.aE⟩
  rw [← bvals_set]
  exact own_setS (j := k) _ h.pin
/-- One is waited for no more by the i-th. -/
theorem Sr.setsee (h : Sr B0 wr PB N pd co cn cc cs so sn sc sl hs Pv) {i g : Nat} (hi : i < sl.length) (hg : (hs.getD i Hd.zero).o = some ⟨g, 0, none⟩) (k : Nat) (t : Bool) : Sr B0 (wr.setCell ⟨g, k, none⟩ (.bool t)) PB N pd co cn cc cs so sn sc (sl.set i ((sl.getD i []).set k t)) hs Pv := by
  have hb : (hs.getD i Hd.zero).v.ownBlock = some g := by unfold Hd.v; rw [hg]; rfl
  have q : Kept (fun j => j = g) wr (wr.setCell ⟨g, k, none⟩ (.bool t)) := kept_set _ wr _ _ rfl
  have hl' : (sl.set i ((sl.getD i []).set k t)).length = sl.length := by simp
  refine ⟨own_kept h.pin q (fun j e s => by subst s; exact h.eP i hi j hb (Option.some.inj e).symm), own_kept h.core q (fun j e s => by subst s; exact own_apart h.core (h.each i hi) tb1 e hb), own_kept h.sees q (fun j e s => by subst s; exact own_apart h.sees (h.each i hi) tb2 e hb), by rw [hl']; exact h.hl, fun j hj => ?_, fun j hj => h.eP j (by rw [hl'] at hj; exact hj), fun a b hab hb2 => h.sep a b hab (by rw [hl'] at hb2; exact hb2), h.aP, h.aC, h.aS, fun j hj => h.aE j (by rw [hl'] at hj; exact hj)⟩
  rw [hl'] at hj
  by_cases e : j = i
  · subst e
    rw [show (sl.set j ((sl.getD j []).set k t)).getD j [] = (sl.getD j []).set k t by simp [List.getD, hj], ← bvals_set]
    have ho := h.each j hj
    generalize hs.getD j Hd.zero = x at hg ho
    obtain ⟨xo, xn, xc⟩ := x
    have e0 : xo = some ⟨g, 0, none⟩ := hg
    subst e0
    exact own_setS (j := k) _ ho
  · have e2 : i ≠ j := fun x => e x.symm
    rw [show (sl.set i ((sl.getD i []).set k t)).getD j [] = sl.getD j [] by simp [List.getD, e2]]
    refine own_kept (h.each j hj) q (fun r er s => ?_)
    subst s
    rcases Nat.lt_or_gt_of_ne e with hlt | hgt
    · exact h.sep j i hlt hi r er hb
    · exact h.sep i j hgt hj r hb er
/-- One more that waits: whose it is. -/
theorem Sr.moreC {g cap3 : Nat} {c : Int} (h : Sr B0 wm PB N pd co cn cc cs so sn sc sl hs Pv) (own3 : w3.ownsRow B0 3 1 (.slice (some ⟨g, 0, none⟩) (cn + 1) cap3) (cn + 1) (vals cs ++ vals [c])) (grow : wm.grownBy w3 (Value.ownBlock (.slice co cn cc))) (hat : (Value.slice co cn cc).ownBlock = some g ∨ g = wm.heap.size) (hP : Pv wm.heap.size) :
    Sr B0 w3 PB N pd (some ⟨g, 0, none⟩) (cn + 1) cap3 (cs ++ [c]) so sn sc sl hs Pv := by
  have q := kept_grown grow
  refine ⟨own_kept h.pin q (fun i e s => own_apart h.core h.pin tb1 s.symm e), ?_, own_kept h.sees q (fun i e s => own_apart h.core h.sees tb3 s.symm e), h.hl, fun k hk => own_kept (h.each k hk) q (fun i e s => own_apart h.core (h.each k hk) tb1 s.symm e), h.eP, h.sep, h.aP, fun i e => ?_, h.aS, h.aE⟩
  · rw [show vals (cs ++ [c]) = vals cs ++ vals [c] by simp]
    exact own3
  · have e2 : g = i := Option.some.inj e
    subst e2
    rcases hat with e3 | e3
    · exact h.aC _ e3
    · rw [e3]; exact hP
/-- .. and for whom it waits. -/
theorem Sr.moreS {g cap3 : Nat} {x : Hd} {l : List Bool} (h : Sr B0 wm PB N pd co cn cc cs so sn sc sl hs Pv) (hx : wm.ownsRow B0 4 1 (.slice x.o x.n x.c) x.n (bvals l)) (hxn : ∀ q, x.v.ownBlock = some q → Pv q ∧ q ≠ PB ∧ ∀ k, k < sl.length → (hs.getD k Hd.zero).v.ownBlock ≠ some q)
    (own3 : w3.ownsRow B0 45 1 (.slice (some ⟨g, 0, none⟩) (sn + 1) cap3) (sn + 1) (hds hs ++ hds [x])) (grow : wm.grownBy w3 (Value.ownBlock (.slice so sn sc))) (hat : (Value.slice so sn sc).ownBlock = some g ∨ g = wm.heap.size) (hP : Pv wm.heap.size) :
    Sr B0 w3 PB N pd co cn cc cs (some ⟨g, 0, none⟩) (sn + 1) cap3 (sl ++ [l]) (hs ++ [x]) Pv := by
  have q := kept_grown grow
  have hh := h.hl
  have e1 : ∀ i, i < sl.length → (hs ++ [x]).getD i Hd.zero = hs.getD i Hd.zero ∧ (sl ++ [l]).getD i [] = sl.getD i [] := by
    intro i hi
    exact ⟨by simp [List.getD, List.getElem?_append_left (show i < hs.length by omega)], by simp [List.getD, List.getElem?_append_left hi]⟩
  have e2 : (hs ++ [x]).getD sl.length Hd.zero = x ∧ (sl ++ [l]).getD sl.length [] = l := by
    refine ⟨by rw [← hh]; simp [List.getD], by simp [List.getD]⟩
  have el : (sl ++ [l]).length = sl.length + 1 := by simp
  refine ⟨own_kept h.pin q (fun i e s => own_apart h.sees h.pin tb2 s.symm e), own_kept h.core q (fun i e s => own_apart h.core h.sees tb3 e s.symm), ?_, by simp [hh], fun k hk => ?_, fun k hk r er => ?_, fun i j hij hj r er => ?_, h.aP, h.aC, fun i e => ?_, fun k hk r er => ?_⟩
  · rw [show hds (hs ++ [x]) = hds hs ++ hds [x] by simp [hds]]
    exact own3
  · rw [el] at hk
    by_cases e : k < sl.length
    · rw [(e1 k e).1, (e1 k e).2]
      exact own_kept (h.each k e) q (fun i e3 s => own_apart h.sees (h.each k e) tb2 s.symm e3)
    · obtain rfl : k = sl.length := by omega
      rw [e2.1, e2.2]
      exact own_kept hx q (fun i e3 s => own_apart h.sees hx tb2 s.symm e3)
  · rw [el] at hk
    by_cases e : k < sl.length
    · rw [(e1 k e).1] at er
      exact h.eP k e r er
    · obtain rfl : k = sl.length := by omega
      rw [e2.1] at er
      exact (hxn r er).2.1
  · rw [el] at hj
    rw [(e1 i (by omega)).1] at er
    by_cases e : j < sl.length
    · rw [(e1 j e).1]
      exact h.sep i j hij e r er
    · obtain rfl : j = sl.length := by omega
      rw [e2.1]
      intro er2
      exact (hxn r er2).2.2 i hij er
  · have e3 : g = i := Option.some.inj e
    subst e3
    rcases hat with e4 | e4
    · exact h.aS _ e4
    · rw [e4]; exact hP
  · rw [el] at hk
    by_cases e : k < sl.length
    · rw [(e1 k e).1] at er
      exact h.aE k e r er
    · obtain rfl : k = sl.length := by omega
      rw [e2.1] at er
      exact (hxn r er).1
/-- Another list of whose each is. -/
theorem Sr.newC {n' c' : Nat} {o' : Option Addr} {cs' : List Int} {B1 : Nat} (h : Sr B0 wr PB N pd co cn cc cs so sn sc sl hs Pv) (ho : wr.ownsRow B1 3 1 (.slice o' n' c') n' (vals cs')) (hB : B0 ≤ B1) (hP : ∀ i, B1 ≤ i → Pv i) : Sr B0 wr PB N pd o' n' c' cs' so sn sc sl hs Pv :=
  ⟨h.pin, own_base ho (fun k e => Nat.le_trans hB (ho.lt k e).1), h.sees, h.hl, h.each, h.eP, h.sep, h.aP, fun q e => hP q (ho.lt q e).1, h.aS, h.aE⟩
theorem erase_get {α : Type} (l : List α) (a i : Nat) (d : α) : (l.eraseIdx a).getD i d = if i < a then l.getD i d else l.getD (i + 1) d := by
  simp only [List.getD, List.getElem?_eraseIdx]
  split <;> rfl
/-- One of those for whom each waits is taken out. -/
theorem Sr.newS {n' c' a : Nat} {o' : Option Addr} {B1 : Nat} (h : Sr B0 wr PB N pd co cn cc cs so sn sc sl hs Pv) (ha : a < sl.length) (ho : wr.ownsRow B1 45 1 (.slice o' n' c') n' (hds (hs.eraseIdx a))) (hB : B0 ≤ B1) (hP : ∀ i, B1 ≤ i → Pv i) : Sr B0 wr PB N pd co cn cc cs o' n' c' (sl.eraseIdx a) (hs.eraseIdx a) Pv := by
  have hh := h.hl
  have el : (sl.eraseIdx a).length = sl.length - 1 := by rw [List.length_eraseIdx]; simp [ha]
  have ix : ∀ i, i < sl.length - 1 → ∃ j, j < sl.length ∧ (sl.eraseIdx a).getD i [] = sl.getD j [] ∧ (hs.eraseIdx a).getD i Hd.zero = hs.getD j Hd.zero ∧ j = if i < a then i else i + 1 := by
    intro i hi
    by_cases e : i < a
    · exact ⟨i, by omega, by rw [erase_get, if_pos e], by rw [erase_get, if_pos e], by rw [if_pos e]⟩
    · exact ⟨i + 1, by omega, by rw [erase_get, if_neg e], by rw [erase_get, if_neg e], by rw [if_neg e]⟩
  refine ⟨h.pin, h.core, own_base ho (fun k e => Nat.le_trans hB (ho.lt k e).1), by rw [List.length_eraseIdx, List.length_eraseIdx, hh], fun k hk => ?_, fun k hk q eq => ?_, fun i j hij hj q eq => ?_, h.aP, h.aC, fun q e => hP q (ho.lt q e).1, fun k hk q eq => ?_⟩
  · rw [el] at hk
    obtain ⟨j, h1, h2, h3, _⟩ := ix k hk
    rw [h2, h3]
    exact h.each j h1
  · rw [el] at hk
    obtain ⟨j, h1, _, h3, _⟩ := ix k hk
    rw [h3] at eq
    exact h.eP j h1 q eq
  · rw [el] at hj
    obtain ⟨j1, a1, _, a3, a4⟩ := ix i (by omega)
    obtain ⟨j2, b1, _, b3, b4⟩ := ix j hj
    rw [a3] at eq
    rw [b3]
    refine h.sep j1 j2 ?_ b1 q eq
    rw [a4, b4]
    split <;> split <;> omega
  · rw [el] at hk
    obtain ⟨j, h1, _, h3, _⟩ := ix k hk
    rw [h3] at eq
    exact h.aE j h1 q eq
end
/-! ### Behind an act -/
/-- The epochs ahead in the box B, those that follow in the box X, what was done in the box AB; they lie in none of the blocks that the lists have, or will have. -/
structure Mo (w wr : World) (H B X AB : Nat) (e0 : Int) (z : WE) (t : Int) (v : WE) (d : E) (a : Ac) (Av : Nat → Prop) : Prop where
  low : Below w.heap.size w wr
  sz : H ≤ wr.heap.size
  box : InE wr B e0 z
  xb : InE wr X t v
  k0 : wr.cell? ⟨AB, 0, none⟩ = some (.int .i64 a.kind)
  k1 : wr.cell? ⟨AB, 1, none⟩ = some (.int .i64 a.core)
  hv : HasE wr (fun i => (Av i ∨ i = B) ∨ H ≤ i) v d
  fB : ¬ (Av B ∨ H ≤ B)
  fX : ¬ (Av X ∨ H ≤ X)
  fA : ¬ (Av AB ∨ H ≤ AB)
  bl : w.heap.size ≤ B
  av : ∀ i, (Av i ∨ H ≤ i) → w.heap.size ≤ i
  xB : X ≠ B
section
variable {w wr wm : World} {H B X AB : Nat} {e0 : Int} {z : WE} {t : Int} {v : WE} {d : E} {a : Ac} {Av : Nat → Prop}
theorem Mo.kept {S : Nat → Prop} (h : Mo w wr H B X AB e0 z t v d a Av) (q : Kept S wr wm) (hS : ∀ i, S i → Av i ∨ H ≤ i) : Mo w wm H B X AB e0 z t v d a Av :=
  ⟨h.low.trans (q.below w.heap.size h.low.size (fun i s => h.av i (hS i s))), Nat.le_trans h.sz q.size, h.box.kept q (fun s => h.fB (hS _ s)), h.xb.kept q (fun s => h.fX (hS _ s)), q.cell h.k0 (fun s => h.fA (hS _ s)), q.cell h.k1 (fun s => h.fA (hS _ s)), h.hv.kept q (fun i s => by rcases hS i s with s | s; exact .inl (.inl s); exact .inr s), h.fB, h.fX, h.fA, h.bl, h.av, h.xB⟩
theorem Mo.below (h : Mo w wr H B X AB e0 z t v d a Av) (b : Below wr.heap.size wr wm) : Mo w wm H B X AB e0 z t v d a Av := h.kept (S := fun _ => False) (kept_below b) (fun _ s => s.elim)
end
/-- What EpochSafe knows at each round's head. -/
structure Ss (w wr : World) (B : Nat) (z : WE) (f : E) (PB N : Nat) (pd : List Bool) (co : Option Addr) (cn cc : Nat) (so : Option Addr) (sn sc : Nat) (G : List En) (hs : List Hd) (Av : Nat → Prop) : Prop where
  low : Below w.heap.size w wr
  bl : w.heap.size ≤ B
  box : InE wr B f.now z
  he : HasE wr (fun i => Av i ∨ i = B) z f
  r : Sr w.heap.size wr PB N pd co cn cc (G.map (fun g => g.c)) so sn sc (G.map (fun g => g.see)) hs Av
  lt : ∀ i, Av i → i < wr.heap.size
  av : ∀ i, Av i → w.heap.size ≤ i
  nb : ¬ Av B
  sf : Sf f pd G
  len : f.pins.length = N
theorem Ss.lt2 {w wr : World} {B : Nat} {z : WE} {f : E} {PB N : Nat} {pd : List Bool} {co : Option Addr} {cn cc : Nat} {so : Option Addr} {sn sc : Nat} {G : List En} {hs : List Hd} {Av : Nat → Prop} (h : Ss w wr B z f PB N pd co cn cc so sn sc G hs Av) {W : World} (b : Below wr.heap.size wr W) : ∀ i, (Av i ∨ i = B) → i < W.heap.size := by
  intro i s
  rcases s with s | s
  · exact Nat.lt_of_lt_of_le (h.lt i s) b.size
  · rw [s]; exact Nat.lt_of_lt_of_le h.box.lt b.size
/-- The next round's head. -/
theorem ss_end {w wr : World} {H B X AB : Nat} {e0 : Int} {z : WE} {t : Int} {v : WE} {d : E} {a : Ac} {Av : Nat → Prop} {PB N : Nat} {pd : List Bool} {co : Option Addr} {cn cc : Nat} {so : Option Addr} {sn sc : Nat} {G : List En} {hs : List Hd} {cs : List Int} {sl : List (List Bool)}
    (h : Mo w wr H B X AB e0 z t v d a Av) (hr : Sr w.heap.size wr PB N pd co cn cc cs so sn sc sl hs (fun i => Av i ∨ H ≤ i)) (hc : cs = G.map (fun g => g.c)) (hs2 : sl = G.map (fun g => g.see)) (hf : Sf d pd G) (hn : d.now = t) (hl : d.pins.length = N) :
    ∃ Av' : Nat → Prop, Ss w (((wr.setCell ⟨B, 0, none⟩ (.int .i64 t)).setCell ⟨B, 1, none⟩ (.slice v.p.o v.p.n v.p.c)).setCell ⟨B, 2, none⟩ (.slice v.l.o v.l.n v.l.c)) B v d PB N pd co cn cc so sn sc G hs Av' := by
  subst hc hs2 hn
  have q := kept_store wr B (.int .i64 d.now) (.slice v.p.o v.p.n v.p.c) (.slice v.l.o v.l.n v.l.c)
  refine ⟨fun i => (Av i ∨ H ≤ i) ∧ i < wr.heap.size, ?_⟩
  have hr2 := hr.weak (Pv' := fun i => (Av i ∨ H ≤ i) ∧ i < wr.heap.size) (fun i h1 h2 => ⟨h1, h2⟩)
  refine ⟨fin_lowR h.low h.bl _ _ _, h.bl, h.box.store d.now v, ?_, hr2.kept q (fun i s hp => h.fB (s ▸ hp.1)), fun i s => Nat.lt_of_lt_of_le s.2 q.size, fun i s => h.av i s.1, fun s => h.fB s.1, hf, hl⟩
  refine (h.hv.kept q (fun i s => .inl (.inr s))).less (fun i s => ?_)
  rcases s with s | s
  · rcases s.1 with s1 | s1
    · exact .inl (.inl s1)
    · exact .inr s1
  · exact .inl (.inr s)
/-! ### What is known where nothing goes -/
theorem sf_out {f : E} {pd : List Bool} {G : List En} {a : Ac} (h : Sf f pd G) (ho : ¬ (0 ≤ a.core ∧ a.core < f.pins.length)) : Sf (doE f a) pd G ∧ doL f a = [] := by
  have hc := no_core ho
  have h1 : pinE f a.core ≠ 0 := by simp [pinE, hc]
  have h2 : unE f a.core ≠ 0 := by simp [unE, hc]
  have h3 : reE f a.core a.obj ≠ 0 := by simp [reE, hc]
  unfold doE doL
  repeat' split
  · exact ⟨sf_same h (pin_same h1), rfl⟩
  · exact ⟨sf_same h (un_same h2), rfl⟩
  · exact ⟨sf_same h (re_same h3), rfl⟩
  · exact ⟨sf_ad h, rfl⟩
  · exact ⟨sf_same h (rp_same hc).1, (rp_same hc).2⟩
end Go.Proofs.Ytejghoncihdfkaa.Ep
