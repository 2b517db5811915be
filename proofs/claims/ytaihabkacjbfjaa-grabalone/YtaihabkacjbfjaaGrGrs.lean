/- Grabs that lie one behind the other, beside cells. -/
import Derived.Test.YtaihabkacjbfjaaGrDoes
import Derived.Test.YtaihabkacjbfjaaGrEnd
namespace Go.Proofs.Ytaihabkacjbfjaa.Gr
open Go.RowKit Go.Proofs.Ytaihabkacjbfjaa.Ce

/-- A grab, and where its cells lie. -/
structure Gh where
  g : G
  ao : Option Addr
  cap : Nat
def Gh.zero : Gh := ⟨G.zero, none, 0⟩
def gC (x : Gh) : List Value := [.int .i64 x.g.w, .slice x.ao x.g.cs.length x.cap, .int .i64 x.g.p, .int .i64 x.g.a, .int .i64 x.g.t, .bool x.g.b]
def grs (xs : List Gh) : List Value := xs.flatMap gC
theorem len_gC (x : Gh) : (gC x).length = 6 := rfl
theorem len_grs (xs : List Gh) : (grs xs).length = xs.length * 6 := by
  induction xs with
  | nil => rfl
  | cons x r ih =>
    simp only [grs, List.flatMap_cons, List.length_append, List.length_cons, len_gC] at ih ⊢
    omega
theorem grs_snoc (xs : List Gh) (x : Gh) : grs (xs ++ [x]) = grs xs ++ gC x := by simp [grs]
theorem gC_one (x : Gh) : ∀ u ∈ gC x, u.oneCell' = true := by
  intro u hu
  simp only [gC, List.mem_cons, List.not_mem_nil, or_false] at hu
  rcases hu with rfl | rfl | rfl | rfl | rfl | rfl <;> rfl
theorem grs_at (xs : List Gh) (j i : Nat) (hi : i < 6) (h : j < xs.length) : (grs xs)[j * 6 + i]? = (gC (xs.getD j Gh.zero))[i]? := by
  induction xs generalizing j with
  | nil => simp at h
  | cons x r ih =>
    cases j with
    | zero => simp only [grs, List.flatMap_cons]; rw [List.getElem?_append_left (by rw [len_gC]; omega)]; simp
    | succ j =>
      have := ih j (by simpa using h)
      simp only [grs, List.flatMap_cons] at this ⊢
      rw [List.getElem?_append_right (by rw [len_gC]; omega)]
      rw [show (j + 1) * 6 + i - (gC x).length = j * 6 + i by rw [len_gC]; omega, this]
      simp
theorem grs_set (xs : List Gh) (k : Nat) (x : Gh) (h : k < xs.length) :
    (((((((grs xs).set (k * 6) (.int .i64 x.g.w)).set (k * 6 + 1) (.slice x.ao x.g.cs.length x.cap)).set (k * 6 + 2) (.int .i64 x.g.p)).set (k * 6 + 3) (.int .i64 x.g.a)).set (k * 6 + 4) (.int .i64 x.g.t)).set (k * 6 + 5) (.bool x.g.b)) = grs (xs.set k x) := by
  apply List.ext_getElem?
  intro j
  have hl := len_grs xs
  by_cases hj : j < xs.length * 6
  · have e : j = j / 6 * 6 + j % 6 := by omega
    have hd : j / 6 < xs.length := by omega
    have h1 := grs_at (xs.set k x) (j / 6) (j % 6) (by omega) (by simpa using hd)
    have h2 := grs_at xs (j / 6) (j % 6) (by omega) hd
    rw [← e] at h1 h2
    rw [h1]
    by_cases ek : j / 6 = k
    · have e3 : (xs.set k x).getD (j / 6) Gh.zero = x := by rw [ek]; simp [List.getD, h]
      rw [e3]
      have : j % 6 = 0 ∨ j % 6 = 1 ∨ j % 6 = 2 ∨ j % 6 = 3 ∨ j % 6 = 4 ∨ j % 6 = 5 := by omega
      have hlt : j < (grs xs).length := by omega
      rcases this with m | m | m | m | m | m
      · obtain rfl : j = k * 6 := by omega
        rw [m]
        simp [gC, hlt]
      · obtain rfl : j = k * 6 + 1 := by omega
        rw [m]
        simp [gC, hlt]
      · obtain rfl : j = k * 6 + 2 := by omega
        rw [m]
        simp [gC, hlt]
      · obtain rfl : j = k * 6 + 3 := by omega
        rw [m]
        simp [gC, hlt]
      · obtain rfl : j = k * 6 + 4 := by omega
        rw [m]
        simp [gC, hlt]
      · obtain rfl : j = k * 6 + 5 := by omega
        rw [m]
        simp [gC, hlt]
    · have e3 : (xs.set k x).getD (j / 6) Gh.zero = xs.getD (j / 6) Gh.zero := by
        simp only [List.getD, List.getElem?_set]
        rw [if_neg (fun e => ek e.symm)]
      rw [e3, ← h2]
      simp only [List.getElem?_set]
      rw [if_neg (by omega), if_neg (by omega), if_neg (by omega), if_neg (by omega), if_neg (by omega), if_neg (by omega)]
  · rw [List.getElem?_eq_none (by simp; omega), List.getElem?_eq_none (by rw [len_grs]; simp; omega)]
/-- One cell of a row is written. -/
theorem own_setN {w : World} {B n cap g j size : Nat} {e : TypeId} {cs : List Value} (u : Value) (h : w.ownsRow B e size (.slice (some ⟨g, 0, none⟩) n cap) n cs) :
    (w.setCell ⟨g, j, none⟩ u).ownsRow B e size (.slice (some ⟨g, 0, none⟩) n cap) n (cs.set j u) := by
  refine ⟨by simpa using h.1, ?_⟩
  rcases h.2 with ⟨e, _⟩ | ⟨g', cap', cur, e, hb, hg, h1, h2, h3, h4⟩
  · cases e
  · cases e
    refine .inr ⟨g, cap, cur.setIfInBounds j u, rfl, hb, ?_, h1, h2, by simpa using h3, ?_⟩
    · have hlt := (Array.getElem?_eq_some_iff.1 hg).1
      simp [World.setCell, Array.getElem?_modify, hg]
    · rw [← h4]
      simp [List.take_set]
/-- THE GRABS, THE CELLS, AND WHERE THEY LIE. -/
structure Sys (w W : World) (p gb vcap : Nat) (tao : Option Addr) (tcap : Nat) (s : S) (go : Option Addr) (gcap : Nat) (xs : List Gh) : Prop where
  cel : Cel W w.heap.size p gb vcap tao tcap s
  row : W.ownsRow w.heap.size 25 6 (.slice go xs.length gcap) xs.length (grs xs)
  has : ∀ i, i < xs.length → Has W (xs.getD i Gh.zero).ao (xs.getD i Gh.zero).g.cs.length (xs.getD i Gh.zero).cap (xs.getD i Gh.zero).g.cs
  offG : ∀ i, i < xs.length → Off (fun k => ∃ a, go = some a ∧ a.block = k) (xs.getD i Gh.zero).ao (vals (xs.getD i Gh.zero).g.cs)
  offC : ∀ i, i < xs.length → Off (foot p gb tao) (xs.getD i Gh.zero).ao (vals (xs.getD i Gh.zero).g.cs)
  gc : ∀ a, go = some a → ¬ foot p gb tao a.block
  low : Below w.heap.size w W
section
variable {w W W' : World} {p gb vcap : Nat} {tao : Option Addr} {tcap : Nat} {s : S} {go : Option Addr} {gcap : Nat} {xs : List Gh}
theorem Sys.below (h : Sys w W p gb vcap tao tcap s go gcap xs) (hb : Below W.heap.size W W') : Sys w W' p gb vcap tao tcap s go gcap xs :=
  ⟨h.cel.below hb, own_below h.row hb, fun i hi => (h.has i hi).below hb, h.offG, h.offC, h.gc, q_trans h.low hb⟩
theorem Sys.blk (h : Sys w W p gb vcap tao tcap s go gcap xs) (hx : 0 < xs.length) : ∃ g, go = some ⟨g, 0, none⟩ := by
  rcases h.row.2 with ⟨_, e⟩ | ⟨g, c, cur, e, _⟩
  · omega
  · cases e
    exact ⟨g, rfl⟩
/-- The i-th, as it lies. -/
theorem Sys.at_ {g : Nat} (h : Sys w W p gb vcap tao tcap s (some ⟨g, 0, none⟩) gcap xs) (i : Nat) (hi : i < xs.length) : ∀ j u, (gC (xs.getD i Gh.zero))[j]? = some u → W.cell? ⟨g, i * 6 + j, none⟩ = some u := by
  intro j u hu
  have hj : j < 6 := by have := (List.getElem?_eq_some_iff.1 hu).1; rwa [len_gC] at this
  obtain ⟨a, e, hc⟩ := (own_row h.row).1.cell (i * 6 + j) u (by rw [grs_at xs i j hj hi]; exact hu)
  cases e
  have ea : (⟨g, 0, none⟩ : Addr).add (i * 6 + j) = ⟨g, i * 6 + j, none⟩ := by
    unfold Addr.add
    split
    · rename_i h0; simp
    · simp
  rw [ea] at hc
  exact hc
theorem Sys.frozen {g : Nat} (h : Sys w W p gb vcap tao tcap s (some ⟨g, 0, none⟩) gcap xs) (j : Nat) : W.frozen? ⟨g, j, none⟩ = false := own_frozen h.row
/-- One did a step, and is laid where it was. -/
theorem Sys.store {g : Nat} {tao' : Option Addr} {tcap' : Nat} {s' : S} {k : Nat} {x : Gh} (h : Sys w W p gb vcap tao tcap s (some ⟨g, 0, none⟩) gcap xs) (hk : k < xs.length)
    (d : Dn W W' w.heap.size p gb vcap tao tao' tcap' s' (xs.getD k Gh.zero).ao x.ao x.g.cs.length x.cap x.g.cs) (hcs : x.g.cs = (xs.getD k Gh.zero).g.cs) :
    Sys w ((((((W'.setCell ⟨g, k * 6, none⟩ (.int .i64 x.g.w)).setCell ⟨g, k * 6 + 1, none⟩ (.slice x.ao x.g.cs.length x.cap)).setCell ⟨g, k * 6 + 2, none⟩ (.int .i64 x.g.p)).setCell ⟨g, k * 6 + 3, none⟩ (.int .i64 x.g.a)).setCell ⟨g, k * 6 + 4, none⟩ (.int .i64 x.g.t)).setCell ⟨g, k * 6 + 5, none⟩ (.bool x.g.b)) p gb vcap tao' tcap' s' (some ⟨g, 0, none⟩) gcap (xs.set k x) := by
  have hkept : Kept (fun i => i = g) W' ((((((W'.setCell ⟨g, k * 6, none⟩ (.int .i64 x.g.w)).setCell ⟨g, k * 6 + 1, none⟩ (.slice x.ao x.g.cs.length x.cap)).setCell ⟨g, k * 6 + 2, none⟩ (.int .i64 x.g.p)).setCell ⟨g, k * 6 + 3, none⟩ (.int .i64 x.g.a)).setCell ⟨g, k * 6 + 4, none⟩ (.int .i64 x.g.t)).setCell ⟨g, k * 6 + 5, none⟩ (.bool x.g.b)) := by
    iterate 6 refine Kept.setCell ?_ _ _ (fun _ => rfl)
    exact Kept.refl _ _
  have hg : g < W.heap.size := (h.row.lt g rfl).2
  have hgB : w.heap.size ≤ g := (h.row.lt g rfl).1
  have hnf : ¬ foot p gb tao g := h.gc _ rfl
  have hnf' : ¬ foot p gb tao' g := by
    rintro (e | e | ⟨a, e, e2⟩)
    · exact hnf (.inl e)
    · exact hnf (.inr (.inl e))
    · rcases d.moved a e with ⟨b, e3, e4⟩ | h2
      · exact hnf (.inr (.inr ⟨b, e3, by omega⟩))
      · omega
  have row1 : W'.ownsRow w.heap.size 25 6 (.slice (some ⟨g, 0, none⟩) xs.length gcap) xs.length (grs xs) := own_kept h.row d.kept (fun i e => by cases e; exact hnf)
  have gd : ∀ i, (xs.set k x).getD i Gh.zero = if i = k then x else xs.getD i Gh.zero := by
    intro i
    simp only [List.getD, List.getElem?_set]
    by_cases e : k = i
    · subst e; simp [hk]
    · rw [if_neg e, if_neg (fun h => e h.symm)]
  have lt_of : ∀ i, i < xs.length → 0 < (vals (xs.getD i Gh.zero).g.cs).length → ∀ a, (xs.getD i Gh.zero).ao = some a → a.block < W.heap.size := by
    intro i hi h0 a e
    obtain ⟨b, e1, hb⟩ := (h.has i hi).row.lt h0
    rw [e] at e1
    cases e1
    exact hb
  have footNew : ∀ i, i < xs.length → Off (foot p gb tao') (xs.getD i Gh.zero).ao (vals (xs.getD i Gh.zero).g.cs) := by
    intro i hi h0 a e hf
    have hlt := lt_of i hi h0 a e
    rcases hf with e2 | e2 | ⟨b, e2, e3⟩
    · exact h.offC i hi h0 a e (.inl e2)
    · exact h.offC i hi h0 a e (.inr (.inl e2))
    · rcases d.moved b e2 with ⟨c, e4, e5⟩ | h2
      · exact h.offC i hi h0 a e (.inr (.inr ⟨c, e4, by omega⟩))
      · omega
  have offX : Off (fun i => i = g) x.ao (vals x.g.cs) := by
    intro h0 a e e2
    rcases d.new a e with e3 | e3
    · exact h.offG k hk (by rw [← hcs]; exact h0) a e3 ⟨_, rfl, e2.symm⟩
    · omega
  refine ⟨?_, ?_, fun i hi => ?_, fun i hi => ?_, fun i hi => ?_, fun a e => by cases e; exact hnf', ?_⟩
  · exact d.cel.kept hkept (fun i e e2 => hnf' (by subst e2; exact e))
  · rw [List.length_set, ← grs_set xs k x hk]
    exact own_setN _ (own_setN _ (own_setN _ (own_setN _ (own_setN _ (own_setN _ row1)))))
  · rw [gd]
    split
    · exact d.has.kept hkept offX
    · rw [List.length_set] at hi
      refine ((h.has i hi).kept d.kept (h.offC i hi)).kept hkept (fun h0 a e e2 => h.offG i hi h0 a e ⟨_, rfl, e2.symm⟩)
  · rw [gd]
    split
    · intro h0 a e
      rintro ⟨b, e2, e3⟩
      cases e2
      exact offX h0 a e e3.symm
    · exact h.offG i (by simpa using hi)
  · rw [gd]
    split
    · exact d.off
    · exact footNew i (by simpa using hi)
  · have hq : Below w.heap.size w W' := h.low.trans (d.kept.below w.heap.size h.low.size (fun i e => (h.cel.lt i e).1))
    exact hq.trans (hkept.below w.heap.size hq.size (fun i e => by omega))
end
end Go.Proofs.Ytaihabkacjbfjaa.Gr
