/- What the document's Above and Descends (of ghosts) do. -/
import Derived.Test.YtcldnacpddebcabGhRFind
import Derived.Test.YtcldnacpddebcabPkA
namespace Go.Proofs.Ytcldnacpddebcab.Gh
open Go.RowKit
open Go.Proofs.Ytcldnacpddebcab.Tr

/-! ### Those above -/
theorem abv_out {fr : List Int} {x : Int} (h : ¬ (0 ≤ x ∧ x < fr.length)) : abv fr x = [] := by unfold abv; rw [if_neg h]
theorem abv_end {fr : List Int} {n : Nat} (hn : n < fr.length) (h : Ii fr n < 0 ∨ (n : Int) ≤ Ii fr n) : abv fr n = [] := by
  unfold abv
  rw [if_pos (by omega), show ((n : Int)).toNat = n by omega, up_no h]
  rfl
theorem abv_step {fr : List Int} {n m : Nat} (hn : n < fr.length) (h : Ii fr n = m) (hm : m < n) : abv fr n = (m : Int) :: abv fr m := by
  unfold abv
  rw [if_pos (by omega), if_pos (by omega), show ((n : Int)).toNat = n by omega, show ((m : Int)).toNat = m by omega, up_yes h hm]
  rfl
theorem up_len {fr : List Int} : ∀ n, (up fr n).length ≤ n := by
  intro n
  induction n using Nat.strongRecOn with
  | ind n ih =>
    by_cases h : 0 ≤ Ii fr n ∧ Ii fr n < n
    · obtain ⟨u, hu⟩ : ∃ u : Nat, Ii fr n = u := ⟨(Ii fr n).toNat, by omega⟩
      rw [up_yes hu (by omega)]
      have := ih u (by omega)
      simp
      omega
    · rw [up_no (by omega)]
      exact Nat.zero_le _
theorem abv_len (fr : List Int) (x : Int) : (abv fr x).length ≤ fr.length := by
  unfold abv
  split
  · have := up_len (fr := fr) x.toNat
    simp
    omega
  · exact Nat.zero_le _
theorem ds_wh (g : Gt) (a b : P) : dsG g a b = (whB g a && (whB g b && decide (whI g b ∈ abv g.fr (whI g a)))) := by
  unfold dsG whB whI
  cases who g a <;> cases who g b <;> simp
/-- A ghost's box and two keys'. -/
theorem gkk_new (w : World) (y : Gv) (a b : P) (t u v : TypeId) : InG (((w.alloc (.cells #[.slice y.k.o y.k.n y.k.c, .slice y.i.o y.i.n y.i.c, .slice y.f.o y.f.n y.f.c] t)).alloc (.cells #[.int .i64 a.1, .int .i64 a.2] u)).alloc (.cells #[.int .i64 b.1, .int .i64 b.2] v)) w.heap.size y ∧ AtP (((w.alloc (.cells #[.slice y.k.o y.k.n y.k.c, .slice y.i.o y.i.n y.i.c, .slice y.f.o y.f.n y.f.c] t)).alloc (.cells #[.int .i64 a.1, .int .i64 a.2] u)).alloc (.cells #[.int .i64 b.1, .int .i64 b.2] v)) ⟨w.heap.size + 1, 0, none⟩ a ∧ AtP (((w.alloc (.cells #[.slice y.k.o y.k.n y.k.c, .slice y.i.o y.i.n y.i.c, .slice y.f.o y.f.n y.f.c] t)).alloc (.cells #[.int .i64 a.1, .int .i64 a.2] u)).alloc (.cells #[.int .i64 b.1, .int .i64 b.2] v)) ⟨w.heap.size + 2, 0, none⟩ b ∧ Below w.heap.size w (((w.alloc (.cells #[.slice y.k.o y.k.n y.k.c, .slice y.i.o y.i.n y.i.c, .slice y.f.o y.f.n y.f.c] t)).alloc (.cells #[.int .i64 a.1, .int .i64 a.2] u)).alloc (.cells #[.int .i64 b.1, .int .i64 b.2] v)) := by
  obtain ⟨h1, h2, h3⟩ := gk_new w y a t u
  refine ⟨h1.below (alloc_below _ _), h2.below (alloc_below _ _), ?_, q_alloc h3 _⟩
  have h := at_new ((w.alloc (.cells #[.slice y.k.o y.k.n y.k.c, .slice y.i.o y.i.n y.i.c, .slice y.f.o y.f.n y.f.c] t)).alloc (.cells #[.int .i64 a.1, .int .i64 a.2] u)) b v
  rwa [show ((w.alloc (.cells #[.slice y.k.o y.k.n y.k.c, .slice y.i.o y.i.n y.i.c, .slice y.f.o y.f.n y.f.c] t)).alloc (.cells #[.int .i64 a.1, .int .i64 a.2] u)).heap.size = w.heap.size + 2 by simp] at h
/-! ### Lists of numbers that a call has made -/
def MineI (w : World) (B : Nat) (ao : Option Addr) (n cap : Nat) (l : List Int) : Prop := n = l.length ∧ w.ownsRow B 3 1 (.slice ao n cap) n (vals l)
theorem MineI.has {w : World} {B n cap : Nat} {ao : Option Addr} {l : List Int} (h : MineI w B ao n cap l) : Has w ao n cap l := ⟨h.1, (own_row h.2).2.2.1, (own_row h.2).2.1, (own_row h.2).1⟩
theorem MineI.below {w w' : World} {B n cap : Nat} {ao : Option Addr} {l : List Int} (h : MineI w B ao n cap l) (hb : Below w.heap.size w w') : MineI w' B ao n cap l := ⟨h.1, own_below h.2 hb⟩
theorem mineI_nil (w : World) (B : Nat) : MineI w B none 0 0 [] := ⟨rfl, World.ownsRow_nil _ _ _ _⟩
theorem MineI.append {w w1 : World} {B n m cap cap' : Nat} {ao ao' : Option Addr} {l k : List Int} (h : MineI w B ao n cap l) (hB : B ≤ w.heap.size) (hk : m = k.length)
    (h1 : w1.ownsRow B 3 1 (.slice ao' (n + m) cap') (n + m) (vals l ++ vals k)) (hg : w.grownBy w1 (Value.ownBlock (.slice ao n cap))) : MineI w1 B ao' (n + m) cap' (l ++ k) ∧ Below B w w1 := by
  refine ⟨⟨by rw [h.1, hk]; simp, ?_⟩, (Below.refl B w).grown hg hB (fun k e => (World.ownsRow.lt h.2 k e).1)⟩
  rw [show vals (l ++ k) = vals l ++ vals k by simp [vals]]
  exact h1
theorem one_int (w : World) (x : Int) (t : TypeId) : Row (w.alloc (.cells #[.int .i64 x] t)) (some ⟨w.heap.size, 0, none⟩) (vals [x]) := by
  refine ⟨fun j u hu => ⟨_, rfl, ?_⟩⟩
  match j, hu with
  | 0, hu => simp [vals] at hu; subst hu; simp [Addr.add]
end Go.Proofs.Ytcldnacpddebcab.Gh
