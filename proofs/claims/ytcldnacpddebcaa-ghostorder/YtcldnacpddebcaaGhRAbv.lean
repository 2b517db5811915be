/- What the document's Above and Descends (of ghosts) do. -/
import Derived.Test.YtcldnacpddebcaaGhRFind
import Derived.Test.YtcldnacpddebcaaPkA
namespace Go.Proofs.Ytcldnacpddebcaa.Gh
open Go.RowKit
open Go.Proofs.Ytcldnacpddebcaa.Tr

/-! ### Those above -/
theorem abv_out {fr : List Int} {x : Int} (h : ¬ (0 ≤ x ∧ x < fr.length)) : abv fr x = [] := by unfold abv; rw [if_neg h]
theorem abv_end {fr : List Int} {n : Nat} (hn : n < fr.length) (h : Ii fr n < 0 ∨ (n : Int) ≤ Ii fr n) : abv fr n = [] := by
  unfold abv
  rw [if_pos (by omega), show ((n : Int)).toNat = n by omega, up_no h]
  rfl
theorem abv_step {fr : List Int} {n m : Nat} (hn : n < fr.length) (h : Ii fr n = m) (hm : m < n) : abv fr n = (m : Int) :: abv fr m := by
  unfold abv
  rw [if_pos (by omega), if_pos (by omega), show ((n : Int)).toNat = n by omega, show ((m : Int)).toNat = m by omega, up_yes h hm]
  rfl
theorem up_len {fr : List Int} : ∀ n, (up fr n).length ≤ n := by
  intro n
  induction n using Nat.strongRecOn with
  | ind n ih =>
    by_cases h : 0 ≤ Ii fr n ∧ Ii fr n < n
    · obtain ⟨u, hu⟩ : ∃ u : Nat, Ii fr n = u := ⟨(Ii fr n).toNat, by omega⟩
      rw [up_yes hu (by omega)]
      have := ih u (by omega)
      simp
      omega
    · rw [up_no (by omega)]
      exact Nat.zero_le _
theorem abv_len (fr : List Int) (x : Int) : (abv fr x).length ≤ fr.length := by
  unfold abv
  split
  · have := up_len (fr := fr) x.toNat
    simp
    omega
  · exact Nat.zero_le _
theorem ds_wh (g : Gt) (a b : P) : dsG g a b = (whB g a && (whB g b && decide (whI g b ∈ abv g.fr (whI g a)))) := by
  unfold dsG whB whI
  cases who g a <;> cases who g b <;> simp
/-- A ghost's box and two keys'. -/
theorem gkk_new (w : World) (y : Gv) (a b : P) (t u v : TypeId) : InG (((w.alloc (.cells #[.slice y.k.o y.k.n y.k.c, .slice y.i.o y.i.n y.i.c, .slice y.f.o y.f.n y.f.c] t)).alloc (.cells #[.int .i64 a.1, .int .i64 a.2] u)).alloc (.cells #[.int .i64 b.1, .int .i64 b.2] v)) w.heap.size y ∧ AtP (((w.alloc (.cells #[.slice y.k.o y.k.n y.k.c, .slice y.i.o y.i.n y.i.c, .slice y.f.o y.f.n y.f.c] t)).alloc (.cells #[.int .i64 a.1, .int .i64 a.2] u)).alloc (.cells #[.int .i64 b.1, .int .i64 b.2] v)) ⟨w.heap.size + 1, 0, none⟩ a ∧ AtP (((w.alloc (.cells #[.slice y.k.o y.k.n y.k.c, .slice y.i.o y.i.n y.i.c, .slice y.f.o y.f.n y.f.c] t)).alloc (.cells #[.int .i64 a.1, .int .i64 a.2] u)).alloc (.cells #[.int .i64 b.1, .int .i64 b.2] v)) ⟨w.heap.size + 2, 0, none⟩ b ∧ Below w.heap.size w (((w.alloc (.cells #[.slice y.k.o y.k.n y.k.c, .slice y.i.o y.i.n y.i.c, .slice y.f.o y.f.n y.f.c] t)).alloc (.cells #[.int .i64 a.1, .int .i64 a.2] u)).alloc (.cells #[.int .i64 b.1, .int .i64 b.2] v)) := by
  obtain ⟨h1, h2, h3⟩ := gk_new w y a t u
  refine ⟨h1.below (alloc_below _ _), h2.below (alloc_below _ _), ?_, q_alloc h3 _⟩
  have h := at_new ((w.alloc (.cells #[.slice y.k.o y.k.n y.k.c, .slice y.i.o y.i.n y.i.c, .slice y.f.o y.f.n y.f.c] t)).alloc (.cells #[.int .i64 a.1, .int .i64 a.2] u)) b v
  rwa [show ((w.alloc (.cells #[.slice y.k.o y.k.n y.k.c, .slice y.i.o y.i.n y.i.c, .slice y.f.o y.f.n y.f.c] t)).alloc (.cells #[.int .i64 a.1, .int .i64 a.2] u)).heap.size = w.heap.size + 2 by simp] at h
/-! ### Lists of numbers that a call has made -/
def MineI (w : World) (B : Nat) (ao : Option Addr) (n cap : Nat) (l : List Int) : Prop := n = l.length ∧ w.ownsRow B 3 1 (.slice ao n cap) n (vals l)
theorem MineI.has {w : World} {B n cap : Nat} {ao : Option Addr} {l : List Int} (h : MineI w B ao n cap l) : Has w ao n cap l := ⟨h.1, (own_row h.2).2.2.1, (own_row h.2).2.1, (own_row h.2).1⟩
theorem MineI.below {w w' : World} {B n cap : Nat} {ao : Option Addr} {l : List Int} (h : MineI w B ao n cap l) (hb : Below w.heap.size w w') : MineI w' B ao n cap l := ⟨h.1, own_below h.2 hb⟩
theorem mineI_nil (w : World) (B : Nat) : MineI w B none 0 0 [] := ⟨rfl, World.ownsRow_nil _ _ _ _⟩
theorem MineI.append {w w1 : World} {B n m cap cap' : Nat} {ao ao' : Option Addr} {l k : List Int} (h : MineI w B ao n cap l) (hB : B ≤ w.heap.size) (hk : m = k.length)
    (h1 : w1.ownsRow B 3 1 (.slice ao' (n + m) cap') (n + m) (vals l ++ vals k)) (hg : w.grownBy w1 (Value.ownBlock (.slice ao n cap))) : MineI w1 B ao' (n + m) cap' (l ++ k) ∧ Below B w w1 := by
  refine ⟨⟨by rw [h.1, hk]; simp, ?_⟩, (Below.refl B w).grown hg hB (fun k e => (World.ownsRow.lt h.2 k e).1)⟩
  rw [show vals (l ++ k) = vals l ++ vals k by simp [vals]]
  exact h1
theorem one_int (w : World) (x : Int) (t : TypeId) : Row (w.alloc (.cells #[.int .i64 x] t)) (some ⟨w.heap.size, 0, none⟩) (vals [x]) := by
  refine ⟨fun j u hu => ⟨_, rfl, ?_⟩⟩
  match j, hu with
  | 0, hu => simp [vals] at hu; subst hu; simp [Addr.add]
set_option maxRecDepth 100000 in
set_option maxHeartbeats 2000000 in
/-- Above: WHO IS ABOVE. -/
theorem rabv_any (y : Gv) (fr : List Int) (id : Int) (w : World) (hs : y.f.n ≤ 5000) (HH : Hid (Has w y.f.o y.f.n y.f.c fr)) :
    Calls Try.prog 22 #[(.agg #[.slice y.k.o y.k.n y.k.c, .slice y.i.o y.i.n y.i.c, .slice y.f.o y.f.n y.f.c]), .int .i64 id] w fun e w' => ∃ xo xn xc, e = .returned (.slice xo xn xc) ∧ Has w' xo xn xc (abv fr id) ∧ Below w.heap.size w w' := by
  have HN := hid HH.out.len
  go_enter Try.func22, Try.ntmps22
  go_wp2_with fail
  have HG0 := hid (inG_new w y 25)
  have HB0 := hid (alloc_below w (.cells #[.slice y.k.o y.k.n y.k.c, .slice y.i.o y.i.n y.i.c, .slice y.f.o y.f.n y.f.c] 25))
  generalize w.alloc (.cells #[.slice y.k.o y.k.n y.k.c, .slice y.i.o y.i.n y.i.c, .slice y.f.o y.f.n y.f.c] 25) = W0 at HG0 HB0 ⊢
  go_loopw [1, 5] (fun i v wr => ∃ (x : Int) (m : Nat) (lo : Option Addr) (lc : Nat) (l : List Int), (m = 0 ∨ m + x.toNat < y.f.n) ∧ i = .int .i64 x ∧ v = .slice lo m lc ∧ Hid (abv fr id = l ++ abv fr x) ∧ Hid (MineI wr W0.heap.size lo m lc l) ∧ Hid (Below W0.heap.size W0 wr)) (fun i _ _ => (intOf i).toNat)
  case atStart => exact ⟨id, 0, none, 0, [], Or.inl rfl, rfl, rfl, rfl, mineI_nil _ _, Below.refl _ _⟩
  case round =>
    obtain ⟨x, m, lo, lc, l, hm, rfl, rfl, HE, HM, HC⟩ := hrel
    obtain ⟨c0, c1, c2⟩ := HG0.out.below HC.out
    have HB := hid (q_trans HB0.out HC.out)
    by_cases hx : 0 ≤ x ∧ x < y.f.n
    · obtain ⟨q, rfl⟩ : ∃ q : Nat, x = q := ⟨x.toNat, by omega⟩
      have i0 : (q : Int) ≥ 0 := by omega
      have i1 : (0 : Int) ≤ (q : Int) := by omega
      have i2 : (q : Int) < (y.f.n : Int) := by omega
      have hq : q < y.f.n := by omega
      have HQ : Hid (q < fr.length) := by have := HN.out; unfold Hid; omega
      obtain ⟨a, ea, ca⟩ := (HH.out.below HB.out).cell q hq
      rw [ea] at c2
      obtain ⟨u, hu⟩ : ∃ u, fr.getD q 0 = u := ⟨_, rfl⟩
      rw [hu] at ca
      have HU := hid hu
      clear hu ea hx
      by_cases d1 : u < 0
      · have HA : Hid (abv fr q = []) := abv_end HQ.out (Or.inl (by show fr.getD q 0 < 0; rw [HU.out]; exact d1))
        go_wp2_with fail
        go_ret
        exact ⟨lo, m, lc, rfl, by rw [HE.out, HA.out, List.append_nil]; exact HM.out.has, HB.out⟩
      · by_cases d2 : (q : Int) ≤ u
        · have HA : Hid (abv fr q = []) := abv_end HQ.out (Or.inr (by show (q : Int) ≤ fr.getD q 0; rw [HU.out]; exact d2))
          have d3 : u ≥ (q : Int) := d2
          go_wp2_with fail
          go_ret
          exact ⟨lo, m, lc, rfl, by rw [HE.out, HA.out, List.append_nil]; exact HM.out.has, HB.out⟩
        · have d3 : ¬ u ≥ (q : Int) := d2
          obtain ⟨p, rfl⟩ : ∃ p : Nat, u = p := ⟨u.toNat, by omega⟩
          have hp : p < q := by omega
          have HA : Hid (abv fr q = (p : Int) :: abv fr p) := abv_step HQ.out HU.out hp
          have HO := hid (HM.out.2.alloc (.cells #[.int .i64 (p : Int)] 3))
          have HRw := hid (one_int wr (p : Int) 3)
          have HZ := hid (q_alloc HC.out (.cells #[.int .i64 (p : Int)] 3)).size
          go_wp2_with (at_builtin; go_loud (refine wpList_append_row _ rfl (.tmp 29) (.tmp 31) 23 3 _ 1 8 rfl Try.underlying23 infoN rfl (by decide) (by decide) W0.heap.size _ m (vals l) rfl HO.out _ 1 1 (vals [(p : Int)]) rfl rfl (fun h => by cases h) HRw.out (vals_one _) (by omega) HZ.out ?_; intro ao3 cap3 w3 own3 grow3; apply Hid.out))
          have HMB : Hid (MineI w3 W0.heap.size ao3 (m + 1) cap3 (l ++ [(p : Int)]) ∧ Below W0.heap.size W0 w3) := by
            have h1 := MineI.append (HM.out.below (alloc_below _ _)) HZ.out (k := [(p : Int)]) rfl own3 grow3
            exact ⟨h1.1, (q_alloc HC.out _).trans h1.2⟩
          clear own3 grow3 HO HRw HZ c0 c1 c2 ca
          unfold Hid
          go_wp2_with fail
          go_roundw
          case rel => exact ⟨p, m + 1, ao3, cap3, l ++ [(p : Int)], Or.inr (by omega), rfl, rfl, by rw [HE.out, HA.out]; simp [Hid], HMB.out.1, HMB.out.2⟩
          case measure => simp [intOf]; omega
    · have HA : Hid (abv fr x = []) := abv_out (by have := HN.out; omega)
      by_cases e0 : 0 ≤ x
      · have i0 : x ≥ 0 := e0
        have i1 : ¬ x < (y.f.n : Int) := by omega
        go_wp2_with fail
        go_ret
        exact ⟨lo, m, lc, rfl, by rw [HE.out, HA.out, List.append_nil]; exact HM.out.has, HB.out⟩
      · have i0 : ¬ x ≥ 0 := e0
        go_wp2_with fail
        go_ret
        exact ⟨lo, m, lc, rfl, by rw [HE.out, HA.out, List.append_nil]; exact HM.out.has, HB.out⟩
set_option maxRecDepth 100000 in
set_option maxHeartbeats 2000000 in
/-- Descends: WHETHER ONE COMES OF ANOTHER. -/
theorem rdsg_any (y : Gv) (g : Gt) (a b : P) (w : World) (hs : y.k.n ≤ 5000) (hf : y.f.n ≤ 5000) (HH : Hid (HasG w y g)) :
    Calls Try.prog 24 #[(.agg #[.slice y.k.o y.k.n y.k.c, .slice y.i.o y.i.n y.i.c, .slice y.f.o y.f.n y.f.c]), (.agg #[.int .i64 a.1, .int .i64 a.2]), (.agg #[.int .i64 b.1, .int .i64 b.2])] w fun e w' => e = .returned (.bool (dsG g a b)) ∧ Below w.heap.size w w' := by
  have HN := hid HH.out.fr.len
  go_enter Try.func24, Try.ntmps24
  go_wp2_with fail
  obtain ⟨g1, g2, g3, g4⟩ := gkk_new w y a b 25 27 27
  have HG := hid g1
  have HK := hid g3
  have HB := hid g4
  clear g1 g2 g3 g4
  generalize ((w.alloc (.cells #[.slice y.k.o y.k.n y.k.c, .slice y.i.o y.i.n y.i.c, .slice y.f.o y.f.n y.f.c] 25)).alloc (.cells #[.int .i64 a.1, .int .i64 a.2] 27)).alloc (.cells #[.int .i64 b.1, .int .i64 b.2] 27) = W at HG HK HB ⊢
  refine (rwho_any y g a W (by omega) (HH.out.below HB.out)).mono ?_
  rintro e w1 ⟨rfl, b1⟩
  replace HB := hid (q_trans HB.out b1)
  replace HG := hid (HG.out.below b1)
  replace HK := hid (HK.out.below b1)
  clear b1
  obtain ⟨c0, c1, c2⟩ := HG.out
  obtain ⟨k0, k1⟩ := HK.out
  go_wp2_with fail
  refine (rwho_any y g b w1 (by omega) (HH.out.below HB.out)).mono ?_
  rintro e w2 ⟨rfl, b2⟩
  replace HB := hid (q_trans HB.out b2)
  replace HG := hid (HG.out.below b2)
  clear b2 c0 c1 c2 k0 k1 HK
  obtain ⟨c0, c1, c2⟩ := HG.out
  go_wp2_with fail
  refine (rabv_any y g.fr (whI g a) w2 hf (HH.out.fr.below HB.out)).mono ?_
  rintro e w3 ⟨xo, xn, xc, rfl, h3, b3⟩
  replace HB := hid (q_trans HB.out b3)
  have HX := hid h3
  have hxn : xn ≤ 5000 := by have h1 := h3.len; have h2 := abv_len g.fr (whI g a); have := HN.out; omega
  clear b3 c0 c1 c2 HG h3
  have HD := hid (ds_wh g a b)
  cases p1 : whB g a with
  | false =>
    rw [p1] at HD
    go_wp2_with fail
    go_ret
    exact ⟨ret_bool (by rw [HD.out]; rfl), HB.out⟩
  | true =>
    rw [p1] at HD
    cases p2 : whB g b with
    | false =>
      rw [p2] at HD
      go_wp2_with fail
      go_ret
      exact ⟨ret_bool (by rw [HD.out]; rfl), HB.out⟩
    | true =>
      rw [p2] at HD
      replace HD : Hid (dsG g a b = decide (whI g b ∈ abv g.fr (whI g a))) := HD.out
      clear p1 p2
      obtain ⟨l, hl⟩ : ∃ l, abv g.fr (whI g a) = l := ⟨_, rfl⟩
      rw [hl] at HX HD
      clear hl
      obtain ⟨v, hv⟩ : ∃ v, whI g b = v := ⟨_, rfl⟩
      rw [hv] at HD ⊢
      clear hv
      have HLn := hid HX.out.len
      go_wp2_with fail
      go_loopw [12] (fun i wr => ∃ q : Nat, q ≤ xn ∧ i = .int .i64 q ∧ Hid (∀ j, j < q → Ii l j ≠ v) ∧ wr = w3) (fun i _ => xn - (intOf i).toNat)
      case atStart => exact ⟨0, Nat.zero_le _, rfl, fun j hj => absurd hj (by omega), rfl⟩
      case round =>
        obtain ⟨q, hq, rfl, HU, rfl⟩ := hrel
        by_cases hlt : q < xn
        · have i1 : (0 : Int) ≤ (q : Int) := by omega
          have i2 : (q : Int) < (xn : Int) := by omega
          obtain ⟨a2, rfl, ca⟩ := HX.out.cell q hlt
          obtain ⟨u, hu⟩ : ∃ u, l.getD q 0 = u := ⟨_, rfl⟩
          rw [hu] at ca
          have HUu := hid hu
          clear hu
          by_cases e : u = v
          · have ee : (u == v) = true := by simp [e]
            have HE : Hid (v ∈ l) := by
              have h : q < l.length := by have := HLn.out; omega
              have h2 := HUu.out
              rw [← e, ← h2]
              simp [List.getD, h, Hid]
            clear e
            go_wp2_with fail
            go_ret
            exact ⟨ret_bool (by rw [HD.out]; exact (decide_eq_true HE.out).symm), HB.out⟩
          · have ee : (u == v) = false := by simp [e]
            have HE := hid e
            clear e
            go_wp2_with fail
            go_roundw
            case rel =>
              refine ⟨q + 1, by omega, by go_num, fun j hj => ?_, trivial⟩
              rcases Nat.lt_or_ge j q with r | r
              · exact HU.out j r
              · obtain rfl : j = q := by omega
                show l.getD j 0 ≠ v
                rw [HUu.out]
                exact HE.out
            case measure => simp [intOf]; omega
        · obtain rfl : q = xn := by omega
          have HE : Hid (¬ v ∈ l) := fun h => by
            obtain ⟨j, hj, e⟩ := List.getElem_of_mem h
            exact HU.out j (by have := HLn.out; omega) (by simp [Ii, List.getD, hj, e])
          go_wp2_with fail
          go_ret
          exact ⟨ret_bool (by rw [HD.out]; exact (decide_eq_false HE.out).symm), HB.out⟩
end Go.Proofs.Ytcldnacpddebcaa.Gh
