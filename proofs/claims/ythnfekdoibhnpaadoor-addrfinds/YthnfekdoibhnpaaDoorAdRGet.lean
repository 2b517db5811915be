/- What the document's Get does. -/
import Derived.Test.YthnfekdoibhnpaaDoorAdRParse
import Derived.Deep.RegionHeld3
namespace Go.Proofs.YthnfekdoibhnpaaDoor.Ad
open Go.RowKit
open Cp (K)

theorem getC_no {t : List (List K)} {k : P} (h : slB t k = false) : getC t k = K.zero := by simp [getC, h]
theorem getC_yes {t : List (List K)} {k : P} (h : slB t k = true) : getC t k = slC t k := by simp [getC, h]
/-- A capability's box that may be written. -/
structure Bk (w : World) (b : Nat) (k : K) : Prop where
  c0 : w.cell? ⟨b, 0, none⟩ = some (.int .i64 k.t)
  c1 : w.cell? ⟨b, 1, none⟩ = some (.int .i64 k.r)
  c2 : w.cell? ⟨b, 2, none⟩ = some (.int .i64 k.b)
  c3 : w.cell? ⟨b, 3, none⟩ = some (.int .i64 k.o)
  c4 : w.cell? ⟨b, 4, none⟩ = some (.int .i64 k.g)
  f0 : w.frozen? ⟨b, 0, none⟩ = false
  f1 : w.frozen? ⟨b, 1, none⟩ = false
  f2 : w.frozen? ⟨b, 2, none⟩ = false
  f3 : w.frozen? ⟨b, 3, none⟩ = false
  f4 : w.frozen? ⟨b, 4, none⟩ = false
theorem bk_new (w : World) (k : K) (t : TypeId) : Bk (w.alloc (.cells #[.int .i64 k.t, .int .i64 k.r, .int .i64 k.b, .int .i64 k.o, .int .i64 k.g] t)) w.heap.size k := by constructor <;> simp
theorem Bk.lt {w : World} {b : Nat} {k : K} (h : Bk w b k) : b < w.heap.size := World.block_lt_of_cell? w _ h.c0
theorem Bk.below {w w' : World} {b : Nat} {k : K} (h : Bk w b k) (q : Below w.heap.size w w') : Bk w' b k :=
  ⟨(q.cell (p := ⟨b, 0, none⟩) h.lt).trans h.c0, (q.cell (p := ⟨b, 1, none⟩) h.lt).trans h.c1, (q.cell (p := ⟨b, 2, none⟩) h.lt).trans h.c2, (q.cell (p := ⟨b, 3, none⟩) h.lt).trans h.c3, (q.cell (p := ⟨b, 4, none⟩) h.lt).trans h.c4,
   (q.frozen (p := ⟨b, 0, none⟩) h.lt).trans h.f0, (q.frozen (p := ⟨b, 1, none⟩) h.lt).trans h.f1, (q.frozen (p := ⟨b, 2, none⟩) h.lt).trans h.f2, (q.frozen (p := ⟨b, 3, none⟩) h.lt).trans h.f3, (q.frozen (p := ⟨b, 4, none⟩) h.lt).trans h.f4⟩
/-- What the last row reads, while the answer's box is written. -/
abbrev SG (b : Nat) (o s : Int) (a : Addr) (v : Value) (e : Addr) (k : K) (w : World) : Prop :=
  w.cell? ⟨b, 0, none⟩ = some (.int .i64 o) ∧ w.cell? ⟨b, 1, none⟩ = some (.int .i64 s) ∧ w.cell? a = some v ∧ w.cell? e = some (.int .i64 k.t) ∧ w.cell? ⟨e.block, e.off + 1, none⟩ = some (.int .i64 k.r) ∧ w.cell? ⟨e.block, e.off + 2, none⟩ = some (.int .i64 k.b) ∧ w.cell? ⟨e.block, e.off + 3, none⟩ = some (.int .i64 k.o) ∧ w.cell? ⟨e.block, e.off + 4, none⟩ = some (.int .i64 k.g)
section
variable {b d : Nat} {o s : Int} {a e : Addr} {v : Value} {k : K} {w : World}
theorem sg_drew (h : SG b o s a v e k w) : SG b o s a v e k w.drew := h
theorem sg_put {i : Nat} {u : Value} (h : SG b o s a v e k w) (h1 : b ≠ d) (h2 : a.block ≠ d) (h3 : e.block ≠ d) : SG b o s a v e k (w.setCell ⟨d, i, none⟩ u) := by
  have g : ∀ (p : Addr) (x : Value), p.block ≠ d → w.cell? p = some x → (w.setCell ⟨d, i, none⟩ u).cell? p = some x := fun p x hp hx => (World.cell?_setCell_other w _ _ u (by intro q; exact hp (congrArg Addr.block q).symm)).trans hx
  exact ⟨g _ _ h1 h.1, g _ _ h1 h.2.1, g _ _ h2 h.2.2.1, g _ _ h3 h.2.2.2.1, g _ _ h3 h.2.2.2.2.1, g _ _ h3 h.2.2.2.2.2.1, g _ _ h3 h.2.2.2.2.2.2.1, g _ _ h3 h.2.2.2.2.2.2.2⟩
theorem sg_five {u0 u1 u2 u3 u4 : Value} (h : SG b o s a v e k w) (h1 : b ≠ d) (h2 : a.block ≠ d) (h3 : e.block ≠ d) : SG b o s a v e k (((((w.setCell ⟨d, 0, none⟩ u0).setCell ⟨d, 1, none⟩ u1).setCell ⟨d, 2, none⟩ u2).setCell ⟨d, 3, none⟩ u3).setCell ⟨d, 4, none⟩ u4) :=
  sg_put (sg_put (sg_put (sg_put (sg_put h h1 h2 h3) h1 h2 h3) h1 h2 h3) h1 h2 h3) h1 h2 h3
end
theorem low5 {w W : World} {d : Nat} {u0 u1 u2 u3 u4 : Value} (h : Below w.heap.size w W) (hd : w.heap.size ≤ d) : Below w.heap.size w (((((W.setCell ⟨d, 0, none⟩ u0).setCell ⟨d, 1, none⟩ u1).setCell ⟨d, 2, none⟩ u2).setCell ⟨d, 3, none⟩ u3).setCell ⟨d, 4, none⟩ u4) :=
  q_set (q_set (q_set (q_set (q_set h hd _) hd _) hd _) hd _) hd _
theorem at_two (w : World) (o s : Int) (X T : TypeId) (k : K) : AtP ((w.alloc (.cells #[.int .i64 o, .int .i64 s] T)).alloc (.cells #[.int .i64 k.t, .int .i64 k.r, .int .i64 k.b, .int .i64 k.o, .int .i64 k.g] X)) ⟨w.heap.size, 0, none⟩ (o, s) := (at_new w (o, s) T).below (alloc_below _ _)
theorem bk_two (w : World) (o s : Int) (X T : TypeId) (k : K) : Bk ((w.alloc (.cells #[.int .i64 o, .int .i64 s] T)).alloc (.cells #[.int .i64 k.t, .int .i64 k.r, .int .i64 k.b, .int .i64 k.o, .int .i64 k.g] X)) (w.heap.size + 1) k := by
  have := bk_new (w.alloc (.cells #[.int .i64 o, .int .i64 s] T)) k X
  simpa using this
set_option maxRecDepth 100000 in
set_option maxHeartbeats 2000000 in
theorem rGet_yes (a : Addr) (x : Option Addr) (n cap c o s : Nat) (t : List (List K)) (w : World) (HH : Hid (HasN w (some a) n cap t)) (h2 : o < n) (h5 : s < 8) (i2 : (o : Int) < (n : Int)) (i5 : (s : Int) < 8)
    (HS : Hid (slB t ((o : Int), (s : Int)) = true)) (hc : ((w.alloc (.cells #[.int .i64 o, .int .i64 s] 43)).alloc (.cells #[.int .i64 0, .int .i64 0, .int .i64 0, .int .i64 0, .int .i64 0] 41)).cell? (a.add o) = some (.slice x 8 c))
    (hk : HasK ((w.alloc (.cells #[.int .i64 o, .int .i64 s] 43)).alloc (.cells #[.int .i64 0, .int .i64 0, .int .i64 0, .int .i64 0, .int .i64 0] 41)) x 8 c (t.getD o [])) :
    Calls Tryd.prog 22 #[.slice (some a) n cap, .agg #[.int .i64 o, .int .i64 s]] w fun e w' => e = .returned (.tuple #[(.agg #[.int .i64 (getC t ((o : Int), (s : Int))).t, .int .i64 (getC t ((o : Int), (s : Int))).r, .int .i64 (getC t ((o : Int), (s : Int))).b, .int .i64 (getC t ((o : Int), (s : Int))).o, .int .i64 (getC t ((o : Int), (s : Int))).g]), .bool (slB t ((o : Int), (s : Int)))]) ∧ Below w.heap.size w w' := by
  obtain ⟨b, rfl, ck⟩ := hk.at s h5
  generalize hd : (t.getD o []).getD s K.zero = d at ck
  have HD : Hid (getC t ((o : Int), (s : Int)) = d) := by unfold Hid; rw [getC_yes HS.out, ← hd]; rfl
  obtain ⟨c0, c1, c2, c3, c4⟩ := ck
  have HLa : Hid (a.block < w.heap.size) := by
    obtain ⟨a2, x2, m2, c2, e2, hc2, _⟩ := HH.out.cell o h2
    cases e2
    have := World.block_lt_of_cell? w _ hc2
    rwa [add_block] at this
  have HLb : Hid (b.block < w.heap.size) := by
    obtain ⟨a2, x2, m2, c2, e2, hc2, hk2⟩ := HH.out.cell o h2
    cases e2
    have hw2 := ((q_alloc (alloc_below w (.cells #[.int .i64 o, .int .i64 s] 43)) (.cells #[.int .i64 0, .int .i64 0, .int .i64 0, .int .i64 0, .int .i64 0] 41)).cell (World.block_lt_of_cell? w _ hc2)).trans hc2
    rw [hc] at hw2
    cases hw2
    obtain ⟨b2, e2, ck2⟩ := hk2.at s h5
    cases e2
    have := ck2.lt
    rwa [add_block] at this
  have A0 := hid (at_two w o s 41 43 K.zero)
  have A1 : Hid (Bk ((w.alloc (.cells #[.int .i64 o, .int .i64 s] 43)).alloc (.cells #[.int .i64 0, .int .i64 0, .int .i64 0, .int .i64 0, .int .i64 0] 41)) (w.heap.size + 1) K.zero) := bk_two w o s 41 43 K.zero
  have B0 := hid (q_alloc (alloc_below w (.cells #[.int .i64 o, .int .i64 s] 43)) (.cells #[.int .i64 0, .int .i64 0, .int .i64 0, .int .i64 0, .int .i64 0] 41))
  clear hd hk
  go_enter Tryd.func22, Tryd.ntmps22
  go_wp2_with fail
  have hS : SG w.heap.size o s (a.add o) (.slice (some b) 8 c) (b.add (s * 5)) d ((w.alloc (.cells #[.int .i64 o, .int .i64 s] 43)).alloc (.cells #[.int .i64 0, .int .i64 0, .int .i64 0, .int .i64 0, .int .i64 0] 41)) := ⟨A0.out.c0, A0.out.c1, hc, c0, c1, c2, c3, c4⟩
  obtain ⟨r0, r1, r2, r3, r4, f0, f1, f2, f3, f4⟩ := A1.out
  have n1 : w.heap.size ≠ w.heap.size + 1 := by omega
  have n2 : (a.add o).block ≠ w.heap.size + 1 := by rw [add_block]; have := HLa.out; omega
  have n3 : (b.add (s * 5)).block ≠ w.heap.size + 1 := by rw [add_block]; have := HLb.out; omega
  replace n1 := hid n1
  replace n2 := hid n2
  replace n3 := hid n3
  clear hc c0 c1 c2 c3 c4 A0 A1
  generalize (w.alloc (.cells #[.int .i64 o, .int .i64 s] 43)).alloc (.cells #[.int .i64 0, .int .i64 0, .int .i64 0, .int .i64 0, .int .i64 0] 41) = W at *
  go_region_held3 (SG w.heap.size o s (a.add o) (.slice (some b) 8 c) (b.add (s * 5)) d) (first | with_reducible assumption | with_reducible exact sg_drew hS | with_reducible exact sg_drew (sg_five hS n1.out n2.out n3.out) | with_reducible exact sg_five (sg_drew hS) n1.out n2.out n3.out) (fail)
  all_goals go_wp2_with fail
  all_goals refine bodyPost_ret (v := .tuple #[(.agg #[.int .i64 d.t, .int .i64 d.r, .int .i64 d.b, .int .i64 d.o, .int .i64 d.g]), .bool true]) (by simp [results, Tryd.results22, go_sem, *]) rfl ⟨by rw [HS.out, HD.out], ?_⟩
  all_goals first | exact low5 B0.out.drew (Nat.le_succ _) | exact (low5 B0.out (Nat.le_succ _)).drew
set_option maxRecDepth 100000 in
set_option maxHeartbeats 2000000 in
theorem rGet_any (to : Option Addr) (n cap : Nat) (t : List (List K)) (k : P) (w : World) (HH : Hid (HasN w to n cap t)) :
    Calls Tryd.prog 22 #[.slice to n cap, (.agg #[.int .i64 k.1, .int .i64 k.2])] w fun e w' => e = .returned (.tuple #[(.agg #[.int .i64 (getC t k).t, .int .i64 (getC t k).r, .int .i64 (getC t k).b, .int .i64 (getC t k).o, .int .i64 (getC t k).g]), .bool (slB t k)]) ∧ Below w.heap.size w w' := by
  have HL := hid HH.out.len
  obtain ⟨o, s⟩ := k
  by_cases h1 : 0 ≤ o
  · obtain ⟨o, rfl⟩ := Int.eq_ofNat_of_zero_le h1
    by_cases h2 : o < n
    · obtain ⟨a, x, m, c, rfl, hc, hk⟩ := (HH.out.below (q_alloc (alloc_below w (.cells #[.int .i64 o, .int .i64 s] 43)) (.cells #[.int .i64 0, .int .i64 0, .int .i64 0, .int .i64 0, .int .i64 0] 41))).cell o h2
      have HM := hid hk.len
      have i2 : (o : Int) < (n : Int) := by omega
      by_cases h3 : m = 8
      · subst h3
        by_cases h4 : 0 ≤ s
        · obtain ⟨s, rfl⟩ := Int.eq_ofNat_of_zero_le h4
          by_cases h5 : s < 8
          · have i5 : (s : Int) < 8 := by omega
            have HS : Hid (slB t ((o : Int), (s : Int)) = true) := slB_iff.2 ⟨by omega, by have := HL.out; omega, by simpa using HM.out.symm, by omega, by omega⟩
            exact rGet_yes a x n cap c o s t w HH h2 h5 i2 i5 HS hc hk
          · have HS : Hid (slB t ((o : Int), (s : Int)) = false) := slB_not.2 (by simp only; omega)
            have i5 : ¬ (s : Int) < 8 := by omega
            clear hk
            go_enter Tryd.func22, Tryd.ntmps22
            go_wp2_with fail
            refine bodyPost_ret (v := .tuple #[.agg #[.int .i64 0, .int .i64 0, .int .i64 0, .int .i64 0, .int .i64 0], .bool false]) (by simp [results, Tryd.results22, go_sem]) rfl ⟨by rw [HS.out, getC_no HS.out]; rfl, ?_⟩
            exact q_alloc (alloc_below _ _) _
        · have HS : Hid (slB t ((o : Int), s) = false) := slB_not.2 (by simp only; omega)
          clear hk
          go_enter Tryd.func22, Tryd.ntmps22
          go_wp2_with fail
          refine bodyPost_ret (v := .tuple #[.agg #[.int .i64 0, .int .i64 0, .int .i64 0, .int .i64 0, .int .i64 0], .bool false]) (by simp [results, Tryd.results22, go_sem]) rfl ⟨by rw [HS.out, getC_no HS.out]; rfl, ?_⟩
          exact q_alloc (alloc_below _ _) _
      · have HS : Hid (slB t ((o : Int), s) = false) := slB_not.2 (by simp only; rintro ⟨_, _, q, _⟩; have := HM.out; simp at q this; omega)
        have i3 : ((m : Int) != 8) = true := by rw [bne_iff_ne]; omega
        clear hk h3
        go_enter Tryd.func22, Tryd.ntmps22
        go_wp2_with fail
        refine bodyPost_ret (v := .tuple #[.agg #[.int .i64 0, .int .i64 0, .int .i64 0, .int .i64 0, .int .i64 0], .bool false]) (by simp [results, Tryd.results22, go_sem]) rfl ⟨by rw [HS.out, getC_no HS.out]; rfl, ?_⟩
        exact q_alloc (alloc_below _ _) _
    · have HS : Hid (slB t ((o : Int), s) = false) := slB_not.2 (by simp only; have := HL.out; omega)
      have i2 : ¬ (o : Int) < (n : Int) := by omega
      go_enter Tryd.func22, Tryd.ntmps22
      go_wp2_with fail
      refine bodyPost_ret (v := .tuple #[.agg #[.int .i64 0, .int .i64 0, .int .i64 0, .int .i64 0, .int .i64 0], .bool false]) (by simp [results, Tryd.results22, go_sem]) rfl ⟨by rw [HS.out, getC_no HS.out]; rfl, ?_⟩
      exact q_alloc (alloc_below _ _) _
  · have HS : Hid (slB t (o, s) = false) := slB_not.2 (by simp only; omega)
    go_enter Tryd.func22, Tryd.ntmps22
    go_wp2_with fail
    refine bodyPost_ret (v := .tuple #[.agg #[.int .i64 0, .int .i64 0, .int .i64 0, .int .i64 0, .int .i64 0], .bool false]) (by simp [results, Tryd.results22, go_sem]) rfl ⟨by rw [HS.out, getC_no HS.out]; rfl, ?_⟩
    exact q_alloc (alloc_below _ _) _
end Go.Proofs.YthnfekdoibhnpaaDoor.Ad
