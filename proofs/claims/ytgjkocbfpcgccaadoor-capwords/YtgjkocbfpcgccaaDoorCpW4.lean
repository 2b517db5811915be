/- What Parse does. -/
import Derived.Test.YtgjkocbfpcgccaaDoorCpW3
namespace Go.Proofs.YtgjkocbfpcgccaaDoor.Cp
open Go.RowKit

/-- The number in the field i. -/
def gp (x : Int) (i : Nat) : Int := getT x (fldAt i) (fldW i)
def parK (x : Int) : K := ⟨gp x 0, gp x 1, gp x 2, gp x 3, gp x 4⟩
/-- The first k of them. -/
def cutK (x : Int) (k : Nat) : K := ⟨if 0 < k then gp x 0 else 0, if 1 < k then gp x 1 else 0, if 2 < k then gp x 2 else 0, if 3 < k then gp x 3 else 0, if 4 < k then gp x 4 else 0⟩
def parB (x : Int) : Bool := okB (parK x) && wordT (parK x) == x
def parC (x : Int) : K := if parB x then parK x else K.zero
def parE (x : Int) : Int := if parB x then 0 else 30

theorem fld_ok (i : Nat) : fld (fldAt i) (fldW i) = true := by
  unfold fldAt fldW
  split <;> rfl
theorem fldW_le (i : Nat) : (fldW i).toNat ≤ 16 := by
  unfold fldW
  split <;> decide
theorem gp_range (x : Int) (i : Nat) : 0 ≤ gp x i ∧ gp x i < 65536 := by
  unfold gp
  rw [getT_yes (fld_ok i)]
  unfold getN
  have h1 : x.toNat / 2 ^ (fldAt i).toNat % 2 ^ (fldW i).toNat < 2 ^ (fldW i).toNat := Nat.mod_lt _ (Nat.two_pow_pos _)
  have h2 : 2 ^ (fldW i).toNat ≤ 2 ^ 16 := Nat.pow_le_pow_right (by omega) (fldW_le i)
  omega

/-- THE FIVE NUMBERS LIE IN A BLOCK THAT MAY BE WRITTEN. -/
structure Own (w : World) (b : Nat) (c : K) : Prop where
  held : In w b c
  f0 : w.frozen? ⟨b, 0, none⟩ = false
  f1 : w.frozen? ⟨b, 1, none⟩ = false
  f2 : w.frozen? ⟨b, 2, none⟩ = false
  f3 : w.frozen? ⟨b, 3, none⟩ = false
  f4 : w.frozen? ⟨b, 4, none⟩ = false
theorem own_new (w : World) (c : K) (T : TypeId) : Own (w.alloc (.cells #[.int .i64 c.t, .int .i64 c.r, .int .i64 c.b, .int .i64 c.o, .int .i64 c.g] T)) w.heap.size c := by
  constructor
  · exact in_new w c T
  all_goals simp
theorem cell_lt {w : World} {a : Addr} {v : Value} (h : w.cell? a = some v) : a.block < w.heap.size := by
  unfold World.cell? at h
  cases hb : w.heap[a.block]? with
  | none => simp [hb] at h
  | some o => exact (Array.getElem?_eq_some_iff.1 hb).1
theorem In.lt {w : World} {b : Nat} {c : K} (h : In w b c) : b < w.heap.size := cell_lt (a := ⟨b, 0, none⟩) h.c0
theorem Own.below {w w' : World} {b : Nat} {c : K} (h : Own w b c) (hb : Below w.heap.size w w') : Own w' b c := {
  held := h.held.below hb
  f0 := (hb.frozen h.held.lt).trans h.f0
  f1 := (hb.frozen h.held.lt).trans h.f1
  f2 := (hb.frozen h.held.lt).trans h.f2
  f3 := (hb.frozen h.held.lt).trans h.f3
  f4 := (hb.frozen h.held.lt).trans h.f4 }
theorem Own.alloc {w : World} {b : Nat} {c : K} (h : Own w b c) (o : Obj) : Own (w.alloc o) b c := h.below (q_alloc (Below.refl _ _) o)

theorem Own.spot {w : World} {b : Nat} {c : K} (h : Own w b c) (k : Nat) (hk : k < 5) : ∃ u, w.cell? ⟨b, k, none⟩ = some u ∧ w.frozen? ⟨b, k, none⟩ = false := by
  have : k = 0 ∨ k = 1 ∨ k = 2 ∨ k = 3 ∨ k = 4 := by omega
  rcases this with rfl | rfl | rfl | rfl | rfl
  · exact ⟨_, h.held.c0, h.f0⟩
  · exact ⟨_, h.held.c1, h.f1⟩
  · exact ⟨_, h.held.c2, h.f2⟩
  · exact ⟨_, h.held.c3, h.f3⟩
  · exact ⟨_, h.held.c4, h.f4⟩
theorem cell_set {w : World} {b i j : Nat} {v u : Value} (h : w.cell? ⟨b, j, none⟩ = some u) : (w.setCell ⟨b, i, none⟩ v).cell? ⟨b, j, none⟩ = some (if i = j then v else u) := by
  by_cases e : i = j
  · subst e
    rw [if_pos rfl]
    exact World.cell?_setCell_same _ _ _ h
  · rw [if_neg e]
    exact (World.cell?_setCell_other _ _ _ _ (fun h => e (congrArg Addr.off h))).trans h
theorem own_setk {w : World} {b k : Nat} {x : Int} (h : Own w b (cutK x k)) (hk : k < 5) : Own (w.setCell ⟨b, k, none⟩ (.int .i64 (gp x k))) b (cutK x (k + 1)) := by
  obtain ⟨⟨h0, h1, h2, h3, h4⟩, g0, g1, g2, g3, g4⟩ := h
  have : k = 0 ∨ k = 1 ∨ k = 2 ∨ k = 3 ∨ k = 4 := by omega
  refine ⟨⟨(cell_set h0).trans ?_, (cell_set h1).trans ?_, (cell_set h2).trans ?_, (cell_set h3).trans ?_, (cell_set h4).trans ?_⟩, by simpa using g0, by simpa using g1, by simpa using g2, by simpa using g3, by simpa using g4⟩
  all_goals (rcases this with rfl | rfl | rfl | rfl | rfl <;> simp [cutK])
theorem Own.far {w : World} {b b' k : Nat} {c : K} {v : Value} (h : Own w b c) (hne : b' ≠ b) : Own (w.setCell ⟨b', k, none⟩ v) b c := by
  obtain ⟨⟨h0, h1, h2, h3, h4⟩, g0, g1, g2, g3, g4⟩ := h
  have e : ∀ j : Nat, (w.setCell ⟨b', k, none⟩ v).cell? ⟨b, j, none⟩ = w.cell? ⟨b, j, none⟩ := fun j => World.cell?_setCell_other _ _ _ _ (fun e => hne (congrArg Addr.block e))
  exact ⟨⟨(e 0).trans h0, (e 1).trans h1, (e 2).trans h2, (e 3).trans h3, (e 4).trans h4⟩, by simpa using g0, by simpa using g1, by simpa using g2, by simpa using g3, by simpa using g4⟩
theorem index_fld (k : Nat) (hk : k < 5) (w : World) : (Instr.index 52 (.agg #[.int .i64 0, .int .i64 4, .int .i64 4, .int .i64 4, .int .i64 8, .int .i64 16, .int .i64 24, .int .i64 10, .int .i64 34, .int .i64 12]) (.int .i64 k)).run Tryd.prog w = .ok (.agg #[.int .i64 (fldAt k), .int .i64 (fldW k)]) w := by
  have : k = 0 ∨ k = 1 ∨ k = 2 ∨ k = 3 ∨ k = 4 := by omega
  rcases this with rfl | rfl | rfl | rfl | rfl <;> simp [Instr.index, go_sem, fldAt, fldW]

theorem Tabs.all {w : World} (h : Tabs w) : w.cell? ⟨0, 0, none⟩ = some (.int .i64 0) ∧ w.cell? ⟨0, 1, none⟩ = some (.int .i64 4) ∧ w.cell? ⟨0, 2, none⟩ = some (.int .i64 4) ∧ w.cell? ⟨0, 3, none⟩ = some (.int .i64 4) ∧ w.cell? ⟨0, 4, none⟩ = some (.int .i64 8) ∧ w.cell? ⟨0, 5, none⟩ = some (.int .i64 16) ∧ w.cell? ⟨0, 6, none⟩ = some (.int .i64 24) ∧ w.cell? ⟨0, 7, none⟩ = some (.int .i64 10) ∧ w.cell? ⟨0, 8, none⟩ = some (.int .i64 34) ∧ w.cell? ⟨0, 9, none⟩ = some (.int .i64 12) := by
  obtain ⟨t, fr, h⟩ := h.f
  simp [World.cell?, h, fldCells]

theorem wrap_i64 {x : Int} (h0 : 0 ≤ x) (h1 : x < 65536) : IntKind.i64.wrap x = x := by
  simp [IntKind.wrap, IntKind.bits, IntKind.signed]
  omega

set_option maxRecDepth 100000 in
set_option maxHeartbeats 2000000 in
theorem parse_any (x : Int) (w : World) (hx : U64 x) (hT : Tabs w) :
    Calls Tryd.prog 11 #[.int .u64 x] w fun e w' => e = .returned (.tuple #[(.agg #[.int .i64 (parC x).t, .int .i64 (parC x).r, .int .i64 (parC x).b, .int .i64 (parC x).o, .int .i64 (parC x).g]), .int .i64 (parE x)]) ∧ Below w.heap.size w w' := by
  have HT : Hid (Tabs w) := hT
  have HX : Hid (U64 x) := hx
  have HO1 : Hid (Own ((w.alloc (.cells #[.int .i64 0, .int .i64 0, .int .i64 0, .int .i64 0, .int .i64 0] 23)).alloc (.cells #[.int .i64 0, .int .i64 0, .int .i64 0, .int .i64 0, .int .i64 0] 48)) w.heap.size K.zero) := (own_new w K.zero 23).alloc _
  have HO2 : Hid (Own ((w.alloc (.cells #[.int .i64 0, .int .i64 0, .int .i64 0, .int .i64 0, .int .i64 0] 23)).alloc (.cells #[.int .i64 0, .int .i64 0, .int .i64 0, .int .i64 0, .int .i64 0] 48)) (w.heap.size + 1) K.zero) := by
    have h := own_new (w.alloc (.cells #[.int .i64 0, .int .i64 0, .int .i64 0, .int .i64 0, .int .i64 0] 23)) K.zero 48
    rw [show (w.alloc (.cells #[.int .i64 0, .int .i64 0, .int .i64 0, .int .i64 0, .int .i64 0] 23)).heap.size = w.heap.size + 1 by simp] at h
    exact h
  have HB0 : Hid (Below w.heap.size w ((w.alloc (.cells #[.int .i64 0, .int .i64 0, .int .i64 0, .int .i64 0, .int .i64 0] 23)).alloc (.cells #[.int .i64 0, .int .i64 0, .int .i64 0, .int .i64 0, .int .i64 0] 48))) := q_alloc (q_alloc (Below.refl _ _) _) _
  obtain ⟨t0, t1, t2, t3, t4, t5, t6, t7, t8, t9⟩ := hT.all
  have hpos : 0 < w.heap.size := cell_lt (a := ⟨0, 0, none⟩) t0
  clear hT hx
  go_enter Tryd.func11, Tryd.ntmps11
  go_wp2_with fail
  go_loopw [11] (fun i wr => ∃ k : Nat, k ≤ 5 ∧ i = .int .i64 k ∧ Hid (Below w.heap.size w wr) ∧ Hid (Own wr w.heap.size K.zero) ∧ Hid (Own wr (w.heap.size + 1) (cutK x k))) (fun i _ => 5 - (intOf i).toNat)
  case atStart => exact ⟨0, by omega, rfl, HB0, HO1, HO2⟩
  case round =>
    obtain ⟨k, hk, rfl, hI, hO1, hO2⟩ := hrel
    by_cases hlt : k < 5
    · have hix := index_fld k hlt
      have i1 : (0 : Int) ≤ (k : Int) := by omega
      have i2 : (k : Int) < 5 := by omega
      obtain ⟨u, hcu, hfu⟩ := hO2.out.spot k hlt
      have hltr := cell_lt (a := ⟨w.heap.size + 1, k, none⟩) hcu
      dsimp only at hltr
      have hg := gp_range x k
      have HG : Hid (gp x k = getT x (fldAt k) (fldW k)) := rfl
      obtain ⟨y, hy⟩ : ∃ y, gp x k = y := ⟨_, rfl⟩
      rw [hy] at hg HG
      have hw64 := wrap_i64 hg.1 hg.2
      have HY : Hid (gp x k = y) := hy
      clear hy
      go_wp2_with (go_at_call 29; refine (get_any _ _ _ _ HX.out).mono ?_; rintro e w' ⟨rfl, rfl⟩; rw [← HG.out])
      exact ⟨⟨k + 1, by omega, by go_num, q_alloc (q_set hI.out (Nat.le_succ _) _) _, (hO1.out.far (by omega)).alloc _, by rw [← HY.out]; exact (own_setk hO2.out hlt).alloc _⟩, by simp [intOf]; omega⟩
    · obtain rfl : k = 5 := by omega
      have h5 : Own wr (w.heap.size + 1) (parK x) := hO2.out
      obtain ⟨⟨d0, d1, d2, d3, d4⟩, _, _, _, _, _⟩ := h5
      go_wp2_with fail
      refine (fromParts_any (parK x) _).mono ?_
      rintro e w1 ⟨rfl, b1⟩
      have HB1 : Hid (Below w.heap.size w w1) := q_trans hI.out b1
      have HZ : Hid (Own w1 w.heap.size K.zero) := hO1.out.below b1
      have HP := in_new w1 (parK x) 23
      clear d0 d1 d2 d3 d4 b1 hI hO1 hO2
      go_wp2_with fail
      cases h1 : okB (parK x) with
      | false =>
        have HR : Hid (parC x = K.zero ∧ parE x = 30) := by simp [Hid, parC, parE, parB, h1]
        have HC : ∀ W : World, Tabs W → Calls Tryd.prog 9 #[(.agg #[.int .i64 (parK x).t, .int .i64 (parK x).r, .int .i64 (parK x).b, .int .i64 (parK x).o, .int .i64 (parK x).g])] W fun e w' => e = .returned (.tuple #[.int .u64 0, .int .i64 30]) ∧ Below W.heap.size W w' := fun W hW => by
          have := word_any (parK x) W hW
          rwa [show wordT (parK x) = 0 by simp [wordT, h1], show chkE (parK x) = 30 by simp [chkE, h1]] at this
        refine (HC _ (HT.out.below (q_alloc HB1.out _))).mono ?_
        rintro e w2 ⟨rfl, b2⟩
        have HB2 : Hid (Below w.heap.size w w2) := q_trans (q_alloc HB1.out _) b2
        obtain ⟨⟨z0, z1, z2, z3, z4⟩, g0, g1, g2, g3, g4⟩ := (HZ.out.alloc _).below b2
        obtain ⟨p0, p1, p2, p3, p4⟩ := HP.below b2
        clear b2 HP HZ HB1 HC
        go_wp2_with fail
        refine bodyPost_ret (v := .tuple #[.agg #[.int .i64 0, .int .i64 0, .int .i64 0, .int .i64 0, .int .i64 0], .int .i64 30]) (by simp [results, Tryd.results11, go_sem, *]) rfl ⟨by rw [HR.out.1, HR.out.2]; rfl, ?_⟩
        exact q_set (q_set (q_set (q_set (q_set HB2.out (Nat.le_refl _) _) (Nat.le_refl _) _) (Nat.le_refl _) _) (Nat.le_refl _) _) (Nat.le_refl _) _
      | true =>
        by_cases h2 : wordT (parK x) = x
        · have HR : Hid (parC x = parK x ∧ parE x = 0) := by simp [Hid, parC, parE, parB, h1, h2]
          have HC : ∀ W : World, Tabs W → Calls Tryd.prog 9 #[(.agg #[.int .i64 (parK x).t, .int .i64 (parK x).r, .int .i64 (parK x).b, .int .i64 (parK x).o, .int .i64 (parK x).g])] W fun e w' => e = .returned (.tuple #[.int .u64 x, .int .i64 0]) ∧ Below W.heap.size W w' := fun W hW => by
            have := word_any (parK x) W hW
            rwa [h2, show chkE (parK x) = 0 by simp [chkE, h1]] at this
          refine (HC _ (HT.out.below (q_alloc HB1.out _))).mono ?_
          rintro e w2 ⟨rfl, b2⟩
          have HB2 : Hid (Below w.heap.size w w2) := q_trans (q_alloc HB1.out _) b2
          obtain ⟨⟨z0, z1, z2, z3, z4⟩, g0, g1, g2, g3, g4⟩ := (HZ.out.alloc _).below b2
          obtain ⟨p0, p1, p2, p3, p4⟩ := HP.below b2
          clear h2 b2 HP HZ HB1 HC
          go_wp2_with fail
          refine bodyPost_ret (v := .tuple #[(.agg #[.int .i64 (parK x).t, .int .i64 (parK x).r, .int .i64 (parK x).b, .int .i64 (parK x).o, .int .i64 (parK x).g]), .int .i64 0]) (by simp [results, Tryd.results11, go_sem, *]) rfl ⟨by rw [HR.out.1, HR.out.2], ?_⟩
          exact q_set (q_set (q_set (q_set (q_set HB2.out (Nat.le_refl _) _) (Nat.le_refl _) _) (Nat.le_refl _) _) (Nat.le_refl _) _) (Nat.le_refl _) _
        · have HR : Hid (parC x = K.zero ∧ parE x = 30) := by simp [Hid, parC, parE, parB, h1, h2]
          have HC : ∀ W : World, Tabs W → Calls Tryd.prog 9 #[(.agg #[.int .i64 (parK x).t, .int .i64 (parK x).r, .int .i64 (parK x).b, .int .i64 (parK x).o, .int .i64 (parK x).g])] W fun e w' => e = .returned (.tuple #[.int .u64 (wordT (parK x)), .int .i64 0]) ∧ Below W.heap.size W w' := fun W hW => by
            have := word_any (parK x) W hW
            rwa [show chkE (parK x) = 0 by simp [chkE, h1]] at this
          refine (HC _ (HT.out.below (q_alloc HB1.out _))).mono ?_
          rintro e w2 ⟨rfl, b2⟩
          have HB2 : Hid (Below w.heap.size w w2) := q_trans (q_alloc HB1.out _) b2
          obtain ⟨⟨z0, z1, z2, z3, z4⟩, g0, g1, g2, g3, g4⟩ := (HZ.out.alloc _).below b2
          obtain ⟨p0, p1, p2, p3, p4⟩ := HP.below b2
          clear b2 HP HZ HB1 HC
          go_wp2_with fail
          refine bodyPost_ret (v := .tuple #[.agg #[.int .i64 0, .int .i64 0, .int .i64 0, .int .i64 0, .int .i64 0], .int .i64 30]) (by simp [results, Tryd.results11, go_sem, *]) rfl ⟨by rw [HR.out.1, HR.out.2]; rfl, ?_⟩
          exact q_set (q_set (q_set (q_set (q_set HB2.out (Nat.le_refl _) _) (Nat.le_refl _) _) (Nat.le_refl _) _) (Nat.le_refl _) _) (Nat.le_refl _) _
end Go.Proofs.YtgjkocbfpcgccaaDoor.Cp
