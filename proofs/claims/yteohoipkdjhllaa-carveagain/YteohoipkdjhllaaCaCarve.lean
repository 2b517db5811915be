/- What Carve does: the program's, the document's. -/
import Derived.Test.YteohoipkdjhllaaCaIn
import Derived.Laws.NewBlocks
import Derived.Deep.RegionHeld3
namespace Go.Proofs.Yteohoipkdjhllaa.Ca
open Go.RowKit

/-- An extent in a box that may be written. -/
structure Bx (w : World) (b : Nat) (x : X) : Prop where
  c0 : w.cell? ⟨b, 0, none⟩ = some (.int .i64 x.1)
  c1 : w.cell? ⟨b, 1, none⟩ = some (.int .i64 x.2)
  f0 : w.frozen? ⟨b, 0, none⟩ = false
  f1 : w.frozen? ⟨b, 1, none⟩ = false
theorem Bx.lt {w : World} {b : Nat} {x : X} (h : Bx w b x) : b < w.heap.size := World.block_lt_of_cell? w _ h.c0
theorem Bx.below {w w' : World} {b : Nat} {x : X} (h : Bx w b x) (k : Below w.heap.size w w') : Bx w' b x :=
  ⟨(k.cell (p := ⟨b, 0, none⟩) h.lt).trans h.c0, (k.cell (p := ⟨b, 1, none⟩) h.lt).trans h.c1, (k.frozen (p := ⟨b, 0, none⟩) h.lt).trans h.f0, (k.frozen (p := ⟨b, 1, none⟩) h.lt).trans h.f1⟩
theorem bx_new (w : World) (x : X) (t : TypeId) : Bx (w.alloc (.cells #[.int .i64 x.1, .int .i64 x.2] t)) w.heap.size x := by constructor <;> simp
theorem bx_two (w : World) (x y : X) (t : TypeId) : Bx ((w.alloc (.cells #[.int .i64 x.1, .int .i64 x.2] t)).alloc (.cells #[.int .i64 y.1, .int .i64 y.2] t)) w.heap.size x ∧ Bx ((w.alloc (.cells #[.int .i64 x.1, .int .i64 x.2] t)).alloc (.cells #[.int .i64 y.1, .int .i64 y.2] t)) (w.heap.size + 1) y := by
  refine ⟨(bx_new w x t).below (alloc_below _ _), ?_⟩
  have := bx_new (w.alloc (.cells #[.int .i64 x.1, .int .i64 x.2] t)) y t
  simpa using this
theorem Bx.atX {w : World} {b : Nat} {x : X} (h : Bx w b x) : AtX w ⟨b, 0, none⟩ x := ⟨h.c0, h.c1⟩
section
variable {w : World}
theorem is_check {x : X} {r : Int} (h : chk x = r) : Calls Try.prog 12 #[(.agg #[.int .i64 x.1, .int .i64 x.2])] w fun e w' => e = .returned (.int .i64 r) ∧ Below w.heap.size w w' := by
  refine (check_any x w).mono ?_
  rintro e w' ⟨rfl, g⟩
  exact ⟨by rw [h], g.below⟩
theorem is_inside {a b : X} {r : Bool} (h : inB a b = r) : Calls Try.prog 16 #[(.agg #[.int .i64 a.1, .int .i64 a.2]), (.agg #[.int .i64 b.1, .int .i64 b.2])] w fun e w' => e = .returned (.bool r) ∧ Below w.heap.size w w' := h ▸ inside_any a b w
theorem is_rinside {a b : X} {r : Bool} (h : inB a b = r) : Calls Try.prog 17 #[(.agg #[.int .i64 a.1, .int .i64 a.2]), (.agg #[.int .i64 b.1, .int .i64 b.2])] w fun e w' => e = .returned (.bool r) ∧ Below w.heap.size w w' := h ▸ rinside_any a b w
theorem is_meet {a b : X} {r : Bool} (h : meB a b = r) : Calls Try.prog 18 #[(.agg #[.int .i64 a.1, .int .i64 a.2]), (.agg #[.int .i64 b.1, .int .i64 b.2])] w fun e w' => e = .returned (.bool r) ∧ Below w.heap.size w w' := h ▸ meet_any a b w
theorem is_rmeet {a b : X} {r : Bool} (h : meB a b = r) : Calls Try.prog 19 #[(.agg #[.int .i64 a.1, .int .i64 a.2]), (.agg #[.int .i64 b.1, .int .i64 b.2])] w fun e w' => e = .returned (.bool r) ∧ Below w.heap.size w w' := h ▸ rmeet_any a b w
end
/-- What the last row reads, while the result's box is written. -/
abbrev SC (bx c : Nat) (x y s : Int) (w : World) : Prop := w.cell? ⟨bx, 0, none⟩ = some (.int .i64 x) ∧ w.cell? ⟨c, 0, none⟩ = some (.int .i64 y) ∧ w.cell? ⟨c, 1, none⟩ = some (.int .i64 s)
theorem sc_keep {bx c : Nat} {x y s : Int} {w w' : World} (hb : Below w.heap.size w w') (h : SC bx c x y s w) : SC bx c x y s w' :=
  ⟨(hb.cell (World.block_lt_of_cell? w _ h.1)).trans h.1, (hb.cell (World.block_lt_of_cell? w _ h.2.1)).trans h.2.1, (hb.cell (World.block_lt_of_cell? w _ h.2.2)).trans h.2.2⟩
theorem sc_drew {bx c : Nat} {x y s : Int} {w : World} (h : SC bx c x y s w) : SC bx c x y s w.drew := h
theorem sc_put {bx c d i : Nat} {x y s : Int} {w : World} {u : Value} (h : SC bx c x y s w) (h1 : bx ≠ d) (h2 : c ≠ d) : SC bx c x y s (w.setCell ⟨d, i, none⟩ u) :=
  ⟨(World.cell?_setCell_other w _ _ u (by intro e; exact h1 (congrArg Addr.block e).symm)).trans h.1, (World.cell?_setCell_other w _ _ u (by intro e; exact h2 (congrArg Addr.block e).symm)).trans h.2.1, (World.cell?_setCell_other w _ _ u (by intro e; exact h2 (congrArg Addr.block e).symm)).trans h.2.2⟩
theorem sc_two {bx c d : Nat} {x y s : Int} {w : World} {u v : Value} (h : SC bx c x y s w) (h1 : bx ≠ d) (h2 : c ≠ d) : SC bx c x y s ((w.setCell ⟨d, 0, none⟩ u).setCell ⟨d, 1, none⟩ v) := sc_put (sc_put h h1 h2) h1 h2
/-- The same of one number. -/
abbrev S1 (b : Nat) (x : Int) (w : World) : Prop := w.cell? ⟨b, 0, none⟩ = some (.int .i64 x)
theorem s1_two {b d : Nat} {x : Int} {w : World} {u v : Value} (h : S1 b x w) (h1 : b ≠ d) : S1 b x ((w.setCell ⟨d, 0, none⟩ u).setCell ⟨d, 1, none⟩ v) :=
  (World.cell?_setCell_other _ _ _ v (by intro e; exact h1 (congrArg Addr.block e).symm)).trans ((World.cell?_setCell_other w _ _ u (by intro e; exact h1 (congrArg Addr.block e).symm)).trans h)
theorem s1_drew {b : Nat} {x : Int} {w : World} (h : S1 b x w) : S1 b x w.drew := h
theorem chk_yes {x : X} (h : okX x = true) : chk x = 0 := by simp [chk, h]
theorem chk_no {x : X} (h : okX x = false) : chk x = 2 := by simp [chk, h]
theorem ret_cv {x y : X} {u v e f : Int} (h1 : x = y) (h2 : u = v) (h3 : e = f) : Ending.returned (.tuple #[(.agg #[.int .i64 x.1, .int .i64 x.2]), .int .i64 u, .int .i64 e]) = .returned (.tuple #[(.agg #[.int .i64 y.1, .int .i64 y.2]), .int .i64 v, .int .i64 f]) := by rw [h1, h2, h3]

set_option maxRecDepth 100000 in
set_option maxHeartbeats 2000000 in
theorem carve_any (x : X) (v s : Int) (w : World) :
    Calls Try.prog 21 #[(.agg #[.int .i64 x.1, .int .i64 x.2]), .int .i64 v, .int .i64 s] w fun e w' => e = .returned (.tuple #[(.agg #[.int .i64 (cvX x v s).1, .int .i64 (cvX x v s).2]), .int .i64 (cvW x v s), .int .i64 (cvE x v s)]) ∧ Below w.heap.size w w' := by
  cases hx : okX x with
  | false =>
    have HR := hid (cv_arg (x := x) (w := v) (s := s) (by simp [argB, hx]))
    have HC := hid (chk_no hx)
    clear hx
    go_enter Try.func21, Try.ntmps21
    go_wp2_with fail
    have A0 := hid (bx_two w x (0, 0) 23)
    have B0 := hid (q_alloc (alloc_below w (.cells #[.int .i64 x.1, .int .i64 x.2] 23)) (.cells #[.int .i64 0, .int .i64 0] 23))
    refine (is_check HC.out).mono ?_
    rintro e w1 ⟨rfl, b1⟩
    have A1 := hid (A0.out.1.below b1)
    have A2 := hid (A0.out.2.below b1)
    have B1 := hid (q_trans B0.out b1)
    obtain ⟨p0, p1, p2, p3⟩ := A1.out
    obtain ⟨r0, r1, r2, r3⟩ := A2.out
    have n1 : w.heap.size < w1.heap.size := A1.out.lt
    have n2 : w.heap.size + 1 < w1.heap.size := A2.out.lt
    clear b1 A0 B0
    go_wp2_with fail
    refine bodyPost_ret (v := .tuple #[.agg #[.int .i64 0, .int .i64 0], .int .i64 v, .int .i64 2]) (by simp [results, Try.results21, go_sem, *]) rfl ⟨ret_cv HR.out.2.1.symm HR.out.2.2.symm HR.out.1.symm, ?_⟩
    exact q_set (q_set B1.out (Nat.le_succ _) _) (Nat.le_succ _) _
  | true =>
    have HC := hid (chk_yes hx)
    cases hp : pw s with
    | false =>
      have HR := hid (cv_arg (x := x) (w := v) (s := s) (by simp [argB, hp]))
      have hc := fun W => isSize_is hp W
      clear hx hp
      go_enter Try.func21, Try.ntmps21
      go_wp2_with fail
      have A0 := hid (bx_two w x (0, 0) 23)
      have B0 := hid (q_alloc (alloc_below w (.cells #[.int .i64 x.1, .int .i64 x.2] 23)) (.cells #[.int .i64 0, .int .i64 0] 23))
      refine (is_check HC.out).mono ?_
      rintro e w1 ⟨rfl, b1⟩
      have A1 := hid (A0.out.1.below b1)
      have A2 := hid (A0.out.2.below b1)
      have B1 := hid (q_trans B0.out b1)
      obtain ⟨p0, p1, p2, p3⟩ := A1.out
      obtain ⟨r0, r1, r2, r3⟩ := A2.out
      have n1 : w.heap.size < w1.heap.size := A1.out.lt
      have n2 : w.heap.size + 1 < w1.heap.size := A2.out.lt
      clear b1 A0 B0
      go_wp2_with (go_at_call 28; refine (hc _).mono ?_; rintro e w2 ⟨rfl, hw⟩; rw [hw]; clear hw w2)
      refine bodyPost_ret (v := .tuple #[.agg #[.int .i64 0, .int .i64 0], .int .i64 v, .int .i64 2]) (by simp [results, Try.results21, go_sem, *]) rfl ⟨ret_cv HR.out.2.1.symm HR.out.2.2.symm HR.out.1.symm, ?_⟩
      exact q_set (q_set B1.out (Nat.le_succ _) _) (Nat.le_succ _) _
    | true =>
      have hc := fun W => isSize_is hp W
      by_cases h0 : 0 ≤ v
      · by_cases h1 : v ≤ x.2
        · have ha : argB x v s = true := arg_iff.2 ⟨hx, hp, h0, h1⟩
          have q1 := ok_iff.1 hx
          obtain ⟨q1, q2, q3⟩ := q1
          have q4 := pw_range hp
          obtain ⟨q4, q5⟩ := q4
          obtain ⟨z1, z2, z3⟩ := al_is (arg_at ha) hp
          have z4 := at_iff.1 (al_at (arg_at ha) hp)
          obtain ⟨z4, z5⟩ := z4
          have HI := hid (fit_in ha)
          cases hf : fitB x v s with
          | false =>
            have HR := hid (cv_full ha hf)
            rw [hf] at HI
            have HAL := hid (fun W => align_any (x.1 + v) s W)
            clear hx hp ha hf z1
            generalize alV (x.1 + v) s = y at z2 z3 z4 z5 HI HAL
            go_enter Try.func21, Try.ntmps21
            go_wp2_with fail
            have A0 := hid (bx_two w x (0, 0) 23)
            have B0 := hid (q_alloc (alloc_below w (.cells #[.int .i64 x.1, .int .i64 x.2] 23)) (.cells #[.int .i64 0, .int .i64 0] 23))
            refine (is_check HC.out).mono ?_
            rintro e w1 ⟨rfl, b1⟩
            have A1 := hid (A0.out.1.below b1)
            have A2 := hid (A0.out.2.below b1)
            have B1 := hid (q_trans B0.out b1)
            obtain ⟨p0, p1, p2, p3⟩ := A1.out
            obtain ⟨r0, r1, r2, r3⟩ := A2.out
            have n1 : w.heap.size < w1.heap.size := A1.out.lt
            have n2 : w.heap.size + 1 < w1.heap.size := A2.out.lt
            clear b1 A0 B0
            go_wp2_with (first | (go_at_call 28; refine (hc _).mono ?_; rintro e w2 ⟨rfl, hw⟩; rw [hw]; clear hw w2) | (go_at_call 14; refine (HAL.out _).mono ?_; rintro e w2 ⟨rfl, hw⟩; rw [hw]; clear hw w2) | fail)
            refine (is_inside HI.out).mono ?_
            rintro e w3 ⟨rfl, b3⟩
            have A3 := hid ((A2.out.below (alloc_below w1 (.cells #[.int .i64 y, .int .i64 s] 23))).below b3)
            have B3 := hid (q_trans (q_alloc B1.out (.cells #[.int .i64 y, .int .i64 s] 23)) b3)
            clear p0 p1 p2 p3 r0 r1 r2 r3 b3
            obtain ⟨r0, r1, r2, r3⟩ := A3.out
            go_wp2_with fail
            refine bodyPost_ret (v := .tuple #[.agg #[.int .i64 0, .int .i64 0], .int .i64 v, .int .i64 5]) (by simp [results, Try.results21, go_sem, *]) rfl ⟨ret_cv HR.out.2.1.symm HR.out.2.2.symm HR.out.1.symm, ?_⟩
            exact q_set (q_set B3.out (Nat.le_succ _) _) (Nat.le_succ _) _
          | true =>
            have HR := hid (cv_yes ha hf)
            have HF : Hid (okX (alV (x.1 + v) s, s) = true) := by
              have := fit_in ha
              rw [hf] at this
              exact (in_iff.1 this).1
            have z6 : alV (x.1 + v) s + s ≤ x.1 + x.2 := by simpa [fitB] using hf
            rw [hf] at HI
            have HAL := hid (fun W => align_any (x.1 + v) s W)
            clear hx hp ha hf z1
            generalize alV (x.1 + v) s = y at z2 z3 z4 z5 z6 HI HAL HR HF
            go_enter Try.func21, Try.ntmps21
            go_wp2_with fail
            have A0 := hid (bx_two w x (0, 0) 23)
            have B0 := hid (q_alloc (alloc_below w (.cells #[.int .i64 x.1, .int .i64 x.2] 23)) (.cells #[.int .i64 0, .int .i64 0] 23))
            refine (is_check HC.out).mono ?_
            rintro e w1 ⟨rfl, b1⟩
            have A1 := hid (A0.out.1.below b1)
            have A2 := hid (A0.out.2.below b1)
            have B1 := hid (q_trans B0.out b1)
            obtain ⟨p0, p1, p2, p3⟩ := A1.out
            obtain ⟨r0, r1, r2, r3⟩ := A2.out
            have n1 : w.heap.size < w1.heap.size := A1.out.lt
            have n2 : w.heap.size + 1 < w1.heap.size := A2.out.lt
            clear b1 A0 B0
            go_wp2_with (first | (go_at_call 28; refine (hc _).mono ?_; rintro e w2 ⟨rfl, hw⟩; rw [hw]; clear hw w2) | (go_at_call 14; refine (HAL.out _).mono ?_; rintro e w2 ⟨rfl, hw⟩; rw [hw]; clear hw w2) | fail)
            refine (is_inside HI.out).mono ?_
            rintro e w3 ⟨rfl, b3⟩
            have A3 := hid ((A2.out.below (alloc_below w1 (.cells #[.int .i64 y, .int .i64 s] 23))).below b3)
            have A4 := hid ((A1.out.below (alloc_below w1 (.cells #[.int .i64 y, .int .i64 s] 23))).below b3)
            have A5 := hid ((bx_new w1 (y, s) 23).below b3)
            have B3 := hid (q_trans (q_alloc B1.out (.cells #[.int .i64 y, .int .i64 s] 23)) b3)
            clear p0 p1 p2 p3 r0 r1 r2 r3 b3 A1 A2 B1
            obtain ⟨r0, r1, r2, r3⟩ := A3.out
            obtain ⟨p0, p1, p2, p3⟩ := A4.out
            obtain ⟨s0, s1, s2, s3⟩ := A5.out
            go_wp2_with fail
            have hS : SC w.heap.size w1.heap.size x.1 y s w3 := ⟨p0, s0, s1⟩
            have ne1 : w.heap.size ≠ w.heap.size + 1 := by omega
            have ne2 : w1.heap.size ≠ w.heap.size + 1 := by omega
            have hwr : IntKind.i64.wrap (y + s - x.1) = y + s - x.1 := by rw [IntKind.wrap_i64]; omega
            clear r0 r1 r2 r3
            go_region_held3 (SC w.heap.size w1.heap.size x.1 y s) (first | with_reducible assumption | with_reducible exact sc_two HS4.out ne1 ne2 | with_reducible exact HS4.out | with_reducible exact sc_drew hS)
              (first | (go_at_call 31; refine (is_end HF.out).mono ?_; rintro e w4 ⟨rfl, b⟩; have HB4 : Hid (Below w3.heap.size w3 w4) := (by first | exact b | exact q_trans (Below.refl _ w3).drew b); have HS4 : Hid (SC w.heap.size w1.heap.size x.1 y s w4) := (sc_keep HB4.out hS); have A6 := hid (A3.out.below HB4.out); obtain ⟨t0, t1, t2, t3⟩ := A6.out) | fail)
            all_goals go_wp2_with fail
            all_goals refine bodyPost_ret (v := .tuple #[.agg #[.int .i64 y, .int .i64 s], .int .i64 (y + s - x.1), .int .i64 0]) (by simp [results, Try.results21, go_sem, *]) rfl ⟨ret_cv (x := (y, s)) HR.out.2.1.symm HR.out.2.2.symm HR.out.1.symm, ?_⟩
            all_goals exact q_set (q_set (q_trans B3.out HB4.out) (Nat.le_succ _) _) (Nat.le_succ _) _
        · have HR := hid (cv_arg (x := x) (w := v) (s := s) (by simp [argB, h1]))
          have d1 : decide (x.2 < v) = true := by simp; omega
          clear hx hp
          go_enter Try.func21, Try.ntmps21
          go_wp2_with fail
          have A0 := hid (bx_two w x (0, 0) 23)
          have B0 := hid (q_alloc (alloc_below w (.cells #[.int .i64 x.1, .int .i64 x.2] 23)) (.cells #[.int .i64 0, .int .i64 0] 23))
          refine (is_check HC.out).mono ?_
          rintro e w1 ⟨rfl, b1⟩
          have A1 := hid (A0.out.1.below b1)
          have A2 := hid (A0.out.2.below b1)
          have B1 := hid (q_trans B0.out b1)
          obtain ⟨p0, p1, p2, p3⟩ := A1.out
          obtain ⟨r0, r1, r2, r3⟩ := A2.out
          have n1 : w.heap.size < w1.heap.size := A1.out.lt
          have n2 : w.heap.size + 1 < w1.heap.size := A2.out.lt
          clear b1 A0 B0
          go_wp2_with (go_at_call 28; refine (hc _).mono ?_; rintro e w2 ⟨rfl, hw⟩; rw [hw]; clear hw w2)
          refine bodyPost_ret (v := .tuple #[.agg #[.int .i64 0, .int .i64 0], .int .i64 v, .int .i64 2]) (by simp [results, Try.results21, go_sem, *]) rfl ⟨ret_cv HR.out.2.1.symm HR.out.2.2.symm HR.out.1.symm, ?_⟩
          exact q_set (q_set B1.out (Nat.le_succ _) _) (Nat.le_succ _) _
      · have HR := hid (cv_arg (x := x) (w := v) (s := s) (by simp [argB, h0]))
        have d0 : v < 0 := by omega
        clear hx hp
        go_enter Try.func21, Try.ntmps21
        go_wp2_with fail
        have A0 := hid (bx_two w x (0, 0) 23)
        have B0 := hid (q_alloc (alloc_below w (.cells #[.int .i64 x.1, .int .i64 x.2] 23)) (.cells #[.int .i64 0, .int .i64 0] 23))
        refine (is_check HC.out).mono ?_
        rintro e w1 ⟨rfl, b1⟩
        have A1 := hid (A0.out.1.below b1)
        have A2 := hid (A0.out.2.below b1)
        have B1 := hid (q_trans B0.out b1)
        obtain ⟨p0, p1, p2, p3⟩ := A1.out
        obtain ⟨r0, r1, r2, r3⟩ := A2.out
        have n1 : w.heap.size < w1.heap.size := A1.out.lt
        have n2 : w.heap.size + 1 < w1.heap.size := A2.out.lt
        clear b1 A0 B0
        go_wp2_with (go_at_call 28; refine (hc _).mono ?_; rintro e w2 ⟨rfl, hw⟩; rw [hw]; clear hw w2)
        refine bodyPost_ret (v := .tuple #[.agg #[.int .i64 0, .int .i64 0], .int .i64 v, .int .i64 2]) (by simp [results, Try.results21, go_sem, *]) rfl ⟨ret_cv HR.out.2.1.symm HR.out.2.2.symm HR.out.1.symm, ?_⟩
        exact q_set (q_set B1.out (Nat.le_succ _) _) (Nat.le_succ _) _
set_option maxRecDepth 100000 in
set_option maxHeartbeats 2000000 in
theorem rcarve_any (x : X) (v s : Int) (w : World) :
    Calls Try.prog 22 #[(.agg #[.int .i64 x.1, .int .i64 x.2]), .int .i64 v, .int .i64 s] w fun e w' => e = .returned (.tuple #[(.agg #[.int .i64 (cvX x v s).1, .int .i64 (cvX x v s).2]), .int .i64 (cvW x v s), .int .i64 (cvE x v s)]) ∧ Below w.heap.size w w' := by
  cases hx : okX x with
  | false =>
    have HR := hid (cv_arg (x := x) (w := v) (s := s) (by simp [argB, hx]))
    have HC := hid (hx)
    clear hx
    go_enter Try.func22, Try.ntmps22
    go_wp2_with fail
    have A0 := hid (bx_two w x (0, 0) 23)
    have B0 := hid (q_alloc (alloc_below w (.cells #[.int .i64 x.1, .int .i64 x.2] 23)) (.cells #[.int .i64 0, .int .i64 0] 23))
    refine (is_ris HC.out).mono ?_
    rintro e w1 ⟨rfl, b1⟩
    have A1 := hid (A0.out.1.below b1)
    have A2 := hid (A0.out.2.below b1)
    have B1 := hid (q_trans B0.out b1)
    obtain ⟨p0, p1, p2, p3⟩ := A1.out
    obtain ⟨r0, r1, r2, r3⟩ := A2.out
    have n1 : w.heap.size < w1.heap.size := A1.out.lt
    have n2 : w.heap.size + 1 < w1.heap.size := A2.out.lt
    clear b1 A0 B0
    go_wp2_with fail
    refine bodyPost_ret (v := .tuple #[.agg #[.int .i64 0, .int .i64 0], .int .i64 v, .int .i64 2]) (by simp [results, Try.results22, go_sem, *]) rfl ⟨ret_cv HR.out.2.1.symm HR.out.2.2.symm HR.out.1.symm, ?_⟩
    exact q_set (q_set B1.out (Nat.le_succ _) _) (Nat.le_succ _) _
  | true =>
    have HC := hid (hx)
    cases hp : pw s with
    | false =>
      have HR := hid (cv_arg (x := x) (w := v) (s := s) (by simp [argB, hp]))
      have hc := fun W => rpower_is hp W
      clear hx hp
      go_enter Try.func22, Try.ntmps22
      go_wp2_with fail
      have A0 := hid (bx_two w x (0, 0) 23)
      have B0 := hid (q_alloc (alloc_below w (.cells #[.int .i64 x.1, .int .i64 x.2] 23)) (.cells #[.int .i64 0, .int .i64 0] 23))
      refine (is_ris HC.out).mono ?_
      rintro e w1 ⟨rfl, b1⟩
      have A1 := hid (A0.out.1.below b1)
      have A2 := hid (A0.out.2.below b1)
      have B1 := hid (q_trans B0.out b1)
      obtain ⟨p0, p1, p2, p3⟩ := A1.out
      obtain ⟨r0, r1, r2, r3⟩ := A2.out
      have n1 : w.heap.size < w1.heap.size := A1.out.lt
      have n2 : w.heap.size + 1 < w1.heap.size := A2.out.lt
      clear b1 A0 B0
      go_wp2_with (go_at_call 29; refine (hc _).mono ?_; rintro e w2 ⟨rfl, hw⟩; rw [hw]; clear hw w2)
      refine bodyPost_ret (v := .tuple #[.agg #[.int .i64 0, .int .i64 0], .int .i64 v, .int .i64 2]) (by simp [results, Try.results22, go_sem, *]) rfl ⟨ret_cv HR.out.2.1.symm HR.out.2.2.symm HR.out.1.symm, ?_⟩
      exact q_set (q_set B1.out (Nat.le_succ _) _) (Nat.le_succ _) _
    | true =>
      have hc := fun W => rpower_is hp W
      by_cases h0 : 0 ≤ v
      · by_cases h1 : v ≤ x.2
        · have ha : argB x v s = true := arg_iff.2 ⟨hx, hp, h0, h1⟩
          have q1 := ok_iff.1 hx
          obtain ⟨q1, q2, q3⟩ := q1
          have q4 := pw_range hp
          obtain ⟨q4, q5⟩ := q4
          obtain ⟨z1, z2, z3⟩ := al_is (arg_at ha) hp
          have z4 := at_iff.1 (al_at (arg_at ha) hp)
          obtain ⟨z4, z5⟩ := z4
          cases hf : fitB x v s with
          | false =>
            have HR := hid (cv_full ha hf)
            have z6 : x.1 + x.2 < alV (x.1 + v) s + s := by simpa [fitB] using hf
            have HAL := hid (fun W => ralign_any (x.1 + v) s W)
            clear hx hp ha hf z1
            generalize alV (x.1 + v) s = y at z2 z3 z4 z5 z6 HAL
            go_enter Try.func22, Try.ntmps22
            go_wp2_with fail
            have A0 := hid (bx_two w x (0, 0) 23)
            have B0 := hid (q_alloc (alloc_below w (.cells #[.int .i64 x.1, .int .i64 x.2] 23)) (.cells #[.int .i64 0, .int .i64 0] 23))
            refine (is_ris HC.out).mono ?_
            rintro e w1 ⟨rfl, b1⟩
            have A1 := hid (A0.out.1.below b1)
            have A2 := hid (A0.out.2.below b1)
            have B1 := hid (q_trans B0.out b1)
            obtain ⟨p0, p1, p2, p3⟩ := A1.out
            obtain ⟨r0, r1, r2, r3⟩ := A2.out
            have n1 : w.heap.size < w1.heap.size := A1.out.lt
            have n2 : w.heap.size + 1 < w1.heap.size := A2.out.lt
            clear b1 A0 B0
            go_wp2_with (first | (go_at_call 29; refine (hc _).mono ?_; rintro e w2 ⟨rfl, hw⟩; rw [hw]; clear hw w2) | (go_at_call 15; refine (HAL.out _).mono ?_; rintro e w2 ⟨rfl, hw⟩; rw [hw]; clear hw w2))
            refine bodyPost_ret (v := .tuple #[.agg #[.int .i64 0, .int .i64 0], .int .i64 v, .int .i64 5]) (by simp [results, Try.results22, go_sem, *]) rfl ⟨ret_cv HR.out.2.1.symm HR.out.2.2.symm HR.out.1.symm, ?_⟩
            exact q_set (q_set B1.out (Nat.le_succ _) _) (Nat.le_succ _) _
          | true =>
            have HR := hid (cv_yes ha hf)
            have z6 : alV (x.1 + v) s + s ≤ x.1 + x.2 := by simpa [fitB] using hf
            have HAL := hid (fun W => ralign_any (x.1 + v) s W)
            clear hx hp ha hf z1
            generalize alV (x.1 + v) s = y at z2 z3 z4 z5 z6 HAL HR
            have hwr : IntKind.i64.wrap (y + s - x.1) = y + s - x.1 := by rw [IntKind.wrap_i64]; omega
            have hwr2 : IntKind.i64.wrap (y + s) = y + s := by rw [IntKind.wrap_i64]; omega
            go_enter Try.func22, Try.ntmps22
            go_wp2_with fail
            have A0 := hid (bx_two w x (0, 0) 23)
            have B0 := hid (q_alloc (alloc_below w (.cells #[.int .i64 x.1, .int .i64 x.2] 23)) (.cells #[.int .i64 0, .int .i64 0] 23))
            refine (is_ris HC.out).mono ?_
            rintro e w1 ⟨rfl, b1⟩
            have A1 := hid (A0.out.1.below b1)
            have A2 := hid (A0.out.2.below b1)
            have B1 := hid (q_trans B0.out b1)
            obtain ⟨p0, p1, p2, p3⟩ := A1.out
            obtain ⟨r0, r1, r2, r3⟩ := A2.out
            have n1 : w.heap.size < w1.heap.size := A1.out.lt
            have n2 : w.heap.size + 1 < w1.heap.size := A2.out.lt
            clear b1 A0 B0
            go_wp2_with (first | (go_at_call 29; refine (hc _).mono ?_; rintro e w2 ⟨rfl, hw⟩; rw [hw]; clear hw w2) | (go_at_call 15; refine (HAL.out _).mono ?_; rintro e w2 ⟨rfl, hw⟩; rw [hw]; clear hw w2))
            have hS : S1 w.heap.size x.1 w1 := p0
            have ne1 : w.heap.size ≠ w.heap.size + 1 := by omega
            go_region_held3 (S1 w.heap.size x.1) (first | with_reducible assumption | with_reducible exact s1_drew hS | exact s1_two (s1_drew hS) ne1) (fail)
            all_goals go_wp2_with fail
            all_goals refine bodyPost_ret (v := .tuple #[.agg #[.int .i64 y, .int .i64 s], .int .i64 (y + s - x.1), .int .i64 0]) (by simp [results, Try.results22, go_sem, *]) rfl ⟨ret_cv (x := (y, s)) HR.out.2.1.symm HR.out.2.2.symm HR.out.1.symm, ?_⟩
            all_goals first | exact (q_set (q_set B1.out (Nat.le_succ _) _) (Nat.le_succ _) _).drew | exact q_set (q_set (q_trans B1.out (Below.refl _ w1).drew) (Nat.le_succ _) _) (Nat.le_succ _) _
        · have HR := hid (cv_arg (x := x) (w := v) (s := s) (by simp [argB, h1]))
          have d1 : decide (x.2 < v) = true := by simp; omega
          clear hx hp
          go_enter Try.func22, Try.ntmps22
          go_wp2_with fail
          have A0 := hid (bx_two w x (0, 0) 23)
          have B0 := hid (q_alloc (alloc_below w (.cells #[.int .i64 x.1, .int .i64 x.2] 23)) (.cells #[.int .i64 0, .int .i64 0] 23))
          refine (is_ris HC.out).mono ?_
          rintro e w1 ⟨rfl, b1⟩
          have A1 := hid (A0.out.1.below b1)
          have A2 := hid (A0.out.2.below b1)
          have B1 := hid (q_trans B0.out b1)
          obtain ⟨p0, p1, p2, p3⟩ := A1.out
          obtain ⟨r0, r1, r2, r3⟩ := A2.out
          have n1 : w.heap.size < w1.heap.size := A1.out.lt
          have n2 : w.heap.size + 1 < w1.heap.size := A2.out.lt
          clear b1 A0 B0
          go_wp2_with (go_at_call 29; refine (hc _).mono ?_; rintro e w2 ⟨rfl, hw⟩; rw [hw]; clear hw w2)
          refine bodyPost_ret (v := .tuple #[.agg #[.int .i64 0, .int .i64 0], .int .i64 v, .int .i64 2]) (by simp [results, Try.results22, go_sem, *]) rfl ⟨ret_cv HR.out.2.1.symm HR.out.2.2.symm HR.out.1.symm, ?_⟩
          exact q_set (q_set B1.out (Nat.le_succ _) _) (Nat.le_succ _) _
      · have HR := hid (cv_arg (x := x) (w := v) (s := s) (by simp [argB, h0]))
        have d0 : v < 0 := by omega
        clear hx hp
        go_enter Try.func22, Try.ntmps22
        go_wp2_with fail
        have A0 := hid (bx_two w x (0, 0) 23)
        have B0 := hid (q_alloc (alloc_below w (.cells #[.int .i64 x.1, .int .i64 x.2] 23)) (.cells #[.int .i64 0, .int .i64 0] 23))
        refine (is_ris HC.out).mono ?_
        rintro e w1 ⟨rfl, b1⟩
        have A1 := hid (A0.out.1.below b1)
        have A2 := hid (A0.out.2.below b1)
        have B1 := hid (q_trans B0.out b1)
        obtain ⟨p0, p1, p2, p3⟩ := A1.out
        obtain ⟨r0, r1, r2, r3⟩ := A2.out
        have n1 : w.heap.size < w1.heap.size := A1.out.lt
        have n2 : w.heap.size + 1 < w1.heap.size := A2.out.lt
        clear b1 A0 B0
        go_wp2_with (go_at_call 29; refine (hc _).mono ?_; rintro e w2 ⟨rfl, hw⟩; rw [hw]; clear hw w2)
        refine bodyPost_ret (v := .tuple #[.agg #[.int .i64 0, .int .i64 0], .int .i64 v, .int .i64 2]) (by simp [results, Try.results22, go_sem, *]) rfl ⟨ret_cv HR.out.2.1.symm HR.out.2.2.symm HR.out.1.symm, ?_⟩
        exact q_set (q_set B1.out (Nat.le_succ _) _) (Nat.le_succ _) _
end Go.Proofs.Yteohoipkdjhllaa.Ca
