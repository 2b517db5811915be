/- What areSpans, areEvents, Check do. -/
import Derived.Test.YtmnkbkhfonngeaaHiW2
namespace Go.Proofs.Ytmnkbkhfonngeaa.Hi
open Go.RowKit

/-- 64 numbers that may be written. -/
structure Ln (w : World) (b : Nat) (f : Nat → Int) : Prop where
  cell : ∀ c, c < 64 → w.cell? ⟨b, c, none⟩ = some (.int .i64 (f c))
  free : ∀ c, c < 64 → w.frozen? ⟨b, c, none⟩ = false
theorem Ln.lt {w : World} {b : Nat} {s : Nat → Int} (h : Ln w b s) : b < w.heap.size := World.block_lt_of_cell? w _ (h.cell 0 (by omega))
theorem Ln.below {w w' : World} {b : Nat} {s : Nat → Int} (h : Ln w b s) (q : Below w.heap.size w w') : Ln w' b s :=
  ⟨fun c hc => (q.cell (p := ⟨b, c, none⟩) h.lt).trans (h.cell c hc), fun c hc => (q.frozen (p := ⟨b, c, none⟩) h.lt).trans (h.free c hc)⟩
theorem far0 {b c i j : Nat} (h : b ≠ c ∨ i ≠ j) : (⟨b, i, none⟩ : Addr) ≠ ⟨c, j, none⟩ := by
  intro e
  injection e with h1 h2
  omega
theorem ln_set {w : World} {b c : Nat} {s : Nat → Int} (h : Ln w b s) (hc : c < 64) (v : Int) : Ln (w.setCell ⟨b, c, none⟩ (.int .i64 v)) b (fun j => if j = c then v else s j) := by
  refine ⟨fun j hj => ?_, fun j hj => by rw [World.frozen?_setCell]; exact h.free j hj⟩
  by_cases e : j = c
  · subst e
    rw [World.cell?_setCell_same' _ _ _ (by rw [h.cell j hc]; rfl)]
    simp
  · rw [World.cell?_setCell_other _ _ _ _ (far0 (.inr (Ne.symm e))), h.cell j hj]
    simp [e]
theorem ln_zero (C : Array Value) (hC : C = Array.replicate 64 (.int .i64 0)) (w : World) (t : TypeId) : Ln (w.alloc (.cells C t)) w.heap.size (fun _ => 0) := by
  refine ⟨fun c hc => ?_, fun c hc => ?_⟩
  · unfold World.cell?
    rw [show (w.alloc (.cells C t)).heap[(⟨w.heap.size, c, none⟩ : Addr).block]? = some (.cells C t) from heap_alloc_new w _]
    subst hC
    simp [hc]
  · unfold World.frozen?
    rw [show (w.alloc (.cells C t)).heap[(⟨w.heap.size, c, none⟩ : Addr).block]? = some (.cells C t) from heap_alloc_new w _]
    simp
/-- Where each core's last span ahead of a place lies, and 1. -/
def lat (l : List Sp) (q : Nat) (c : Nat) : Int := plI (lst l (c : Int) q) + 1
theorem lat_zero (l : List Sp) : lat l 0 = fun _ => 0 := by funext c; simp [lat, lst, plI]
theorem lat_succ {l : List Sp} {q c : Nat} (h : (S l q).co = (c : Int)) : lat l (q + 1) = fun j => if j = c then ((q : Int) + 1) else lat l q j := by
  funext j
  unfold lat
  by_cases e : j = c
  · subst e
    rw [if_pos rfl, lst_succ_yes h]
    rfl
  · rw [if_neg e, lst_succ_no (by rw [h]; omega)]
/-- A core and a start in a box. -/
abbrev S2 (b : Nat) (x y : Int) (w : World) : Prop := w.cell? ⟨b, 0, none⟩ = some (.int .i64 x) ∧ w.cell? ⟨b, 9, none⟩ = some (.int .i64 y)
theorem s2_drew {b : Nat} {x y : Int} {w : World} (h : S2 b x y w) : S2 b x y w.drew := h
theorem s2_set {b : Nat} {x y : Int} {w : World} (h : S2 b x y w) {p : Addr} (hp : p.block ≠ b) (v : Value) : S2 b x y (w.setCell p v) := by
  refine ⟨?_, ?_⟩
  · rw [World.cell?_setCell_other _ _ _ _ (fun e => hp (by rw [e]))]; exact h.1
  · rw [World.cell?_setCell_other _ _ _ _ (fun e => hp (by rw [e]))]; exact h.2
theorem ok_bad {l : List Sp} {q : Nat} (hq : q < l.length) (h : spB l q = false) : okS l = false := okS_not.2 fun g => by rw [g q hq] at h; cases h
set_option maxRecDepth 100000 in
set_option maxHeartbeats 1000000 in
/-- areSpans: WHETHER THEY MAY BE A HISTORY's. -/
theorem areSpans_any (ao : Option Addr) (n cap : Nat) (l : List Sp) (w : World) (hs : n ≤ 5000) (HH : Hid (HasS w ⟨ao, n, cap⟩ l)) :
    Calls Try.prog 30 #[.slice ao n cap] w fun e w' => e = .returned (.bool (okS l)) ∧ Below w.heap.size w w' := by
  have HN : Hid (n = l.length) := HH.out.len
  go_enter Try.func30, Try.ntmps30
  go_wp2_with fail
  generalize hW : w.alloc _ = W0
  have HC : Hid (Ln W0 w.heap.size (lat l 0)) := by rw [← hW, lat_zero]; exact ln_zero _ rfl w _
  have HB0 : Hid (Below w.heap.size w W0) := by rw [← hW]; exact alloc_below w _
  clear hW
  go_loopw [4, 10] (fun least i wr => ∃ q : Nat, q ≤ n ∧ i = .int .i64 q ∧ least = .int .i64 (lo l q) ∧ Hid (∀ i, i < q → spB l i = true) ∧ Hid (Ln wr w.heap.size (lat l q)) ∧ Hid (Below w.heap.size w wr)) (fun _ i _ => n - (intOf i).toNat)
  case atStart => exact ⟨0, Nat.zero_le _, rfl, rfl, fun c hc => absurd hc (by omega), HC, HB0⟩
  case round =>
    obtain ⟨q, hq, rfl, rfl, HG, HS, HB⟩ := hrel
    clear HC HB0
    by_cases hlt : q < n
    · have i1 : (0 : Int) ≤ (q : Int) := by omega
      have i2 : (q : Int) < (n : Int) := by omega
      have HQ : Hid (q < l.length) := by have := HN.out; unfold Hid; omega
      obtain ⟨a, ea, ca⟩ := atS_of (HH.out.below HB.out).row q HQ.out
      obtain rfl : ao = some a := ea
      obtain ⟨x, hx⟩ : ∃ x, l.getD q s0 = x := ⟨_, rfl⟩
      have HX : Hid (S l q = x) := hx
      rw [hx] at ca
      have HXA := hid ca
      obtain ⟨c0, c1, c2, c3, c4, c5, c6, c7, c8, c9, c10, c11, c12, c13, c14⟩ := ca
      clear hx
      obtain ⟨L, hL⟩ : ∃ L, lo l q = L := ⟨_, rfl⟩
      have HLo := hid hL
      rw [hL]
      clear hL
      have hhl : w.heap.size < wr.heap.size := HS.out.lt
      go_upto_region 6 with fail
      have HBX := hid (sb_new wr x)
      have HS9 := hid (HS.out.below (alloc_below wr (.cells #[.int .i64 x.co, .int .i64 x.c.k, .int .u64 x.c.a, .int .u64 x.c.b, .int .i64 x.c.r, .int .i64 x.c.g, .int .i64 x.c.t, .int .i64 x.c.s, .int .i64 x.c.v, .int .i64 x.st, .int .i64 x.en, .int .i64 x.r.e, .int .i64 x.r.v, .int .i64 x.r.b, .bool x.r.t] 50)))
      have HB9 := hid (q_alloc HB.out (.cells #[.int .i64 x.co, .int .i64 x.c.k, .int .u64 x.c.a, .int .u64 x.c.b, .int .i64 x.c.r, .int .i64 x.c.g, .int .i64 x.c.t, .int .i64 x.c.s, .int .i64 x.c.v, .int .i64 x.st, .int .i64 x.en, .int .i64 x.r.e, .int .i64 x.r.v, .int .i64 x.r.b, .bool x.r.t] 50))
      have HBl := hid (alloc_below wr (.cells #[.int .i64 x.co, .int .i64 x.c.k, .int .u64 x.c.a, .int .u64 x.c.b, .int .i64 x.c.r, .int .i64 x.c.g, .int .i64 x.c.t, .int .i64 x.c.s, .int .i64 x.c.v, .int .i64 x.st, .int .i64 x.en, .int .i64 x.r.e, .int .i64 x.r.v, .int .i64 x.r.b, .bool x.r.t] 50))
      generalize wr.alloc (.cells #[.int .i64 x.co, .int .i64 x.c.k, .int .u64 x.c.a, .int .u64 x.c.b, .int .i64 x.c.r, .int .i64 x.c.g, .int .i64 x.c.t, .int .i64 x.c.s, .int .i64 x.c.v, .int .i64 x.st, .int .i64 x.en, .int .i64 x.r.e, .int .i64 x.r.v, .int .i64 x.r.b, .bool x.r.t] 50) = W at HBX HS9 HB9 HBl ⊢
      clear c0 c1 c2 c3 c4 c5 c6 c7 c8 c9 c10 c11 c12 c13 c14
      have HM : Hid (∀ V, Calls Try.prog 42 #[(.agg #[.int .i64 x.co, .int .i64 x.c.k, .int .u64 x.c.a, .int .u64 x.c.b, .int .i64 x.c.r, .int .i64 x.c.g, .int .i64 x.c.t, .int .i64 x.c.s, .int .i64 x.c.v, .int .i64 x.st, .int .i64 x.en, .int .i64 x.r.e, .int .i64 x.r.v, .int .i64 x.r.b, .bool x.r.t])] V fun e w' => e = .returned (.bool (enB x)) ∧ Below V.heap.size V w') := fun V => mayEnd_any x V
      have HA : Hid (∀ b V, Calls Try.prog 19 #[(.agg #[.int .i64 b.co, .int .i64 b.c.k, .int .u64 b.c.a, .int .u64 b.c.b, .int .i64 b.c.r, .int .i64 b.c.g, .int .i64 b.c.t, .int .i64 b.c.s, .int .i64 b.c.v, .int .i64 b.st, .int .i64 b.en, .int .i64 b.r.e, .int .i64 b.r.v, .int .i64 b.r.b, .bool b.r.t]), (.agg #[.int .i64 x.co, .int .i64 x.c.k, .int .u64 x.c.a, .int .u64 x.c.b, .int .i64 x.c.r, .int .i64 x.c.g, .int .i64 x.c.t, .int .i64 x.c.s, .int .i64 x.c.v, .int .i64 x.st, .int .i64 x.en, .int .i64 x.r.e, .int .i64 x.r.v, .int .i64 x.r.b, .bool x.r.t])] V fun e w' => e = .returned (.bool (ahB b x)) ∧ Below V.heap.size V w') := fun b V => ahead_any b x V
      obtain ⟨d0, d1, d2, d3, d4, d5, d6, d7, d8, d9, d10, d11, d12, d13, d14⟩ := HBX.out.at
      cases hc : okC x.co with
      | false =>
        have HR : Hid (okS l = false) := ok_bad HQ.out (by simp only [spB]; rw [HX.out, hc]; rfl)
        go_wp2_with (go_at_call 41; refine (isCore_any _ _).mono ?_; rintro e w8 ⟨rfl, hw⟩; rw [hw, hc]; clear hw w8)
        go_ret
        exact ⟨ret_bool HR.out.symm, HB9.out⟩
      | true =>
        by_cases hst : x.st < L
        · have HR : Hid (okS l = false) := ok_bad HQ.out (by
            have h1 : decide (lo l q ≤ (S l q).st) = false := by rw [HX.out, HLo.out]; simpa using hst
            simp only [spB]
            rw [h1]; simp)
          go_wp2_with (go_at_call 41; refine (isCore_any _ _).mono ?_; rintro e w8 ⟨rfl, hw⟩; rw [hw, hc]; clear hw w8)
          go_ret
          exact ⟨ret_bool HR.out.symm, HB9.out⟩
        · cases hm : enB x with
          | false =>
            have HR : Hid (okS l = false) := ok_bad HQ.out (by simp only [spB]; rw [HX.out, hm]; simp)
            rw [hm] at HM
            clear hm
            go_wp2_with (first | (go_at_call 41; refine (isCore_any _ _).mono ?_; rintro e w8 ⟨rfl, hw⟩; rw [hw, hc]; clear hw w8) | (go_at_call 42; refine (HM.out _).mono ?_; rintro e w8 ⟨rfl, b8⟩))
            go_ret
            exact ⟨ret_bool HR.out.symm, q_trans HB9.out b8⟩
          | true =>
            have HE := hid hm
            rw [hm] at HM
            clear hm
            obtain ⟨i5, i7⟩ := okC_iff.1 hc
            have i6 : x.co.toNat < 64 := by omega
            have HCC : Hid (x.co = (x.co.toNat : Int)) := (Int.toNat_of_nonneg i5).symm
            have H1 : Hid (decide (lo l q ≤ (S l q).st) = true) := by unfold Hid; rw [HX.out, HLo.out]; simpa using hst
            go_upto_region 8 with (first | (go_at_call 41; refine (isCore_any _ _).mono ?_; rintro e w8 ⟨rfl, hw⟩; rw [hw, hc]; clear hw w8) | (go_at_call 42; refine (HM.out _).mono ?_; rintro e w8 ⟨rfl, b8⟩))
            clear d0 d1 d2 d3 d4 d5 d6 d7 d8 d9 d10 d11 d12 d13 d14 HM hst
            replace HBX := hid (HBX.out.below b8)
            replace HS9 := hid (HS9.out.below b8)
            replace HB9 := hid (q_trans HB9.out b8)
            replace HBl := hid (q_trans HBl.out b8)
            clear b8
            have ca2 := HXA.out.lt
            have hl8 : w.heap.size < w8.heap.size := HS9.out.lt
            obtain ⟨A, hA⟩ : ∃ A, lat l q x.co.toNat = A := ⟨_, rfl⟩
            have hA2 : A = plI (lst l x.co q) + 1 := by rw [← hA]; unfold lat; rw [← HCC.out]
            have k0 := HS9.out.cell _ i6
            rw [hA] at k0
            clear hA
            have q0 := HBX.out.at.c0
            have hsp : bhB l q x = true → spB l q = true := fun h => spB_iff.2 ⟨by rw [HX.out]; exact hc, by simpa using H1.out, by rw [HX.out]; exact HE.out, by rw [HX.out]; exact h⟩
            have hnsp : bhB l q x = false → okS l = false := fun h => ok_bad HQ.out (by simp only [spB]; rw [HX.out, h]; simp)
            have HSP := hid hsp
            have HNSP := hid hnsp
            clear hsp hnsp
            cases hy : lst l x.co q with
            | none =>
              rw [hy] at hA2
              have i8 : ¬ (A > 0) := by rw [hA2]; simp [plI]
              have HF : Hid (spB l q = true) := HSP.out (by simp only [bhB]; rw [hy])
              clear hy hA2
              go_upto_region 9 with fail
              refine wp_region_later (by kernel_rfl) (by kernel_rfl) ?_
              have hne : Nonempty (Later w8) := ⟨⟨w8, Below.refl _ _⟩⟩
              repeat (go_big_quiet_step (fail))
              refine wpQuiet_nil ?_
              rintro w9 ⟨⟨_, b9⟩, rfl⟩
              replace HBX := hid (HBX.out.below b9)
              replace HS9 := hid (HS9.out.below b9)
              replace HB9 := hid (q_trans HB9.out b9)
              clear b9 k0 q0 i8
              have f0 := HS9.out.free _ i6
              have k9 := HS9.out.cell _ i6
              have hl9 : w.heap.size < wr.heap.size := hhl
              obtain ⟨d0, d1, d2, d3, d4, d5, d6, d7, d8, d9, d10, d11, d12, d13, d14⟩ := HBX.out.at
              have HS2 := hid (ln_set HS9.out i6 ((q : Int) + 1))
              rw [← lat_succ (show (S l q).co = (x.co.toNat : Int) by rw [HX.out]; exact HCC.out)] at HS2
              have HB2 := hid (q_set HB9.out (p := ⟨w.heap.size, x.co.toNat, none⟩) (Nat.le_refl _) (.int .i64 ((q : Int) + 1)))
              have HLs : Hid (lo l (q + 1) = x.st) := by show (S l q).st = x.st; rw [HX.out]
              have HG2 : Hid (∀ i, i < q + 1 → spB l i = true) := fun i hi => by
                rcases Nat.lt_or_ge i q with y | y
                · exact HG.out i y
                · obtain rfl : i = q := by omega
                  exact HF.out
              clear HS HB HXA HA HE HSP HNSP HS9 HB9 HBX HG HBl HCC H1
              go_wp2_with fail
              have hS : S2 wr.heap.size x.co x.st w9 := ⟨d0, d9⟩
              go_region_held3 (S2 wr.heap.size x.co x.st) (first | with_reducible assumption | with_reducible exact s2_drew hS | with_reducible exact s2_drew (s2_set hS (by simp; omega) _) | with_reducible exact s2_set (s2_drew hS) (by simp; omega) _ | with_reducible exact s2_set hS (by simp; omega) _) (fail)
              go_wp2_with fail
              go_roundw
              case rel => exact ⟨q + 1, by omega, by go_num, by rw [HLs.out], HG2, hid (HS2.out.below (Below.refl _ _).drew), hid HB2.out.drew⟩
              case measure => simp [intOf]; omega
            | some j =>
              rw [hy] at hA2
              obtain ⟨hj, _⟩ := lst_some hy
              have hA1 : A - 1 = (j : Int) := by rw [hA2]; simp [plI]
              have hA3 : IntKind.i64.wrap (j : Int) = (j : Int) := by rw [IntKind.wrap_i64] <;> omega
              have i8 : A > 0 := by omega
              have i9 : (0 : Int) ≤ (j : Int) := by omega
              have i10 : (j : Int) < (n : Int) := by omega
              obtain ⟨_, ea, cj⟩ := atS_of (HH.out.below HB9.out).row j (by have := HQ.out; omega)
              cases ea
              obtain ⟨y, hyj⟩ : ∃ y, l.getD j s0 = y := ⟨_, rfl⟩
              rw [hyj] at cj
              obtain ⟨g0, g1, g2, g3, g4, g5, g6, g7, g8, g9, g10, g11, g12, g13, g14⟩ := cj.always
              obtain ⟨d0, d1, d2, d3, d4, d5, d6, d7, d8, d9, d10, d11, d12, d13, d14⟩ := HBX.out.at.always
              have HJ := hid (HA.out y)
              cases hah : ahB y x with
              | false =>
                rw [hah] at HJ
                have HR : Hid (okS l = false) := HNSP.out (by simp only [bhB]; rw [hy]; show ahB (l.getD j s0) x = false; rw [hyj]; exact hah)
                clear hy hA2 hyj hah
                go_upto_region 9 with fail
                refine wp_region_later (by kernel_rfl) (by kernel_rfl) ?_
                have hne : Nonempty (Later w8) := ⟨⟨w8, Below.refl _ _⟩⟩
                repeat (go_big_quiet_step (first | (go_at_call 19; with_reducible exact later_call (HJ.out _))))
                refine wpQuiet_nil ?_
                rintro w9 ⟨⟨_, b9⟩, rfl⟩
                replace HB9 := hid (q_trans HB9.out b9)
                clear b9 q0 k0
                go_wp2_with fail
                go_ret
                exact ⟨ret_bool HR.out.symm, HB9.out⟩
              | true =>
                rw [hah] at HJ
                have HF : Hid (spB l q = true) := HSP.out (by simp only [bhB]; rw [hy]; show ahB (l.getD j s0) x = true; rw [hyj]; exact hah)
                clear hy hA2 hyj hah
                go_upto_region 9 with fail
                refine wp_region_later (by kernel_rfl) (by kernel_rfl) ?_
                have hne : Nonempty (Later w8) := ⟨⟨w8, Below.refl _ _⟩⟩
                repeat (go_big_quiet_step (first | (go_at_call 19; with_reducible exact later_call (HJ.out _))))
                refine wpQuiet_nil ?_
                rintro w9 ⟨⟨_, b9⟩, rfl⟩
                replace HBX := hid (HBX.out.below b9)
                replace HS9 := hid (HS9.out.below b9)
                replace HB9 := hid (q_trans HB9.out b9)
                clear b9 k0 q0 i8 i9 i10 hA1 hA3 g0 g1 g2 g3 g4 g5 g6 g7 g8 g9 g10 g11 g12 g13 g14 d0 d1 d2 d3 d4 d5 d6 d7 d8 d9 d10 d11 d12 d13 d14 hj
                have f0 := HS9.out.free _ i6
                have k9 := HS9.out.cell _ i6
                have hl9 : w.heap.size < wr.heap.size := hhl
                obtain ⟨d0, d1, d2, d3, d4, d5, d6, d7, d8, d9, d10, d11, d12, d13, d14⟩ := HBX.out.at
                have HS2 := hid (ln_set HS9.out i6 ((q : Int) + 1))
                rw [← lat_succ (show (S l q).co = (x.co.toNat : Int) by rw [HX.out]; exact HCC.out)] at HS2
                have HB2 := hid (q_set HB9.out (p := ⟨w.heap.size, x.co.toNat, none⟩) (Nat.le_refl _) (.int .i64 ((q : Int) + 1)))
                have HLs : Hid (lo l (q + 1) = x.st) := by show (S l q).st = x.st; rw [HX.out]
                have HG2 : Hid (∀ i, i < q + 1 → spB l i = true) := fun i hi => by
                  rcases Nat.lt_or_ge i q with y | y
                  · exact HG.out i y
                  · obtain rfl : i = q := by omega
                    exact HF.out
                clear HS HB HXA HA HE HSP HNSP HS9 HB9 HBX HG HBl HCC H1
                go_wp2_with fail
                have hS : S2 wr.heap.size x.co x.st w9 := ⟨d0, d9⟩
                go_region_held3 (S2 wr.heap.size x.co x.st) (first | with_reducible assumption | with_reducible exact s2_drew hS | with_reducible exact s2_drew (s2_set hS (by simp; omega) _) | with_reducible exact s2_set (s2_drew hS) (by simp; omega) _ | with_reducible exact s2_set hS (by simp; omega) _) (fail)
                go_wp2_with fail
                go_roundw
                case rel => exact ⟨q + 1, by omega, by go_num, by rw [HLs.out], HG2, hid (HS2.out.below (Below.refl _ _).drew), hid HB2.out.drew⟩
                case measure => simp [intOf]; omega
    · obtain rfl : q = n := by omega
      have HR : Hid (okS l = true) := okS_iff.2 (fun i hi => HG.out i (by have := HN.out; omega))
      go_wp2_with fail
      go_ret
      exact ⟨ret_bool HR.out.symm, HB.out⟩
theorem ev_bad {l : List Ev} {q : Nat} (hq : q < l.length) (h : evB l q = false) : okE l = false := okE_not.2 fun g => by rw [g q hq] at h; cases h
set_option maxRecDepth 100000 in
set_option maxHeartbeats 1000000 in
/-- areEvents: WHETHER THEY MAY BE A HISTORY's. -/
theorem areEvents_any (ao : Option Addr) (n cap : Nat) (xs : List (Ev × Hd)) (w : World) (hs : n ≤ 5000) (HH : Hid (HasX w ⟨ao, n, cap⟩ xs)) :
    Calls Try.prog 31 #[.slice ao n cap] w fun e w' => e = .returned (.bool (okE (xs.map (·.1)))) ∧ Below w.heap.size w w' := by
  obtain ⟨l, hl⟩ : ∃ l, xs.map (·.1) = l := ⟨_, rfl⟩
  have HL := hid hl
  rw [hl]
  clear hl
  have HN : Hid (n = xs.length) := HH.out.has.len
  have HN2 : Hid (n = l.length) := by unfold Hid; rw [← HL.out, List.length_map]; exact HN.out
  go_enter Try.func31, Try.ntmps31
  go_wp2_with fail
  go_loopw [3, 8] (fun st i wr => ∃ q : Nat, q ≤ n ∧ i = .int .i64 q ∧ st = .int .i64 (lp l q) ∧ Hid (∀ i, i < q → evB l i = true) ∧ Hid (Below w.heap.size w wr)) (fun _ i _ => n - (intOf i).toNat)
  case atStart => exact ⟨0, Nat.zero_le _, rfl, rfl, fun c hc => absurd hc (by omega), Below.refl _ _⟩
  case round =>
    obtain ⟨q, hq, rfl, rfl, HG, HB⟩ := hrel
    by_cases hlt : q < n
    · have i1 : (0 : Int) ≤ (q : Int) := by omega
      have i2 : (q : Int) < (n : Int) := by omega
      have HQ : Hid (q < xs.length) := by have := HN.out; unfold Hid; omega
      obtain ⟨a, ea, ca⟩ := atE_of (HH.out.below HB.out).has.row q HQ.out
      obtain rfl : ao = some a := ea
      obtain ⟨x, hx⟩ : ∃ x, xs.getD q (e0, nilH) = x := ⟨_, rfl⟩
      have HX : Hid (E l q = x.1) := by unfold Hid; rw [← HL.out, E_map HQ.out, hx]
      rw [hx] at ca
      obtain ⟨e, y⟩ := x
      obtain ⟨c0, c1, c2, c3, c4, c5, c6, c7, c8, c9, c10, c11⟩ := ca
      dsimp only at c0 c1 c2 c3 c4 c5 c6 c7 c8 c9 c10 c11
      replace HX : Hid (E l q = e) := HX
      clear hx
      obtain ⟨L, hL⟩ : ∃ L, lp l q = L := ⟨_, rfl⟩
      have HLo := hid hL
      rw [hL]
      clear hL
      go_upto_region 5 with fail
      have HBX : Hid (Eb (wr.alloc (.cells #[.int .i64 e.k, .int .i64 e.co, .int .i64 e.c.k, .int .u64 e.c.a, .int .u64 e.c.b, .int .i64 e.c.r, .int .i64 e.c.g, .int .i64 e.c.t, .int .i64 e.c.s, .int .i64 e.c.v, .int .i64 e.sp, .slice y.o y.n y.c] 34)) wr.heap.size (e, y)) := eb_new wr (e, y)
      have HB9 := hid (q_alloc HB.out (.cells #[.int .i64 e.k, .int .i64 e.co, .int .i64 e.c.k, .int .u64 e.c.a, .int .u64 e.c.b, .int .i64 e.c.r, .int .i64 e.c.g, .int .i64 e.c.t, .int .i64 e.c.s, .int .i64 e.c.v, .int .i64 e.sp, .slice y.o y.n y.c] 34))
      generalize wr.alloc (.cells #[.int .i64 e.k, .int .i64 e.co, .int .i64 e.c.k, .int .u64 e.c.a, .int .u64 e.c.b, .int .i64 e.c.r, .int .i64 e.c.g, .int .i64 e.c.t, .int .i64 e.c.s, .int .i64 e.c.v, .int .i64 e.sp, .slice y.o y.n y.c] 34) = W at HBX HB9 ⊢
      clear c0 c1 c2 c3 c4 c5 c6 c7 c8 c9 c10 c11
      obtain ⟨d0, d1, d2, d3, d4, d5, d6, d7, d8, d9, d10, d11⟩ := HBX.out.at
      dsimp only at d0 d1 d2 d3 d4 d5 d6 d7 d8 d9 d10 d11
      have HM := hid (mayFollow_any e y L W)
      cases hm : flB e L with
      | false =>
        rw [hm] at HM
        have HR : Hid (okE l = false) := ev_bad (by rw [← HN2.out]; exact hlt) (by unfold evB; rw [HX.out, HLo.out]; exact hm)
        clear hm
        go_wp2_with (go_at_call 38; refine HM.out.mono ?_; rintro e w8 ⟨rfl, b8⟩)
        go_ret
        exact ⟨ret_bool HR.out.symm, q_trans HB9.out b8⟩
      | true =>
        rw [hm] at HM
        have HF : Hid (evB l q = true) := by unfold Hid evB; rw [HX.out, HLo.out]; exact hm
        clear hm
        go_upto_region 7 with (go_at_call 38; refine HM.out.mono ?_; rintro e w8 ⟨rfl, b8⟩)
        replace HBX := hid (HBX.out.below b8)
        replace HB9 := hid (q_trans HB9.out b8)
        clear b8 d0 d1 d2 d3 d4 d5 d6 d7 d8 d9 d10 d11
        obtain ⟨d0, d1, d2, d3, d4, d5, d6, d7, d8, d9, d10, d11⟩ := HBX.out.at
        dsimp only at d0 d1 d2 d3 d4 d5 d6 d7 d8 d9 d10 d11
        have HLs : Hid (lp l (q + 1) = e.sp) := by show (E l q).sp = e.sp; rw [HX.out]
        have HG2 : Hid (∀ i, i < q + 1 → evB l i = true) := fun i hi => by
          rcases Nat.lt_or_ge i q with y | y
          · exact HG.out i y
          · obtain rfl : i = q := by omega
            exact HF.out
        go_wp2_with fail
        go_roundw
        case rel => exact ⟨q + 1, by omega, by go_num, by rw [HLs.out], HG2, HB9⟩
        case measure => simp [intOf]; omega
    · obtain rfl : q = n := by omega
      have HR : Hid (okE l = true) := okE_iff.2 (fun i hi => HG.out i (by have := HN2.out; omega))
      go_wp2_with fail
      go_ret
      exact ⟨ret_bool HR.out.symm, HB.out⟩
set_option maxHeartbeats 1000000 in
/-- Check: WHETHER A HISTORY MAY BE. -/
theorem check_any (x : Hh) (h : Hs) (w : World) (h1 : x.s.n ≤ 5000) (h2 : x.e.n ≤ 5000) (HH : Hid (HasH w x h)) :
    Calls Try.prog 16 #[(.agg #[.slice x.s.o x.s.n x.s.c, .slice x.e.o x.e.n x.e.c])] w fun e w' => e = .returned (.int .i64 (ckE h)) ∧ Below w.heap.size w w' := by
  go_enter Try.func16, Try.ntmps16
  go_upto_region 1 with fail
  have HP := hid (hb_new w x)
  have HB := hid (alloc_below w (.cells #[.slice x.s.o x.s.n x.s.c, .slice x.e.o x.e.n x.e.c] 25))
  generalize w.alloc (.cells #[.slice x.s.o x.s.n x.s.c, .slice x.e.o x.e.n x.e.c] 25) = W at HP HB ⊢
  have c0 := HP.out.c0
  have c1 := HP.out.c1
  have HK := hid (areSpans_any x.s.o x.s.n x.s.c h.s W h1 (HH.out.s.below HB.out))
  cases hb : okS h.s with
  | false =>
    rw [hb] at HK
    have HR : Hid (ckE h = 180) := by simp [Hid, ckE, okH, hb]
    clear hb
    go_wp2_with fail
    refine HK.out.mono ?_
    rintro e w1 ⟨rfl, b1⟩
    replace HB := hid (q_trans HB.out b1)
    clear b1
    go_wp2_with fail
    go_ret
    exact ⟨ret_int HR.out.symm, HB.out⟩
  | true =>
    rw [hb] at HK
    have H1 := hid hb
    clear hb
    go_wp2_with fail
    refine HK.out.mono ?_
    rintro e w1 ⟨rfl, b1⟩
    replace HP := hid (HP.out.below b1)
    replace HB := hid (q_trans HB.out b1)
    clear b1 c0 c1
    have c1 := HP.out.c1
    obtain ⟨xs, hxs, HX⟩ := HH.out.e.below HB.out
    have HJ := hid (areEvents_any x.e.o x.e.n x.e.c xs w1 h2 HX)
    rw [hxs] at HJ
    clear HX hxs
    cases hb : okE h.e with
    | false =>
      rw [hb] at HJ
      have HR : Hid (ckE h = 180) := by simp [Hid, ckE, okH, hb]
      clear hb
      go_wp2_with fail
      refine HJ.out.mono ?_
      rintro e w2 ⟨rfl, b2⟩
      replace HB := hid (q_trans HB.out b2)
      clear b2
      go_wp2_with fail
      go_ret
      exact ⟨ret_int HR.out.symm, HB.out⟩
    | true =>
      rw [hb] at HJ
      have HR : Hid (ckE h = 0) := by simp [Hid, ckE, okH, hb, H1.out]
      clear hb
      go_wp2_with fail
      refine HJ.out.mono ?_
      rintro e w2 ⟨rfl, b2⟩
      replace HB := hid (q_trans HB.out b2)
      clear b2
      go_wp2_with fail
      go_ret
      exact ⟨ret_int HR.out.symm, HB.out⟩
end Go.Proofs.Ytmnkbkhfonngeaa.Hi
