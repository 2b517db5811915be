/- What live does. -/
import Derived.Test.YtdaakigofpehjabTrDoes
import Derived.Test.YtdaakigofpehjabTrLiveM
import Derived.Test.YtdaakigofpehjabTrW7
import Derived.Test.YtdaakigofpehjabTrW9
namespace Go.Proofs.Ytdaakigofpehjab.Tr
open Go.RowKit

theorem root_at {ao : Option Addr} {n cap : Nat} {t : List Br} {k : P} {w : World} (t' : List Br) (L : Nat) (X : Int) (hs : n ≤ 1000) (H : HasB w ao n cap t) (hE : roE t k = X) (hA : roA t k = t') (hL : t'.length = L) :
    Calls Try.prog 10 #[.slice ao n cap, (.agg #[.int .i64 k.1, .int .i64 k.2])] w fun e w' => ∃ xo xc, e = .returned (.tuple #[.slice xo L xc, .int .i64 X]) ∧ HasB w' xo L xc t' ∧ Below w.heap.size w w' := by
  refine (root_any ao n cap t k w hs H).mono ?_
  rintro e w' ⟨xo, xn, xc, rfl, h, b⟩
  rw [hA] at h
  have e : xn = L := by rw [h.len, hL]
  subst e
  exact ⟨xo, xc, by rw [hE], h, b⟩
theorem ins_at {ao : Option Addr} {n cap : Nat} {t : List Br} {f k : P} {w : World} (t' : List Br) (L : Nat) (X : Int) (hs : n ≤ 1000) (H : HasB w ao n cap t) (hE : inE t f k = X) (hA : inA t f k = t') (hL : t'.length = L) :
    Calls Try.prog 11 #[.slice ao n cap, (.agg #[.int .i64 f.1, .int .i64 f.2]), (.agg #[.int .i64 k.1, .int .i64 k.2])] w fun e w' => ∃ xo xc, e = .returned (.tuple #[.slice xo L xc, .int .i64 X]) ∧ HasB w' xo L xc t' ∧ Below w.heap.size w w' := by
  refine (ins_any ao n cap t f k w hs H).mono ?_
  rintro e w' ⟨xo, xn, xc, rfl, h, b⟩
  rw [hA] at h
  have e : xn = L := by rw [h.len, hL]
  subst e
  exact ⟨xo, xc, by rw [hE], h, b⟩
theorem rem_at {ao : Option Addr} {n cap : Nat} {t : List Br} {k : P} {w : World} (t' : List Br) (L : Nat) (X : Int) (hs : n ≤ 1000) (H : HasB w ao n cap t) (hE : reE t k = X) (hA : reA t k = t') (hL : t'.length = L) :
    Calls Try.prog 15 #[.slice ao n cap, (.agg #[.int .i64 k.1, .int .i64 k.2])] w fun e w' => ∃ xo xc, e = .returned (.tuple #[.slice xo L xc, .int .i64 X]) ∧ HasB w' xo L xc t' ∧ Below w.heap.size w w' := by
  refine (rem_any ao n cap t k w hs H).mono ?_
  rintro e w' ⟨xo, xn, xc, rfl, h, b⟩
  rw [hA] at h
  have e : xn = L := by rw [h.len, hL]
  subst e
  exact ⟨xo, xc, by rw [hE], h, b⟩
theorem mov_at {ao : Option Addr} {n cap : Nat} {t : List Br} {f k : P} {w : World} (t' : List Br) (L : Nat) (X : Int) (hs : n ≤ 1000) (H : HasB w ao n cap t) (hE : moE t f k = X) (hA : moA t f k = t') (hL : t'.length = L) :
    Calls Try.prog 16 #[.slice ao n cap, (.agg #[.int .i64 f.1, .int .i64 f.2]), (.agg #[.int .i64 k.1, .int .i64 k.2])] w fun e w' => ∃ xo xc, e = .returned (.tuple #[.slice xo L xc, .int .i64 X]) ∧ HasB w' xo L xc t' ∧ Below w.heap.size w w' := by
  refine (mov_any ao n cap t f k w hs H).mono ?_
  rintro e w' ⟨xo, xn, xc, rfl, h, b⟩
  rw [hA] at h
  have e : xn = L := by rw [h.len, hL]
  subst e
  exact ⟨xo, xc, by rw [hE], h, b⟩
theorem mar_at {ao : Option Addr} {n cap : Nat} {t : List Br} {k : P} {on : Bool} {w : World} (t' : List Br) (L : Nat) (X : Int) (hs : n ≤ 1000) (H : HasB w ao n cap t) (hE : maE t k = X) (hA : maA t k on = t') (hL : t'.length = L) :
    Calls Try.prog 17 #[.slice ao n cap, (.agg #[.int .i64 k.1, .int .i64 k.2]), .bool on] w fun e w' => ∃ xo xc, e = .returned (.tuple #[.slice xo L xc, .int .i64 X]) ∧ HasB w' xo L xc t' ∧ Below w.heap.size w w' := by
  refine (mar_any ao n cap t k on w hs H).mono ?_
  rintro e w' ⟨xo, xn, xc, rfl, h, b⟩
  rw [hA] at h
  have e : xn = L := by rw [h.len, hL]
  subst e
  exact ⟨xo, xc, by rw [hE], h, b⟩
theorem par_at {ao : Option Addr} {n cap : Nat} {t : List Br} {k : P} {w : World} (x : P) (b : Bool) (hs : n ≤ 1000) (H : HasB w ao n cap t) (hK : prK t k = x) (hB : prB t k = b) :
    Calls Try.prog 9 #[.slice ao n cap, (.agg #[.int .i64 k.1, .int .i64 k.2])] w fun e w' => e = .returned (.tuple #[(.agg #[.int .i64 x.1, .int .i64 x.2]), .bool b]) ∧ Below w.heap.size w w' := by
  have h := parent_any ao n cap t k w hs H
  rwa [hK, hB] at h
theorem find_at {ao : Option Addr} {n cap : Nat} {t : List Br} {k : P} {w : World} (i : Nat) (b : Bool) (hs : n ≤ 1000) (H : HasB w ao n cap t) (hK : plc t k = i) (hB : hasK t k = b) :
    Calls Try.prog 7 #[.slice ao n cap, (.agg #[.int .i64 k.1, .int .i64 k.2])] w fun e w' => e = .returned (.tuple #[.int .i64 (i : Nat), .bool b]) ∧ Below w.heap.size w w' := by
  have h := find_any ao n cap t k w (by omega) H
  rwa [hK, hB] at h
theorem bl_at2 {ao : Option Addr} {n cap : Nat} {t : List Br} {k : P} {w : World} (l : List P) (L : Nat) (hs : n ≤ 1000) (H : HasB w ao n cap t) (hA : blL t k = l) (hL : l.length = L) :
    Calls Try.prog 8 #[.slice ao n cap, (.agg #[.int .i64 k.1, .int .i64 k.2])] w fun e w' => ∃ xo xc, e = .returned (.slice xo L xc) ∧ HasP w' xo L xc l ∧ Below w.heap.size w w' := by
  refine (bl_any ao n cap t k w hs H).mono ?_
  rintro e w' ⟨xo, xn, xc, rfl, h, b⟩
  rw [hA] at h
  have e : xn = L := by rw [h.len, hL]
  subst e
  exact ⟨xo, xc, rfl, h, b⟩
theorem ds_at {ao : Option Addr} {n cap : Nat} {t : List Br} {a b : P} {w : World} (x : Bool) (hs : n ≤ 1000) (H : HasB w ao n cap t) (hA : dsB t a b = x) :
    Calls Try.prog 19 #[.slice ao n cap, (.agg #[.int .i64 a.1, .int .i64 a.2]), (.agg #[.int .i64 b.1, .int .i64 b.2])] w fun e w' => e = .returned (.bool x) ∧ Below w.heap.size w w' := by
  have h := desc_any ao n cap t a b w hs H
  rwa [hA] at h
theorem ck_at {ao : Option Addr} {n cap : Nat} {t : List Br} {w : World} (x : Int) (H : HasB w ao n cap t) (hA : ckE t = x) :
    Calls Try.prog 13 #[.slice ao n cap] w fun e w' => e = .returned (.int .i64 x) ∧ Below w.heap.size w w' := by
  have h := check_any ao n cap t w H
  rwa [hA] at h
theorem sm_at {ao bo : Option Addr} {n m cap cap' : Nat} {la lb : List Br} {w : World} (x : Bool) (hs : n ≤ 1000) (hA : HasB w ao n cap la) (hB : HasB w bo m cap' lb) (hx : decide (la = lb) = x) :
    Calls Try.prog 20 #[.slice ao n cap, .slice bo m cap'] w fun e w' => e = .returned (.bool x) ∧ Below w.heap.size w w' := by
  have h := same_any ao bo n m cap cap' la lb w (by omega) hA hB
  rwa [hx] at h
/-- A key's box, and a mark. -/
abbrev SV (c : Nat) (x : P) (a : Addr) (on : Bool) (w : World) : Prop := w.cell? ⟨c, 0, none⟩ = some (.int .i64 x.1) ∧ w.cell? ⟨c, 1, none⟩ = some (.int .i64 x.2) ∧ w.cell? ⟨a.block, a.off + 4 + 3, none⟩ = some (.bool on)
theorem sv_keep {c : Nat} {x : P} {a : Addr} {on : Bool} {w w' : World} (h : SV c x a on w) (q : Below w.heap.size w w') : SV c x a on w' :=
  ⟨(q.cell (World.block_lt_of_cell? w _ h.1)).trans h.1, (q.cell (World.block_lt_of_cell? w _ h.2.1)).trans h.2.1, (q.cell (World.block_lt_of_cell? w _ h.2.2)).trans h.2.2⟩
theorem sv_drew {c : Nat} {x : P} {a : Addr} {on : Bool} {w : World} (h : SV c x a on w) : SV c x a on w.drew := h
theorem sv_alloc {c : Nat} {x : P} {a : Addr} {on : Bool} {w : World} (h : SV c x a on w) (o : Obj) : SV c x a on (w.alloc o) := sv_keep h (alloc_below w o)
set_option maxRecDepth 100000 in
set_option maxHeartbeats 8000000 in
theorem live_any (w : World) : Calls Try.prog 5 #[] w fun e w' => e = .returned (.bool true) ∧ Below w.heap.size w w' := by
  have B0 : Hid (Below w.heap.size w w) := Below.refl _ _
  go_enter Try.func5, Try.ntmps5
  go_wp2_with fail
  refine (key_any 1 _).mono ?_
  rintro e w1 ⟨rfl, b⟩
  have B1 := hid (q_trans B0.out b)
  clear b B0 
  go_wp2_with fail
  refine (root_at (k := (1, 0)) L1 1 0 (by omega) (hasB_nil _) l1_e l1_a rfl).mono ?_
  rintro e w2 ⟨ao, ac, rfl, h, b⟩
  have B2 := hid (q_trans B1.out b)
  have T2 := hid h
  clear h
  clear b B1 
  go_wp2_with fail
  refine (key_any 1 _).mono ?_
  rintro e w3 ⟨rfl, b⟩
  have B3 := hid (q_trans B2.out b)
  have T3 := hid (T2.out.below b)
  clear b B2 T2
  go_wp2_with fail
  refine (key_any 2 _).mono ?_
  rintro e w4 ⟨rfl, b⟩
  have B4 := hid (q_trans B3.out b)
  have T4 := hid (T3.out.below b)
  clear b B3 T3
  go_wp2_with fail
  refine (ins_at (f := (1, 0)) (k := (2, 0)) L2 2 0 (by omega) T4.out l2_e l2_a rfl).mono ?_
  rintro e w5 ⟨ao, ac, rfl, h, b⟩
  have B5 := hid (q_trans B4.out b)
  have T5 := hid h
  clear b h B4 T4
  go_wp2_with fail
  refine (key_any 1 _).mono ?_
  rintro e w6 ⟨rfl, b⟩
  have B6 := hid (q_trans B5.out b)
  have T6 := hid (T5.out.below b)
  clear b B5 T5
  go_wp2_with fail
  refine (key_any 3 _).mono ?_
  rintro e w7 ⟨rfl, b⟩
  have B7 := hid (q_trans B6.out b)
  have T7 := hid (T6.out.below b)
  clear b B6 T6
  go_wp2_with fail
  refine (ins_at (f := (1, 0)) (k := (3, 0)) L3 3 0 (by omega) T7.out l3_e l3_a rfl).mono ?_
  rintro e w8 ⟨ao, ac, rfl, h, b⟩
  have B8 := hid (q_trans B7.out b)
  have T8 := hid h
  clear b h B7 T7
  go_wp2_with fail
  refine (key_any 1 _).mono ?_
  rintro e w9 ⟨rfl, b⟩
  have B9 := hid (q_trans B8.out b)
  have T9 := hid (T8.out.below b)
  clear b B8 T8
  go_wp2_with fail
  refine (rem_at (k := (1, 0)) L3 3 130 (by omega) T9.out lr_e lr_a rfl).mono ?_
  rintro e w10 ⟨_, _, rfl, _, b⟩
  have B10 := hid (q_trans B9.out b)
  have T10 := hid (T9.out.below b)
  clear b B9 T9
  go_wp2_with fail
  refine (key_any 2 _).mono ?_
  rintro e w11 ⟨rfl, b⟩
  have B11 := hid (q_trans B10.out b)
  have T11 := hid (T10.out.below b)
  clear b B10 T10
  go_wp2_with fail
  refine (par_at (k := (2, 0)) (1, 0) true (by omega) T11.out lp_k lp_b).mono ?_
  rintro e w12 ⟨rfl, b⟩
  have B12 := hid (q_trans B11.out b)
  have T12 := hid (T11.out.below b)
  clear b B11 T11
  have P12 : Hid (AtP (w12.alloc (.cells #[.int .i64 1, .int .i64 0] 24)) ⟨w12.heap.size, 0, none⟩ (1, 0)) := at_new w12 (1, 0) 24
  have BA := hid (q_alloc B12.out (.cells #[.int .i64 1, .int .i64 0] 24))
  have TA := hid (T12.out.below (alloc_below w12 (.cells #[.int .i64 1, .int .i64 0] 24)))
  go_wp2_with fail
  generalize hpb : w12.heap.size = pb at P12 ⊢
  generalize w12.alloc (.cells #[.int .i64 1, .int .i64 0] 24) = WA at P12 BA TA ⊢
  clear hpb B12 T12
  refine (key_any 1 _).mono ?_
  rintro e w13 ⟨rfl, b⟩
  have B13 := hid (q_trans BA.out b)
  have T13 := hid (TA.out.below b)
  have Q13 := hid (P12.out.below b)
  clear b BA TA P12
  go_wp2_with fail
  refine (key_any 4 _).mono ?_
  rintro e w14 ⟨rfl, b⟩
  have B14 := hid (q_trans B13.out b)
  have T14 := hid (T13.out.below b)
  have Q14 := hid (Q13.out.below b)
  clear b B13 T13 Q13
  go_wp2_with fail
  refine (mov_at (f := (1, 0)) (k := (4, 0)) LU 3 0 (by omega) T14.out lu_e lu_a rfl).mono ?_
  rintro e w15 ⟨uo, uc, rfl, h, b⟩
  have B15 := hid (q_trans B14.out b)
  have T15 := hid (T14.out.below b)
  have Q15 := hid (Q14.out.below b)
  have U15 := hid h
  clear h
  clear b B14 T14 Q14
  go_wp2_with fail
  refine (key_any 3 _).mono ?_
  rintro e w16 ⟨rfl, b⟩
  have B16 := hid (q_trans B15.out b)
  have T16 := hid (T15.out.below b)
  have Q16 := hid (Q15.out.below b)
  have U16 := hid (U15.out.below b)
  clear b B15 T15 Q15 U15
  go_wp2_with fail
  refine (mar_at (k := (3, 0)) (on := true) LM 3 0 (by omega) T16.out lm_e lm_a rfl).mono ?_
  rintro e w17 ⟨mo, mc, rfl, h, b⟩
  have B17 := hid (q_trans B16.out b)
  have T17 := hid (T16.out.below b)
  have Q17 := hid (Q16.out.below b)
  have U17 := hid (U16.out.below b)
  have M17 := hid h
  clear h
  clear b B16 T16 Q16 U16
  go_wp2_with fail
  refine (key_any 3 _).mono ?_
  rintro e w18 ⟨rfl, b⟩
  have B18 := hid (q_trans B17.out b)
  have T18 := hid (T17.out.below b)
  have Q18 := hid (Q17.out.below b)
  have U18 := hid (U17.out.below b)
  have M18 := hid (M17.out.below b)
  clear b B17 T17 Q17 U17 M17
  go_wp2_with fail
  refine (find_at (k := (3, 0)) 1 true (by omega) T18.out lf_p lf_h).mono ?_
  rintro e w19 ⟨rfl, b⟩
  have B19 := hid (q_trans B18.out b)
  have T19 := hid (T18.out.below b)
  have Q19 := hid (Q18.out.below b)
  have U19 := hid (U18.out.below b)
  have M19 := hid (M18.out.below b)
  clear b B18 T18 Q18 U18 M18
  go_wp2_with fail
  refine (key_any (-1) _).mono ?_
  rintro e w20 ⟨rfl, b⟩
  have B20 := hid (q_trans B19.out b)
  have T20 := hid (T19.out.below b)
  have Q20 := hid (Q19.out.below b)
  have U20 := hid (U19.out.below b)
  have M20 := hid (M19.out.below b)
  clear b B19 T19 Q19 U19 M19
  go_wp2_with fail
  refine (root_at (k := (-1, 0)) L3 3 2 (by omega) T20.out ln_e ln_a rfl).mono ?_
  rintro e w21 ⟨_, _, rfl, _, b⟩
  have B21 := hid (q_trans B20.out b)
  have T21 := hid (T20.out.below b)
  have Q21 := hid (Q20.out.below b)
  have U21 := hid (U20.out.below b)
  have M21 := hid (M20.out.below b)
  clear b B20 T20 Q20 U20 M20
  obtain ⟨ma, rfl, cm⟩ := M21.out.at 1 (by omega)
  have hS : SV pb (1, 0) ma true w21 := ⟨Q21.out.c0, Q21.out.c1, by have h := cm.c3; rw [← add_off ma (1 * 4) (by decide)] at h; exact h⟩
  clear cm
  have BC : Hid (Below w21.heap.size w21 w21) := Below.refl _ _
  go_wp2_with fail
  have ee : ∀ w : World, (Op.equalIn 10000 24 (.agg #[.int .i64 1, .int .i64 0]) (.agg #[.int .i64 1, .int .i64 0])).run Try.prog w = .ok true w := eqk_yes (a := (1, 0)) (b := (1, 0)) rfl
  simp only [List.append_eq, List.cons_append, List.nil_append]
  go_region_held3 (SV pb (1, 0) ma true) (first | with_reducible assumption | with_reducible exact sv_drew hS | with_reducible exact HSc.out | with_reducible exact sv_drew HSc.out | with_reducible exact sv_alloc HSc.out _ | with_reducible exact sv_drew (sv_alloc HSc.out _) | with_reducible exact sv_alloc (sv_drew HSc.out) _)
    (first
      | (go_at_call 12; refine (num_any _ _).mono ?_; rintro e wz ⟨rfl, rfl⟩)
      | (go_at_call 14; refine (key_any _ _).mono ?_; rintro e v ⟨rfl, b⟩; (try (have HK2 := hid (HK.out.below (by first | exact b | exact q_trans (Below.refl _ _).drew b)); clear HK; have HK := HK2; clear HK2)); have BN : Hid (Below w21.heap.size w21 v) := (by first | exact q_trans BC.out b | exact q_trans BC.out.drew b | exact q_trans (q_alloc BC.out _) b | exact q_trans (q_alloc BC.out _).drew b); clear BC; have BC := BN; clear BN; have HSc : Hid (SV pb (1, 0) ma true v) := sv_keep hS BC.out; clear b)
      | (go_at_call 8; refine (bl_at2 (k := (1, 0)) [(3, 0), (2, 0)] 2 (by omega) (by first | exact T21.out.below BC.out | exact T21.out.below BC.out.drew) lb_l rfl).mono ?_; rintro e v ⟨ko, kc, rfl, hk, b⟩; have HK := hid hk; clear hk; have BN : Hid (Below w21.heap.size w21 v) := (by first | exact q_trans BC.out b | exact q_trans BC.out.drew b | exact q_trans (q_alloc BC.out _) b | exact q_trans (q_alloc BC.out _).drew b); clear BC; have BC := BN; clear BN; have HSc : Hid (SV pb (1, 0) ma true v) := sv_keep hS BC.out; clear b)
      | (go_at_call 18; refine (ksame_yes (l := [(3, 0), (2, 0)]) (by omega) (by first | exact HK.out.below (alloc_below _ _) | exact (HK.out.below (alloc_below _ _)).below (Below.refl _ _).drew | exact HK.out.below (q_alloc (Below.refl _ _).drew _)) (by first | exact hasP_new _ [(3, 0), (2, 0)] 24 | exact (hasP_new _ [(3, 0), (2, 0)] 24).below (Below.refl _ _).drew)).mono ?_; rintro e v ⟨rfl, b⟩; clear HK; have BN : Hid (Below w21.heap.size w21 v) := (by first | exact q_trans BC.out b | exact q_trans BC.out.drew b | exact q_trans (q_alloc BC.out _) b | exact q_trans (q_alloc BC.out _).drew b); clear BC; have BC := BN; clear BN; have HSc : Hid (SV pb (1, 0) ma true v) := sv_keep hS BC.out; clear b)
      | (go_at_call 19; refine (ds_at (a := (2, 0)) (b := (4, 0)) true (by omega) (by first | exact U21.out.below BC.out | exact U21.out.below BC.out.drew) ld_b).mono ?_; rintro e v ⟨rfl, b⟩; have BN : Hid (Below w21.heap.size w21 v) := (by first | exact q_trans BC.out b | exact q_trans BC.out.drew b | exact q_trans (q_alloc BC.out _) b | exact q_trans (q_alloc BC.out _).drew b); clear BC; have BC := BN; clear BN; have HSc : Hid (SV pb (1, 0) ma true v) := sv_keep hS BC.out; clear b)
      | (go_at_call 13; refine (ck_at 0 (by first | exact T21.out.below BC.out | exact T21.out.below BC.out.drew) lc_e).mono ?_; rintro e v ⟨rfl, b⟩; have BN : Hid (Below w21.heap.size w21 v) := (by first | exact q_trans BC.out b | exact q_trans BC.out.drew b | exact q_trans (q_alloc BC.out _) b | exact q_trans (q_alloc BC.out _).drew b); clear BC; have BC := BN; clear BN; have HSc : Hid (SV pb (1, 0) ma true v) := sv_keep hS BC.out; clear b)
      | (go_at_call 20; refine (sm_at false (by omega) (by first | exact T21.out.below BC.out | exact T21.out.below BC.out.drew) (by first | exact M21.out.below BC.out | exact M21.out.below BC.out.drew) ls_b).mono ?_; rintro e v ⟨rfl, b⟩; have BN : Hid (Below w21.heap.size w21 v) := (by first | exact q_trans BC.out b | exact q_trans BC.out.drew b | exact q_trans (q_alloc BC.out _) b | exact q_trans (q_alloc BC.out _).drew b); clear BC; have BC := BN; clear BN; have HSc : Hid (SV pb (1, 0) ma true v) := sv_keep hS BC.out; clear b)
      | fail)
  all_goals
    have BZ := hid (q_trans B21.out BC.out)
    go_wp2_with fail
    go_ret
    exact ⟨rfl, by first | exact BZ.out | exact BZ.out.drew⟩
end Go.Proofs.Ytdaakigofpehjab.Tr
