/- What live does. -/
import Derived.Test.YthnfekdoibhnpaaDoorAdW6
import Derived.Test.YthnfekdoibhnpaaDoorAdW3
import Derived.Test.YthnfekdoibhnpaaDoorAdSmall
import Derived.Test.YthnfekdoibhnpaaDoorAdMake
import Derived.Deep.RegionHeld3
namespace Go.Proofs.YthnfekdoibhnpaaDoor.Ad
open Go.RowKit
open Cp (K)

abbrev Tr (_ : World) : Prop := True
/-- Two nodes with nothing in them, and the list of them. -/
structure Lv (w W : World) (b0 b1 tb : Nat) : Prop where
  o0 : W.ownsRow w.heap.size 41 5 (.slice (some ⟨b0, 0, none⟩) 8 8) 8 (kps (List.replicate 8 K.zero))
  o1 : W.ownsRow w.heap.size 41 5 (.slice (some ⟨b1, 0, none⟩) 8 8) 8 (kps (List.replicate 8 K.zero))
  t0 : W.cell? ⟨tb, 0, none⟩ = some (.slice (some ⟨b0, 0, none⟩) 8 8)
  t1 : W.cell? ⟨tb, 1, none⟩ = some (.slice (some ⟨b1, 0, none⟩) 8 8)
  low : Below w.heap.size w W
  n1 : b0 ≠ b1
  n2 : b0 ≠ tb
  le : w.heap.size ≤ b0
theorem Lv.below {w W W' : World} {b0 b1 tb : Nat} (h : Lv w W b0 b1 tb) (q : Below W.heap.size W W') : Lv w W' b0 b1 tb :=
  ⟨own_below h.o0 q, own_below h.o1 q, (q.cell (World.block_lt_of_cell? W _ h.t0)).trans h.t0, (q.cell (World.block_lt_of_cell? W _ h.t1)).trans h.t1, q_trans h.low q, h.n1, h.n2, h.le⟩
theorem three (w : World) (o0 o1 o2 : Obj) : (((w.alloc o0).alloc o1).alloc o2).heap[w.heap.size]? = some o0 ∧ (((w.alloc o0).alloc o1).alloc o2).heap[w.heap.size + 1]? = some o1 ∧ (((w.alloc o0).alloc o1).alloc o2).heap[w.heap.size + 1 + 1]? = some o2 := by
  refine ⟨?_, ?_, ?_⟩
  · show (((w.heap.push o0).push o1).push o2)[w.heap.size]? = _
    simp only [Array.getElem?_push, Array.size_push]
    rw [if_neg (by omega), if_neg (by omega)]
    exact if_pos trivial
  · show (((w.heap.push o0).push o1).push o2)[w.heap.size + 1]? = _
    simp only [Array.getElem?_push, Array.size_push]
    rw [if_neg (by omega)]
    exact if_pos trivial
  · show (((w.heap.push o0).push o1).push o2)[w.heap.size + 1 + 1]? = _
    simp only [Array.getElem?_push, Array.size_push]
    exact if_pos trivial
theorem lv_one (w : World) (T : TypeId) : Lv w (((w.alloc (.cells nul 41)).alloc (.cells nul 41)).alloc (.cells #[.slice (some ⟨w.heap.size, 0, none⟩) 8 8, .slice (some ⟨w.heap.size + 1, 0, none⟩) 8 8] T)).drew w.heap.size (w.heap.size + 1) (w.heap.size + 1 + 1) := by
  obtain ⟨h0, h1, h2⟩ := three w (.cells nul 41) (.cells nul 41) (.cells #[.slice (some ⟨w.heap.size, 0, none⟩) 8 8, .slice (some ⟨w.heap.size + 1, 0, none⟩) 8 8] T)
  refine ⟨own_made (by omega) (Nat.le_refl _) nul_is (by rw [len_kps]; rfl) h0, own_made (by omega) (Nat.le_succ _) nul_is (by rw [len_kps]; rfl) h1, ?_, ?_, (q_alloc (q_alloc (alloc_below w _) _) _).drew, by omega, by omega, Nat.le_refl _⟩
  · simp only [World.cell?, World.drew]; rw [h2]; rfl
  · simp only [World.cell?, World.drew]; rw [h2]; rfl
theorem lv_two (w : World) (T : TypeId) : Lv w (((w.alloc (.cells nul 41)).alloc (.cells nul 41)).alloc (.cells #[.slice (some ⟨w.heap.size + 1, 0, none⟩) 8 8, .slice (some ⟨w.heap.size, 0, none⟩) 8 8] T)).drew (w.heap.size + 1) w.heap.size (w.heap.size + 1 + 1) := by
  obtain ⟨h0, h1, h2⟩ := three w (.cells nul 41) (.cells nul 41) (.cells #[.slice (some ⟨w.heap.size + 1, 0, none⟩) 8 8, .slice (some ⟨w.heap.size, 0, none⟩) 8 8] T)
  refine ⟨own_made (by omega) (Nat.le_succ _) nul_is (by rw [len_kps]; rfl) h1, own_made (by omega) (Nat.le_refl _) nul_is (by rw [len_kps]; rfl) h0, ?_, ?_, (q_alloc (q_alloc (alloc_below w _) _) _).drew, by omega, by omega, Nat.le_succ _⟩
  · simp only [World.cell?, World.drew]; rw [h2]; rfl
  · simp only [World.cell?, World.drew]; rw [h2]; rfl
/-- What is read while a slot is stored into. -/
abbrev S2 (tb : Nat) (v : Value) (w : World) : Prop := w.cell? ⟨tb, 0, none⟩ = some v
theorem s2_drew {tb : Nat} {v : Value} {w : World} (h : S2 tb v w) : S2 tb v w.drew := h
theorem kept5o (w : World) (d : Nat) (u0 u1 u2 u3 u4 : Value) : Kept (fun i => i = d) w (((((w.setCell ⟨d, 15, none⟩ u0).setCell ⟨d, 16, none⟩ u1).setCell ⟨d, 17, none⟩ u2).setCell ⟨d, 18, none⟩ u3).setCell ⟨d, 19, none⟩ u4) := by
  refine Kept.setCell ?_ ⟨d, 19, none⟩ u4 (fun _ => rfl)
  refine Kept.setCell ?_ ⟨d, 18, none⟩ u3 (fun _ => rfl)
  refine Kept.setCell ?_ ⟨d, 17, none⟩ u2 (fun _ => rfl)
  refine Kept.setCell ?_ ⟨d, 16, none⟩ u1 (fun _ => rfl)
  exact kept_set _ w ⟨d, 15, none⟩ u0 rfl
theorem s2_five {tb b0 : Nat} {v u0 u1 u2 u3 u4 : Value} {w : World} (h : S2 tb v w) (hn : b0 ≠ tb) : S2 tb v (((((w.setCell ⟨b0, 15, none⟩ u0).setCell ⟨b0, 16, none⟩ u1).setCell ⟨b0, 17, none⟩ u2).setCell ⟨b0, 18, none⟩ u3).setCell ⟨b0, 19, none⟩ u4) :=
  (kept5o w b0 u0 u1 u2 u3 u4).cell h (fun e => hn e.symm)
theorem Lv.slot {w W : World} {b0 b1 tb : Nat} (h : Lv w W b0 b1 tb) : W.cell? ⟨b0, 15, none⟩ = some (.int .i64 0) ∧ W.cell? ⟨b0, 16, none⟩ = some (.int .i64 0) ∧ W.cell? ⟨b0, 17, none⟩ = some (.int .i64 0) ∧ W.cell? ⟨b0, 18, none⟩ = some (.int .i64 0) ∧ W.cell? ⟨b0, 19, none⟩ = some (.int .i64 0) ∧ ∀ j, W.frozen? ⟨b0, j, none⟩ = false :=
  ⟨own_cell h.o0 rfl, own_cell h.o0 rfl, own_cell h.o0 rfl, own_cell h.o0 rfl, own_cell h.o0 rfl, fun _ => own_frozen h.o0⟩
/-- The nodes of live. -/
def T0 : List (List K) := [[K.zero, K.zero, K.zero, ⟨2, 15, 0, 1, 0⟩, K.zero, K.zero, K.zero, K.zero], List.replicate 8 K.zero]
theorem kps_t0 : (((((kps (List.replicate 8 K.zero)).set 15 (.int .i64 2)).set 16 (.int .i64 15)).set 17 (.int .i64 0)).set 18 (.int .i64 1)).set 19 (.int .i64 0) = kps (T0.getD 0 []) := by rfl
theorem own_hasK {w : World} {B n cap : Nat} {E : TypeId} {ao : Option Addr} {l : List K} (h : w.ownsRow B E 5 (.slice ao n cap) n (kps l)) (hl : n = l.length) : HasK w ao n cap l := ⟨hl, (own_row h).2.2.1, (own_row h).2.1, (own_row h).1⟩
/-- Live's nodes lie there. -/
theorem Lv.has {w W : World} {b0 b1 tb : Nat} (h : Lv w W b0 b1 tb) : HasN (((((W.setCell ⟨b0, 15, none⟩ (.int .i64 2)).setCell ⟨b0, 16, none⟩ (.int .i64 15)).setCell ⟨b0, 17, none⟩ (.int .i64 0)).setCell ⟨b0, 18, none⟩ (.int .i64 1)).setCell ⟨b0, 19, none⟩ (.int .i64 0)) (some ⟨tb, 0, none⟩) 2 2 T0 := by
  have q := kept5o W b0 (.int .i64 2) (.int .i64 15) (.int .i64 0) (.int .i64 1) (.int .i64 0)
  have k0 := own_setS (j := 19) (.int .i64 0) (own_setS (j := 18) (.int .i64 1) (own_setS (j := 17) (.int .i64 0) (own_setS (j := 16) (.int .i64 15) (own_setS (j := 15) (.int .i64 2) h.o0))))
  rw [kps_t0] at k0
  have k1 := own_kept h.o1 q (fun i e s => by have e2 : b1 = i := Option.some.inj e; exact h.n1 (by omega))
  refine ⟨rfl, (fun h => by cases h), Nat.le_refl _, [⟨some ⟨b0, 0, none⟩, 8, 8⟩, ⟨some ⟨b1, 0, none⟩, 8, 8⟩], rfl, ⟨fun j u hu => ⟨_, rfl, ?_⟩⟩, fun i hi => ?_⟩
  · match j, hu with
    | 0, hu =>
      simp [hds, Hd.v] at hu
      subst hu
      exact q.cell h.t0 (fun e => h.n2 e.symm)
    | 1, hu =>
      simp [hds, Hd.v] at hu
      subst hu
      exact q.cell h.t1 (fun e => h.n2 e.symm)
  · match i, hi with
    | 0, _ => exact own_hasK k0 rfl
    | 1, _ => exact own_hasK k1 rfl
theorem Lv.low5 {w W : World} {b0 b1 tb : Nat} (h : Lv w W b0 b1 tb) {u0 u1 u2 u3 u4 : Value} : Below w.heap.size w (((((W.setCell ⟨b0, 15, none⟩ u0).setCell ⟨b0, 16, none⟩ u1).setCell ⟨b0, 17, none⟩ u2).setCell ⟨b0, 18, none⟩ u3).setCell ⟨b0, 19, none⟩ u4) :=
  q_set (q_set (q_set (q_set (q_set h.low h.le _) h.le _) h.le _) h.le _) h.le _
theorem one_has (w : World) (k : P) (t : TypeId) : HasP (w.alloc (.cells #[.int .i64 k.1, .int .i64 k.2] t)) (some ⟨w.heap.size, 0, none⟩) 1 1 [k] := ⟨rfl, (fun h => by cases h), Nat.le_refl _, one_pair w k t⟩
theorem two_has (w : World) (a b c d : Int) (t : TypeId) : HasP (w.alloc (.cells #[.int .i64 a, .int .i64 b, .int .i64 c, .int .i64 d] t)) (some ⟨w.heap.size, 0, none⟩) 2 2 [(a, b), (c, d)] := by
  refine ⟨rfl, (fun h => by cases h), Nat.le_refl _, ⟨fun j u hu => ⟨_, rfl, ?_⟩⟩⟩
  match j, hu with
  | 0, hu => simp [prs, pC] at hu; subst hu; simp [Addr.add]
  | 1, hu => simp [prs, pC] at hu; subst hu; simp [Addr.add]
  | 2, hu => simp [prs, pC] at hu; subst hu; simp [Addr.add]
  | 3, hu => simp [prs, pC] at hu; subst hu; simp [Addr.add]
theorem add_zero_addr (a : Addr) : a.add 0 = a := by simp [Addr.add]
theorem put193 {W : World} {ao : Option Addr} (h : HasP W ao 1 1 [(0, 3)]) : Calls Tryd.prog 10 #[.slice ao 1 1] W fun e w' => e = .returned (.tuple #[.int .u64 193, .int .i64 0]) ∧ Below W.heap.size W w' := by
  have := pPut_any ao 1 1 _ W h
  rwa [show putA [(0, 3)] = 193 by decide, show chkA [(0, 3)] = 0 by decide] at this
theorem parse193 (W : World) : Calls Tryd.prog 12 #[.int .u64 193] W fun e w' => ∃ ao cap, e = .returned (.tuple #[.slice ao 1 cap, .int .i64 0]) ∧ HasP w' ao 1 cap [(0, 3)] ∧ Below W.heap.size W w' := by
  refine (pParse_any 193 W (by decide)).mono ?_
  rintro e w' ⟨ao, n, cap, rfl, h, b⟩
  rw [show parA 193 = [(0, 3)] by decide] at h
  obtain rfl : n = 1 := h.len
  exact ⟨ao, cap, by rw [show parE 193 = 0 by decide], h, b⟩
theorem find_one {W : World} {to ao : Option Addr} (hT : Cp.Tabs W) (hN : HasN W to 2 2 T0) (hL : HasP W ao 2 2 [(0, 3), (0, 5)]) : Calls Tryd.prog 19 #[.slice to 2 2, .agg #[.int .i64 2, .int .i64 15, .int .i64 0, .int .i64 0, .int .i64 0], .slice ao 2 2] W fun e w' => ∃ ko kc, e = .returned (.tuple #[.agg #[.int .i64 1, .int .i64 5], .slice ko 2 kc, .int .i64 0]) ∧ Below W.heap.size W w' := by
  refine (pFind_any to ao 2 2 2 2 T0 ⟨2, 15, 0, 0, 0⟩ _ W hT hN hL).mono ?_
  rintro e w' ⟨ko, kn, kc, rfl, h, b⟩
  rw [show fndL T0 ⟨2, 15, 0, 0, 0⟩ [(0, 3), (0, 5)] = [(0, 3), (1, 5)] by decide +kernel] at h
  obtain rfl : kn = 2 := h.len
  exact ⟨ko, kc, by rw [show fndK T0 ⟨2, 15, 0, 0, 0⟩ [(0, 3), (0, 5)] = (1, 5) by decide +kernel, show fndE T0 ⟨2, 15, 0, 0, 0⟩ [(0, 3), (0, 5)] = 0 by decide +kernel], b⟩
theorem find_two {W : World} {to ao : Option Addr} (hT : Cp.Tabs W) (hN : HasN W to 2 2 T0) (hL : HasP W ao 2 2 [(0, 4), (0, 5)]) : Calls Tryd.prog 19 #[.slice to 2 2, .agg #[.int .i64 2, .int .i64 15, .int .i64 0, .int .i64 0, .int .i64 0], .slice ao 2 2] W fun e w' => ∃ ko kn kc, e = .returned (.tuple #[.agg #[.int .i64 0, .int .i64 0], .slice ko kn kc, .int .i64 120]) ∧ Below W.heap.size W w' := by
  refine (pFind_any to ao 2 2 2 2 T0 ⟨2, 15, 0, 0, 0⟩ _ W hT hN hL).mono ?_
  rintro e w' ⟨ko, kn, kc, rfl, h, b⟩
  exact ⟨ko, kn, kc, by rw [show fndK T0 ⟨2, 15, 0, 0, 0⟩ [(0, 4), (0, 5)] = (0, 0) by decide +kernel, show fndE T0 ⟨2, 15, 0, 0, 0⟩ [(0, 4), (0, 5)] = 120 by decide +kernel], b⟩
theorem get_one {W : World} {to : Option Addr} (hN : HasN W to 2 2 T0) : Calls Tryd.prog 21 #[.slice to 2 2, .agg #[.int .i64 0, .int .i64 3]] W fun e w' => e = .returned (.tuple #[.agg #[.int .i64 2, .int .i64 15, .int .i64 0, .int .i64 1, .int .i64 0], .bool true]) ∧ Below W.heap.size W w' := by
  have := pGet_any to 2 2 T0 (0, 3) W hN
  rwa [show getC T0 (0, 3) = ⟨2, 15, 0, 1, 0⟩ by rfl, show slB T0 (0, 3) = true by decide +kernel] at this
theorem check_nil (W : World) : Calls Tryd.prog 15 #[.slice none 0 0] W fun e w' => e = .returned (.int .i64 120) ∧ Below W.heap.size W w' := by
  have := check_any none 0 0 [] W (hasP_nil W)
  rwa [show chkA [] = 120 by decide] at this
set_option maxRecDepth 100000 in
set_option maxHeartbeats 2000000 in
theorem live_any (w : World) (HT : Hid (Cp.Tabs w)) : Calls Tryd.prog 9 #[] w fun e w' => e = .returned (.bool true) ∧ Below w.heap.size w w' := by
  have mk := make_caps
  have HL1 := hid (lv_one w 59)
  have HL2 := hid (lv_two w 59)
  go_enter Tryd.func9, Tryd.ntmps9
  go_wp2_with fail
  have hS : Tr w := trivial
  go_region_held3 Tr (exact trivial) (fail)
  all_goals clear mk hS
  · clear HL2
    have HL := HL1
    clear HL1
    generalize (((w.alloc (.cells nul 41)).alloc (.cells nul 41)).alloc (.cells #[.slice (some ⟨w.heap.size, 0, none⟩) 8 8, .slice (some ⟨w.heap.size + 1, 0, none⟩) 8 8] 59)).drew = W at HL ⊢
    generalize w.heap.size + 1 + 1 = tb at HL ⊢
    have hS : S2 tb (.slice (some ⟨w.heap.size, 0, none⟩) 8 8) W := HL.out.t0
    have hN := hid HL.out.n2
    go_wp2_with fail
    go_region_held3 (S2 tb (.slice (some ⟨w.heap.size, 0, none⟩) 8 8)) (first | with_reducible assumption | with_reducible exact s2_drew hS | with_reducible exact HS3.out | with_reducible exact s2_drew HS3.out | with_reducible exact s2_five HS3.out hN.out | with_reducible exact s2_drew (s2_five HS3.out hN.out) | with_reducible exact s2_five (s2_drew HS3.out) hN.out)
      (first
        | (go_at_call 25; refine (node_any 1 _).mono ?_; rintro e w3 ⟨rfl, b⟩; have HL3 : Hid (Lv w w3 w.heap.size (w.heap.size + 1) tb) := HL.out.below (by first | exact b | exact q_trans (Below.refl _ W).drew b); have HS3 : Hid (S2 tb (.slice (some ⟨w.heap.size, 0, none⟩) 8 8) w3) := HL3.out.t0; obtain ⟨z0, z1, z2, z3, z4, zf⟩ := HL3.out.slot; clear b)
        | fail)
    have HN5 := hid HL3.out.has
    have HB5 := hid (HL3.out.low5 (u0 := .int .i64 2) (u1 := .int .i64 15) (u2 := .int .i64 0) (u3 := .int .i64 1) (u4 := .int .i64 0))
    generalize ((((w3.setCell ⟨w.heap.size, 15, none⟩ (.int .i64 2)).setCell ⟨w.heap.size, 16, none⟩ (.int .i64 15)).setCell ⟨w.heap.size, 17, none⟩ (.int .i64 0)).setCell ⟨w.heap.size, 18, none⟩ (.int .i64 1)).setCell ⟨w.heap.size, 19, none⟩ (.int .i64 0) = W5 at HN5 HB5 ⊢
    clear HL3 HS3 z0 z1 z2 z3 z4 zf hS hN HL
    go_wp2_with fail
    refine (put193 (one_has W5 (0, 3) 56)).mono ?_
    rintro e w6 ⟨rfl, b6⟩
    have HN6 := hid ((HN5.out.below (alloc_below _ _)).below b6)
    have HB6 := hid (q_trans (q_alloc HB5.out (.cells #[.int .i64 0, .int .i64 3] 56)) b6)
    clear b6 HN5 HB5
    go_wp2_with fail
    refine (parse193 _).mono ?_
    rintro e w7 ⟨lo, lc, rfl, h7, b7⟩
    have HL7 := hid h7
    have HN7 := hid (HN6.out.below b7)
    have HB7 := hid (q_trans HB6.out b7)
    clear b7 h7 HN6 HB6
    go_wp2_with fail
    refine (node_any 0 _).mono ?_
    rintro e w8 ⟨rfl, b8⟩
    have HL8 := hid (HL7.out.below b8)
    have HN8 := hid (HN7.out.below b8)
    have HB8 := hid (q_trans HB7.out b8)
    clear b8 HL7 HN7 HB7
    go_wp2_with fail
    refine (find_one (HT.out.below (q_alloc HB8.out _)) (HN8.out.below (alloc_below _ _)) (two_has w8 0 3 0 5 56)).mono ?_
    rintro e w9 ⟨ko, kc, rfl, b9⟩
    have HL9 := hid ((HL8.out.below (alloc_below _ _)).below b9)
    have HN9 := hid ((HN8.out.below (alloc_below _ _)).below b9)
    have HB9 := hid (q_trans (q_alloc HB8.out _) b9)
    clear b9 HL8 HN8 HB8
    go_wp2_with fail
    have AK9 := hid (at_new w9 (1, 5) 43)
    refine (node_any 0 (w9.alloc (.cells #[.int .i64 1, .int .i64 5] 43))).mono ?_
    rintro e w10 ⟨rfl, b10⟩
    have HL10 := hid ((HL9.out.below (alloc_below _ _)).below b10)
    have HN10 := hid ((HN9.out.below (alloc_below _ _)).below b10)
    have AK10 := hid (AK9.out.below b10)
    have HB10 := hid (q_trans (q_alloc HB9.out _) b10)
    clear b10 HL9 HN9 HB9 AK9
    go_wp2_with fail
    refine (find_two (HT.out.below (q_alloc HB10.out _)) (HN10.out.below (alloc_below _ _)) (two_has w10 0 4 0 5 56)).mono ?_
    rintro e w11 ⟨jo, jn, jc, rfl, b11⟩
    have HL11 := hid ((HL10.out.below (alloc_below _ _)).below b11)
    have HN11 := hid ((HN10.out.below (alloc_below _ _)).below b11)
    have AK11 := hid ((AK10.out.below (alloc_below _ _)).below b11)
    have HB11 := hid (q_trans (q_alloc HB10.out _) b11)
    clear b11 HL10 HN10 HB10 AK10
    go_wp2_with fail
    refine (get_one (HN11.out.below (alloc_below _ _))).mono ?_
    rintro e w12 ⟨rfl, b12⟩
    have HL12 := hid ((HL11.out.below (alloc_below _ _)).below b12)
    have AK12 := hid ((AK11.out.below (alloc_below _ _)).below b12)
    have HB12 := hid (q_trans (q_alloc HB11.out _) b12)
    clear b12 HL11 HN11 HB11 AK11
    go_wp2_with fail
    have HL13 := hid (HL12.out.below (alloc_below w12 (.cells #[.int .i64 2, .int .i64 15, .int .i64 0, .int .i64 1, .int .i64 0] 41)))
    have AK13 := hid (AK12.out.below (alloc_below w12 (.cells #[.int .i64 2, .int .i64 15, .int .i64 0, .int .i64 1, .int .i64 0] 41)))
    have AC13 := hid (atK_new w12 ⟨2, 15, 0, 1, 0⟩ 41)
    have HB13 := hid (q_alloc HB12.out (.cells #[.int .i64 2, .int .i64 15, .int .i64 0, .int .i64 1, .int .i64 0] 41))
    generalize w12.alloc (.cells #[.int .i64 2, .int .i64 15, .int .i64 0, .int .i64 1, .int .i64 0] 41) = W13 at HL13 AK13 AC13 HB13 ⊢
    generalize w12.heap.size = cb at AC13 ⊢
    generalize w9.heap.size = kb at AK13 ⊢
    clear HL12 AK12 HB12
    obtain ⟨la, rfl, cl⟩ := HL13.out.at 0 (by omega)
    obtain ⟨f0, f1⟩ := cl.always
    obtain ⟨k0, k1⟩ := AK13.out.always
    obtain ⟨c0, c1, c2, c3, c4⟩ := AC13.out.always
    simp only [Nat.zero_mul, add_zero_addr] at f0 f1
    have q1 := eqk_yes (a := (1, 5)) (b := (1, 5)) rfl
    have q2 := eqc_yes ⟨2, 15, 0, 1, 0⟩
    have hne : Nonempty (Later W13) := ⟨⟨_, Below.refl _ _⟩⟩
    clear cl HL13 AK13 AC13
    refine wp_region_later (by kernel_rfl) (by kernel_rfl) ?_
    repeat (go_big_quiet_step (first | (go_at_call 14; exact later_same (num_any _ _)) | (go_at_call 25; exact later_call (node_any 1 _)) | (go_at_call 15; exact later_call (check_nil _))))
    refine wpQuiet_nil ?_
    rintro w14 ⟨⟨_, b14⟩, rfl⟩
    have HB14 := hid (q_trans HB13.out b14)
    clear b14 f0 f1 k0 k1 c0 c1 c2 c3 c4 q1 q2 hne
    go_wp2_with fail
    go_ret
    exact ⟨rfl, HB14.out⟩
  · clear HL1
    have HL := HL2
    clear HL2
    generalize (((w.alloc (.cells nul 41)).alloc (.cells nul 41)).alloc (.cells #[.slice (some ⟨w.heap.size + 1, 0, none⟩) 8 8, .slice (some ⟨w.heap.size, 0, none⟩) 8 8] 59)).drew = W at HL ⊢
    generalize w.heap.size + 1 + 1 = tb at HL ⊢
    have hS : S2 tb (.slice (some ⟨(w.heap.size + 1), 0, none⟩) 8 8) W := HL.out.t0
    have hN := hid HL.out.n2
    go_wp2_with fail
    go_region_held3 (S2 tb (.slice (some ⟨(w.heap.size + 1), 0, none⟩) 8 8)) (first | with_reducible assumption | with_reducible exact s2_drew hS | with_reducible exact HS3.out | with_reducible exact s2_drew HS3.out | with_reducible exact s2_five HS3.out hN.out | with_reducible exact s2_drew (s2_five HS3.out hN.out) | with_reducible exact s2_five (s2_drew HS3.out) hN.out)
      (first
        | (go_at_call 25; refine (node_any 1 _).mono ?_; rintro e w3 ⟨rfl, b⟩; have HL3 : Hid (Lv w w3 (w.heap.size + 1) w.heap.size tb) := HL.out.below (by first | exact b | exact q_trans (Below.refl _ W).drew b); have HS3 : Hid (S2 tb (.slice (some ⟨(w.heap.size + 1), 0, none⟩) 8 8) w3) := HL3.out.t0; obtain ⟨z0, z1, z2, z3, z4, zf⟩ := HL3.out.slot; clear b)
        | fail)
    have HN5 := hid HL3.out.has
    have HB5 := hid (HL3.out.low5 (u0 := .int .i64 2) (u1 := .int .i64 15) (u2 := .int .i64 0) (u3 := .int .i64 1) (u4 := .int .i64 0))
    generalize ((((w3.setCell ⟨(w.heap.size + 1), 15, none⟩ (.int .i64 2)).setCell ⟨(w.heap.size + 1), 16, none⟩ (.int .i64 15)).setCell ⟨(w.heap.size + 1), 17, none⟩ (.int .i64 0)).setCell ⟨(w.heap.size + 1), 18, none⟩ (.int .i64 1)).setCell ⟨(w.heap.size + 1), 19, none⟩ (.int .i64 0) = W5 at HN5 HB5 ⊢
    clear HL3 HS3 z0 z1 z2 z3 z4 zf hS hN HL
    go_wp2_with fail
    refine (put193 (one_has W5 (0, 3) 56)).mono ?_
    rintro e w6 ⟨rfl, b6⟩
    have HN6 := hid ((HN5.out.below (alloc_below _ _)).below b6)
    have HB6 := hid (q_trans (q_alloc HB5.out (.cells #[.int .i64 0, .int .i64 3] 56)) b6)
    clear b6 HN5 HB5
    go_wp2_with fail
    refine (parse193 _).mono ?_
    rintro e w7 ⟨lo, lc, rfl, h7, b7⟩
    have HL7 := hid h7
    have HN7 := hid (HN6.out.below b7)
    have HB7 := hid (q_trans HB6.out b7)
    clear b7 h7 HN6 HB6
    go_wp2_with fail
    refine (node_any 0 _).mono ?_
    rintro e w8 ⟨rfl, b8⟩
    have HL8 := hid (HL7.out.below b8)
    have HN8 := hid (HN7.out.below b8)
    have HB8 := hid (q_trans HB7.out b8)
    clear b8 HL7 HN7 HB7
    go_wp2_with fail
    refine (find_one (HT.out.below (q_alloc HB8.out _)) (HN8.out.below (alloc_below _ _)) (two_has w8 0 3 0 5 56)).mono ?_
    rintro e w9 ⟨ko, kc, rfl, b9⟩
    have HL9 := hid ((HL8.out.below (alloc_below _ _)).below b9)
    have HN9 := hid ((HN8.out.below (alloc_below _ _)).below b9)
    have HB9 := hid (q_trans (q_alloc HB8.out _) b9)
    clear b9 HL8 HN8 HB8
    go_wp2_with fail
    have AK9 := hid (at_new w9 (1, 5) 43)
    refine (node_any 0 (w9.alloc (.cells #[.int .i64 1, .int .i64 5] 43))).mono ?_
    rintro e w10 ⟨rfl, b10⟩
    have HL10 := hid ((HL9.out.below (alloc_below _ _)).below b10)
    have HN10 := hid ((HN9.out.below (alloc_below _ _)).below b10)
    have AK10 := hid (AK9.out.below b10)
    have HB10 := hid (q_trans (q_alloc HB9.out _) b10)
    clear b10 HL9 HN9 HB9 AK9
    go_wp2_with fail
    refine (find_two (HT.out.below (q_alloc HB10.out _)) (HN10.out.below (alloc_below _ _)) (two_has w10 0 4 0 5 56)).mono ?_
    rintro e w11 ⟨jo, jn, jc, rfl, b11⟩
    have HL11 := hid ((HL10.out.below (alloc_below _ _)).below b11)
    have HN11 := hid ((HN10.out.below (alloc_below _ _)).below b11)
    have AK11 := hid ((AK10.out.below (alloc_below _ _)).below b11)
    have HB11 := hid (q_trans (q_alloc HB10.out _) b11)
    clear b11 HL10 HN10 HB10 AK10
    go_wp2_with fail
    refine (get_one (HN11.out.below (alloc_below _ _))).mono ?_
    rintro e w12 ⟨rfl, b12⟩
    have HL12 := hid ((HL11.out.below (alloc_below _ _)).below b12)
    have AK12 := hid ((AK11.out.below (alloc_below _ _)).below b12)
    have HB12 := hid (q_trans (q_alloc HB11.out _) b12)
    clear b12 HL11 HN11 HB11 AK11
    go_wp2_with fail
    have HL13 := hid (HL12.out.below (alloc_below w12 (.cells #[.int .i64 2, .int .i64 15, .int .i64 0, .int .i64 1, .int .i64 0] 41)))
    have AK13 := hid (AK12.out.below (alloc_below w12 (.cells #[.int .i64 2, .int .i64 15, .int .i64 0, .int .i64 1, .int .i64 0] 41)))
    have AC13 := hid (atK_new w12 ⟨2, 15, 0, 1, 0⟩ 41)
    have HB13 := hid (q_alloc HB12.out (.cells #[.int .i64 2, .int .i64 15, .int .i64 0, .int .i64 1, .int .i64 0] 41))
    generalize w12.alloc (.cells #[.int .i64 2, .int .i64 15, .int .i64 0, .int .i64 1, .int .i64 0] 41) = W13 at HL13 AK13 AC13 HB13 ⊢
    generalize w12.heap.size = cb at AC13 ⊢
    generalize w9.heap.size = kb at AK13 ⊢
    clear HL12 AK12 HB12
    obtain ⟨la, rfl, cl⟩ := HL13.out.at 0 (by omega)
    obtain ⟨f0, f1⟩ := cl.always
    obtain ⟨k0, k1⟩ := AK13.out.always
    obtain ⟨c0, c1, c2, c3, c4⟩ := AC13.out.always
    simp only [Nat.zero_mul, add_zero_addr] at f0 f1
    have q1 := eqk_yes (a := (1, 5)) (b := (1, 5)) rfl
    have q2 := eqc_yes ⟨2, 15, 0, 1, 0⟩
    have hne : Nonempty (Later W13) := ⟨⟨_, Below.refl _ _⟩⟩
    clear cl HL13 AK13 AC13
    refine wp_region_later (by kernel_rfl) (by kernel_rfl) ?_
    repeat (go_big_quiet_step (first | (go_at_call 14; exact later_same (num_any _ _)) | (go_at_call 25; exact later_call (node_any 1 _)) | (go_at_call 15; exact later_call (check_nil _))))
    refine wpQuiet_nil ?_
    rintro w14 ⟨⟨_, b14⟩, rfl⟩
    have HB14 := hid (q_trans HB13.out b14)
    clear b14 f0 f1 k0 k1 c0 c1 c2 c3 c4 q1 q2 hne
    go_wp2_with fail
    go_ret
    exact ⟨rfl, HB14.out⟩
end Go.Proofs.YthnfekdoibhnpaaDoor.Ad
