/- What num, who, isCore, fits, mayWait, Check do. -/
import Derived.Test.YtpcdjpcdmnjdfabPoMem
import Derived.Laws.NewBlocks
namespace Go.Proofs.Ytpcdjpcdmnjdfab.Po
open Go.RowKit

set_option maxHeartbeats 400000 in
theorem num_any (x : Int) (w : World) :
    Calls Try.prog 8 #[.int .i64 x] w fun e w' => e = .returned (.int .i64 x) ∧ w' = w := by
  go_enter Try.func8, Try.ntmps8
  go_wp2
  go_ret
  exact ⟨rfl, rfl⟩
theorem num_low (x : Int) (w : World) : Calls Try.prog 8 #[.int .i64 x] w fun e w' => e = .returned (.int .i64 x) ∧ Below w.heap.size w w' :=
  (num_any x w).mono fun _ _ ⟨h, e⟩ => ⟨h, e ▸ Below.refl _ _⟩
set_option maxHeartbeats 400000 in
theorem isCore_any (c : Int) (w : World) :
    Calls Try.prog 25 #[.int .i64 c] w fun e w' => e = .returned (.bool (okC c)) ∧ w' = w := by
  by_cases h1 : c ≥ 0
  · by_cases h2 : c < 64
    · have H : Hid (okC c = true) := okC_iff.2 ⟨h1, h2⟩
      go_enter Try.func25, Try.ntmps25
      go_wp2
      go_ret
      exact ⟨ret_bool H.out.symm, rfl⟩
    · have H : Hid (okC c = false) := okC_not.2 (by omega)
      go_enter Try.func25, Try.ntmps25
      go_wp2
      go_ret
      exact ⟨ret_bool H.out.symm, rfl⟩
  · have H : Hid (okC c = false) := okC_not.2 (by omega)
    go_enter Try.func25, Try.ntmps25
    go_wp2
    go_ret
    exact ⟨ret_bool H.out.symm, rfl⟩
set_option maxHeartbeats 1000000 in
/-- fits: WHETHER A PORT HAS WHAT ITS KIND MAY HAVE. -/
theorem fits_any (p : Pt) (y : Hd) (w : World) (HL : Hid (y.n = p.l.length)) :
    Calls Try.prog 21 #[(.agg #[.int .i64 p.k, .int .i64 p.w, .slice y.o y.n y.c])] w fun e w' => e = .returned (.bool (ftB p)) ∧ Below w.heap.size w w' := by
  obtain ⟨k, v, l⟩ := p
  obtain ⟨ao, n, cap⟩ := y
  replace HL : Hid (n = l.length) := HL.out
  by_cases h0 : k = 0
  · subst h0
    by_cases hn : (n : Int) = 0
    · have H : Hid (ftB ⟨0, v, l⟩ = true) := ftB_iff.2 (.inl ⟨rfl, by have := HL.out; show l.length = 0; omega⟩)
      have q1 : ((n : Int) == 0) = true := by simp; omega
      clear hn
      go_enter Try.func21, Try.ntmps21
      go_wp2_with fail
      go_ret
      exact ⟨ret_bool H.out.symm, alloc_below _ _⟩
    · have H : Hid (ftB ⟨0, v, l⟩ = false) := by
        show ftB _ = false
        rw [← Bool.not_eq_true, ftB_iff]
        have := HL.out
        rintro (⟨_, h⟩ | ⟨h, _⟩)
        · have h : l.length = 0 := h
          omega
        · have h : (0 : Int) = 1 ∨ (0 : Int) = 2 := h
          omega
      have q1 : ((n : Int) == 0) = false := by simp; omega
      clear hn
      go_enter Try.func21, Try.ntmps21
      go_wp2_with fail
      go_ret
      exact ⟨ret_bool H.out.symm, alloc_below _ _⟩
  · by_cases h1 : k = 1 ∨ k = 2
    · by_cases hn : (n : Int) > 0
      · by_cases hv : v = 0
        · have H : Hid (ftB ⟨k, v, l⟩ = true) := ftB_iff.2 (.inr ⟨h1, by have := HL.out; show 0 < l.length; omega, hv⟩)
          rcases h1 with rfl | rfl
          · go_enter Try.func21, Try.ntmps21
            go_wp2_with fail
            go_ret
            exact ⟨ret_bool H.out.symm, alloc_below _ _⟩
          · go_enter Try.func21, Try.ntmps21
            go_wp2_with fail
            go_ret
            exact ⟨ret_bool H.out.symm, alloc_below _ _⟩
        · have H : Hid (ftB ⟨k, v, l⟩ = false) := by
            show ftB _ = false
            rw [← Bool.not_eq_true, ftB_iff]
            rintro (⟨h, _⟩ | ⟨_, _, h⟩)
            · exact h0 h
            · exact hv h
          have q1 : (v == 0) = false := by simp; omega
          rcases h1 with rfl | rfl
          · go_enter Try.func21, Try.ntmps21
            go_wp2_with fail
            go_ret
            exact ⟨ret_bool H.out.symm, alloc_below _ _⟩
          · go_enter Try.func21, Try.ntmps21
            go_wp2_with fail
            go_ret
            exact ⟨ret_bool H.out.symm, alloc_below _ _⟩
      · have H : Hid (ftB ⟨k, v, l⟩ = false) := by
          show ftB _ = false
          rw [← Bool.not_eq_true, ftB_iff]
          have := HL.out
          simp
          omega
        rcases h1 with rfl | rfl
        · go_enter Try.func21, Try.ntmps21
          go_wp2_with fail
          go_ret
          exact ⟨ret_bool H.out.symm, alloc_below _ _⟩
        · go_enter Try.func21, Try.ntmps21
          go_wp2_with fail
          go_ret
          exact ⟨ret_bool H.out.symm, alloc_below _ _⟩
    · have H : Hid (ftB ⟨k, v, l⟩ = false) := by
        show ftB _ = false
        rw [← Bool.not_eq_true, ftB_iff]
        simp
        omega
      have q1 : (k == 1) = false := by simp; omega
      have q2 : (k == 2) = false := by simp; omega
      have q0 : (k == 0) = false := by simp; omega
      clear h0 h1
      go_enter Try.func21, Try.ntmps21
      go_wp2_with fail
      go_ret
      exact ⟨ret_bool H.out.symm, alloc_below _ _⟩
/-- 64 bools that may be written. -/
structure Sn (w : World) (b : Nat) (s : Nat → Bool) : Prop where
  cell : ∀ c, c < 64 → w.cell? ⟨b, c, none⟩ = some (.bool (s c))
  free : ∀ c, c < 64 → w.frozen? ⟨b, c, none⟩ = false
theorem Sn.lt {w : World} {b : Nat} {s : Nat → Bool} (h : Sn w b s) : b < w.heap.size := World.block_lt_of_cell? w _ (h.cell 0 (by omega))
theorem Sn.below {w w' : World} {b : Nat} {s : Nat → Bool} (h : Sn w b s) (q : Below w.heap.size w w') : Sn w' b s :=
  ⟨fun c hc => (q.cell (p := ⟨b, c, none⟩) h.lt).trans (h.cell c hc), fun c hc => (q.frozen (p := ⟨b, c, none⟩) h.lt).trans (h.free c hc)⟩
theorem far0 {b c i j : Nat} (h : b ≠ c ∨ i ≠ j) : (⟨b, i, none⟩ : Addr) ≠ ⟨c, j, none⟩ := by
  intro e
  injection e with h1 h2
  omega
theorem sn_set {w : World} {b c : Nat} {s : Nat → Bool} (h : Sn w b s) (hc : c < 64) : Sn (w.setCell ⟨b, c, none⟩ (.bool true)) b (fun j => decide (j = c) || s j) := by
  refine ⟨fun j hj => ?_, fun j hj => by rw [World.frozen?_setCell]; exact h.free j hj⟩
  by_cases e : j = c
  · subst e
    rw [World.cell?_setCell_same' _ _ _ (by rw [h.cell j hc]; rfl)]
    simp
  · rw [World.cell?_setCell_other _ _ _ _ (far0 (.inr (Ne.symm e))), h.cell j hj]
    simp [e]
def sn (l : List Wt) (q : Nat) (c : Nat) : Bool := decide (∃ j, j < q ∧ Cc l j = (c : Int))
theorem sn_zero (l : List Wt) : sn l 0 = fun _ => false := by
  funext c
  simp [sn]
theorem sn_succ {l : List Wt} {q c : Nat} (h : Cc l q = (c : Int)) : sn l (q + 1) = fun j => decide (j = c) || sn l q j := by
  funext j
  rw [Bool.eq_iff_iff]
  simp only [sn, decide_eq_true_eq, Bool.or_eq_true]
  constructor
  · rintro ⟨m, hm, e⟩
    rcases Nat.lt_or_ge m q with y | y
    · exact .inr ⟨m, y, e⟩
    · obtain rfl : m = q := by omega
      left
      omega
  · rintro (rfl | ⟨m, hm, e⟩)
    · exact ⟨q, by omega, h⟩
    · exact ⟨m, by omega, e⟩
theorem arr64 (C : Array Value) (hC : C = Array.replicate 64 (.bool false)) (w : World) (t : TypeId) : Sn (w.alloc (.cells C t)) w.heap.size (fun _ => false) := by
  refine ⟨fun c hc => ?_, fun c hc => ?_⟩
  · unfold World.cell?
    rw [show (w.alloc (.cells C t)).heap[(⟨w.heap.size, c, none⟩ : Addr).block]? = some (.cells C t) from heap_alloc_new w _]
    subst hC
    simp [hc]
  · unfold World.frozen?
    rw [show (w.alloc (.cells C t)).heap[(⟨w.heap.size, c, none⟩ : Addr).block]? = some (.cells C t) from heap_alloc_new w _]
    simp
set_option maxRecDepth 100000 in
set_option maxHeartbeats 2000000 in
/-- mayWait: WHETHER THEY MAY WAIT. -/
theorem mayWait_any (ao : Option Addr) (n cap : Nat) (l : List Wt) (w : World) (hs : n ≤ 5000) (HH : Hid (HasQ w ⟨ao, n, cap⟩ l)) :
    Calls Try.prog 22 #[.slice ao n cap] w fun e w' => e = .returned (.bool (okL l)) ∧ Below w.heap.size w w' := by
  have HN : Hid (n = l.length) := HH.out.len
  go_enter Try.func22, Try.ntmps22
  go_wp2_with fail
  generalize hW : w.alloc _ = W0
  have HC : Hid (Sn W0 w.heap.size (sn l 0)) := by rw [← hW, sn_zero]; exact arr64 _ rfl w _
  have HB0 : Hid (Below w.heap.size w W0) := by rw [← hW]; exact alloc_below w _
  clear hW
  go_loopw [8] (fun i wr => ∃ q : Nat, q ≤ n ∧ i = .int .i64 q ∧ Hid (∀ i, i < q → okC (Cc l i) = true ∧ ∀ j, j < i → Cc l j ≠ Cc l i) ∧ Hid (Sn wr w.heap.size (sn l q)) ∧ Hid (Below w.heap.size w wr)) (fun i _ => n - (intOf i).toNat)
  case atStart => exact ⟨0, Nat.zero_le _, rfl, fun c hc => absurd hc (by omega), HC, HB0⟩
  case round =>
    obtain ⟨q, hq, rfl, HG, HS, HB⟩ := hrel
    clear HC HB0
    by_cases hlt : q < n
    · have i1 : (0 : Int) ≤ (q : Int) := by omega
      have i2 : (q : Int) < (n : Int) := by omega
      have HQ : Hid (q < l.length) := by have := HN.out; unfold Hid; omega
      obtain ⟨a, ea, ca⟩ := (HH.out.below HB.out).at q hlt
      obtain rfl : ao = some a := ea
      obtain ⟨x, hx⟩ : ∃ x, l.getD q z0 = x := ⟨_, rfl⟩
      have HX := hid hx
      rw [hx] at ca
      obtain ⟨c0, c1, c2, c3, c4, c5, c6, c7⟩ := ca
      clear hx
      have HS9 := hid (HS.out.below (alloc_below wr (.cells #[.int .i64 x.c, .int .i64 x.v, .int .i64 x.b, .bool x.h, .int .i64 x.o, .int .i64 x.s, .int .i64 x.g, .bool x.t] 30)))
      have HB9 := hid (q_alloc HB.out (.cells #[.int .i64 x.c, .int .i64 x.v, .int .i64 x.b, .bool x.h, .int .i64 x.o, .int .i64 x.s, .int .i64 x.g, .bool x.t] 30))
      cases hc : okC x.c with
      | false =>
        have HR : Hid (okL l = false) := okL_not.2 fun h => by
          have := (h q HQ.out).1
          unfold Cc at this
          rw [HX.out, hc] at this
          cases this
        go_wp2_with (go_at_call 25; refine (isCore_any _ _).mono ?_; rintro e w8 ⟨rfl, hw⟩; rw [hw, hc]; clear hw w8)
        go_ret
        exact ⟨ret_bool HR.out.symm, HB9.out⟩
      | true =>
        obtain ⟨h1, h2⟩ := okC_iff.1 hc
        obtain ⟨c, hcc⟩ := Int.eq_ofNat_of_zero_le h1
        have HCC : Hid (Cc l q = (c : Int)) := by unfold Hid Cc; rw [HX.out]; exact hcc
        rw [hcc] at hc h2 c0
        have i5 : (0 : Int) ≤ (c : Int) := by omega
        have i6 : c < 64 := by omega
        have i7 : (c : Int) < 64 := by omega
        have d0 := HS9.out.cell c i6
        have f0 := HS9.out.free c i6
        have hlw : w.heap.size < wr.heap.size := HS.out.lt
        clear h1 h2
        rw [hcc] at HS9 HB9 d0 f0
        cases hsn : sn l q c with
        | true =>
          rw [hsn] at d0
          have HR : Hid (okL l = false) := okL_not.2 fun h => by
            simp only [sn, decide_eq_true_eq] at hsn
            obtain ⟨j, hj, e⟩ := hsn
            exact (h q HQ.out).2 j hj (e.trans HCC.out.symm)
          clear hsn
          go_wp2_with (go_at_call 25; refine (isCore_any _ _).mono ?_; rintro e w8 ⟨rfl, hw⟩; rw [hw, hc]; clear hw w8)
          go_ret
          exact ⟨ret_bool HR.out.symm, HB9.out⟩
        | false =>
          rw [hsn] at d0
          have HS2 := hid ((sn_set HS.out i6).below (alloc_below _ (.cells #[.int .i64 x.c, .int .i64 x.v, .int .i64 x.b, .bool x.h, .int .i64 x.o, .int .i64 x.s, .int .i64 x.g, .bool x.t] 30)))
          rw [← sn_succ HCC.out, hcc] at HS2
          have HB2 := hid (q_alloc (q_set HB.out (p := ⟨w.heap.size, c, none⟩) (Nat.le_refl _) (.bool true)) (.cells #[.int .i64 x.c, .int .i64 x.v, .int .i64 x.b, .bool x.h, .int .i64 x.o, .int .i64 x.s, .int .i64 x.g, .bool x.t] 30))
          rw [hcc] at HB2
          have HG2 : Hid (∀ i, i < q + 1 → okC (Cc l i) = true ∧ ∀ j, j < i → Cc l j ≠ Cc l i) := fun i hi => by
            rcases Nat.lt_or_ge i q with y | y
            · exact HG.out i y
            · obtain rfl : i = q := by omega
              rw [HCC.out]
              refine ⟨hc, fun j hj e => ?_⟩
              simp only [sn, decide_eq_false_iff_not] at hsn
              exact hsn ⟨j, hj, e⟩
          clear hsn
          go_wp2_with (go_at_call 25; refine (isCore_any _ _).mono ?_; rintro e w8 ⟨rfl, hw⟩; rw [hw, hc]; clear hw w8)
          go_roundw
          case rel => exact ⟨q + 1, by omega, by go_num, HG2, HS2, HB2⟩
          case measure => simp [intOf]; omega
    · obtain rfl : q = n := by omega
      have HR : Hid (okL l = true) := okL_iff.2 (fun i hi => HG.out i (by have := HN.out; omega))
      go_wp2_with fail
      go_ret
      exact ⟨ret_bool HR.out.symm, HB.out⟩
set_option maxHeartbeats 1000000 in
/-- Check: WHETHER A PORT MAY BE. -/
theorem pcheck_any (p : Pt) (y : Hd) (w : World) (hs : y.n ≤ 5000) (HH : Hid (HasQ w y p.l)) :
    Calls Try.prog 13 #[(.agg #[.int .i64 p.k, .int .i64 p.w, .slice y.o y.n y.c])] w fun e w' => e = .returned (.int .i64 (ckE p)) ∧ Below w.heap.size w w' := by
  go_enter Try.func13, Try.ntmps13
  go_wp2_with fail
  have HP := hid (pb_new w p y)
  have HB := hid (alloc_below w (.cells #[.int .i64 p.k, .int .i64 p.w, .slice y.o y.n y.c] 25))
  generalize w.alloc (.cells #[.int .i64 p.k, .int .i64 p.w, .slice y.o y.n y.c] 25) = W at HP HB ⊢
  refine (fits_any p y W HH.out.len).mono ?_
  rintro e w1 ⟨rfl, b1⟩
  replace HP := hid (HP.out.below b1)
  replace HB := hid (q_trans HB.out b1)
  clear b1
  have c2 := HP.out.c2
  cases h1 : ftB p with
  | false =>
    have HR : Hid (ckE p = 2) := ck_no (by simp [okP, h1])
    clear h1
    go_wp2_with fail
    go_ret
    exact ⟨ret_int HR.out.symm, HB.out⟩
  | true =>
    have H1 := hid h1
    clear h1
    go_wp2_with fail
    refine (mayWait_any y.o y.n y.c p.l w1 hs (HH.out.below HB.out)).mono ?_
    rintro e w2 ⟨rfl, b2⟩
    replace HB := hid (q_trans HB.out b2)
    clear b2
    cases h2 : okL p.l with
    | false =>
      have HR : Hid (ckE p = 2) := ck_no (by simp [okP, h2])
      clear h2
      go_wp2_with fail
      go_ret
      exact ⟨ret_int HR.out.symm, HB.out⟩
    | true =>
      have HR : Hid (ckE p = 0) := ck_yes (by simp [okP, h2, H1.out])
      clear h2
      go_wp2_with fail
      go_ret
      exact ⟨ret_int HR.out.symm, HB.out⟩
end Go.Proofs.Ytpcdjpcdmnjdfab.Po
