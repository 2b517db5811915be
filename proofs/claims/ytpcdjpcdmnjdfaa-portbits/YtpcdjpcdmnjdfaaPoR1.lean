/- What the document's core, find, Is, Same do. -/
import Derived.Test.YtpcdjpcdmnjdfaaPoW1
import Derived.Deep.Cut
namespace Go.Proofs.Ytpcdjpcdmnjdfaa.Po
open Go.RowKit

set_option maxHeartbeats 400000 in
theorem rcore_any (c : Int) (w : World) :
    Calls Try.prog 30 #[.int .i64 c] w fun e w' => e = .returned (.bool (okC c)) ∧ w' = w := by
  by_cases h1 : c ≥ 0
  · by_cases h2 : c < 64
    · have H : Hid (okC c = true) := okC_iff.2 ⟨h1, h2⟩
      go_enter Try.func30, Try.ntmps30
      go_wp2
      go_ret
      exact ⟨ret_bool H.out.symm, rfl⟩
    · have H : Hid (okC c = false) := okC_not.2 (by omega)
      go_enter Try.func30, Try.ntmps30
      go_wp2
      go_ret
      exact ⟨ret_bool H.out.symm, rfl⟩
  · have H : Hid (okC c = false) := okC_not.2 (by omega)
    go_enter Try.func30, Try.ntmps30
    go_wp2
    go_ret
    exact ⟨ret_bool H.out.symm, rfl⟩
theorem rcore_low (c : Int) (w : World) : Calls Try.prog 30 #[.int .i64 c] w fun e w' => e = .returned (.bool (okC c)) ∧ Below w.heap.size w w' :=
  (rcore_any c w).mono fun _ _ ⟨h, e⟩ => ⟨h, e ▸ Below.refl _ _⟩
set_option maxRecDepth 100000 in
set_option maxHeartbeats 1000000 in
theorem rfind_any (p : Pt) (y : Hd) (c : Int) (w : World) (hs : y.n ≤ 5000) (HH : Hid (HasQ w y p.l)) :
    Calls Try.prog 31 #[(.agg #[.int .i64 p.k, .int .i64 p.w, .slice y.o y.n y.c]), .int .i64 c] w fun e w' => e = .returned (.int .i64 (fI c p.l)) ∧ Below w.heap.size w w' := by
  have HN := hid HH.out.len
  go_enter Try.func31, Try.ntmps31
  go_wp2_with fail
  have HP := hid (pb_new w p y)
  have HB := hid (alloc_below w (.cells #[.int .i64 p.k, .int .i64 p.w, .slice y.o y.n y.c] 24))
  generalize w.alloc (.cells #[.int .i64 p.k, .int .i64 p.w, .slice y.o y.n y.c] 24) = W at HP HB ⊢
  go_loop [5] (fun i => ∃ q : Nat, q ≤ y.n ∧ i = .int .i64 q ∧ Hid (∀ j, j < q → Cc p.l j ≠ c)) (fun i => y.n - (intOf i).toNat)
  case atStart => exact ⟨0, Nat.zero_le _, rfl, fun j hj => absurd hj (by omega)⟩
  case round =>
    obtain ⟨q, hq, rfl, HU⟩ := hrel
    have c2 := HP.out.c2
    by_cases hlt : q < y.n
    · have i1 : (0 : Int) ≤ (q : Int) := by omega
      have i2 : (q : Int) < (y.n : Int) := by omega
      have HQ : Hid (q < p.l.length) := by have := HN.out; unfold Hid; omega
      obtain ⟨a, ea, ca⟩ := (HH.out.below HB.out).at q hlt
      rw [ea] at c2
      clear ea
      obtain ⟨x, hx⟩ : ∃ x, p.l.getD q z0 = x := ⟨_, rfl⟩
      have HX := hid hx
      rw [hx] at ca
      have c0 := ca.c0
      clear hx ca
      cases he : (x.c == c) with
      | true =>
        have HR : Hid (fd c p.l = some q) := fd_some.2 ⟨HQ.out, by show (p.l.getD q z0).c = c; rw [HX.out]; simpa using he, HU.out⟩
        go_wp2_with fail
        go_ret
        exact ⟨ret_int (fI_some HR.out).symm, HB.out⟩
      | false =>
        have HE : Hid (Cc p.l q ≠ c) := by show (p.l.getD q z0).c ≠ c; rw [HX.out]; simpa using he
        go_wp2_with fail
        go_round
        case rel =>
          refine ⟨q + 1, by omega, by go_num, fun m hm => ?_⟩
          rcases Nat.lt_or_ge m q with y | y
          · exact HU.out m y
          · obtain rfl : m = q := by omega
            exact HE.out
        case measure => simp [intOf]; omega
    · have HE : Hid (fd c p.l = none) := fd_none.2 fun j hj => HU.out j (by have := HN.out; omega)
      have i2 : ¬ (q : Int) < (y.n : Int) := by omega
      go_wp2_with fail
      go_ret
      exact ⟨ret_int (fI_none HE.out).symm, HB.out⟩
/-- What the first test of Is asks. -/
def tsB (p : Pt) : Bool := ftB p && decide (p.l.length ≤ 64)
theorem ok_ts {p : Pt} : okP p = (tsB p && okL p.l) := by
  rw [Bool.eq_iff_iff]
  simp only [okP, tsB, Bool.and_eq_true, decide_eq_true_eq, okL_iff]
  exact ⟨fun ⟨a, b⟩ => ⟨⟨a, b.few⟩, b⟩, fun ⟨⟨a, _⟩, b⟩ => ⟨a, b⟩⟩
set_option maxRecDepth 100000 in
set_option maxHeartbeats 1000000 in
/-- Is, where the first test refuses. -/
theorem ris_no (p : Pt) (y : Hd) (w : World) (HL : Hid (y.n = p.l.length)) (ht : tsB p = false) :
    Calls Try.prog 15 #[(.agg #[.int .i64 p.k, .int .i64 p.w, .slice y.o y.n y.c])] w fun e w' => e = .returned (.bool (okP p)) ∧ Below w.heap.size w w' := by
  have HR : Hid (okP p = false) := by unfold Hid; rw [ok_ts, ht]; rfl
  have hq : ¬ (ftB p = true ∧ p.l.length ≤ 64) := by
    intro h
    have : tsB p = true := by simp [tsB, h.1, h.2]
    rw [this] at ht
    cases ht
  clear ht
  rw [ftB_iff] at hq
  have hl := HL.out
  by_cases h1 : p.k < 0
  · clear hq hl
    go_enter Try.func15, Try.ntmps15
    go_wp2_with fail
    go_ret
    exact ⟨ret_bool HR.out.symm, alloc_below _ _⟩
  · by_cases h2 : p.k > 2
    · clear hq hl
      go_enter Try.func15, Try.ntmps15
      go_wp2_with fail
      go_ret
      exact ⟨ret_bool HR.out.symm, alloc_below _ _⟩
    · by_cases h3 : p.k = 0
      · by_cases h4 : y.n = 0
        · exfalso
          exact hq ⟨.inl ⟨h3, by omega⟩, by omega⟩
        · have q1 : (p.k == 0) = true := by simp [h3]
          have q2 : ((y.n : Int) == 0) = false := by simp; omega
          clear hq hl h3 h4
          go_enter Try.func15, Try.ntmps15
          go_wp2_with fail
          go_ret
          exact ⟨ret_bool HR.out.symm, alloc_below _ _⟩
      · have q1 : (p.k == 0) = false := by simp [h3]
        have q3 : (p.k != 0) = true := by simp [h3]
        by_cases h4 : y.n = 0
        · have q2 : ((y.n : Int) == 0) = true := by simp; omega
          clear hq hl h3 h4
          go_enter Try.func15, Try.ntmps15
          go_wp2_with fail
          go_ret
          exact ⟨ret_bool HR.out.symm, alloc_below _ _⟩
        · have q2 : ((y.n : Int) == 0) = false := by simp; omega
          by_cases h5 : p.w = 0
          · have q4 : (p.w != 0) = false := by simp [h5]
            have h6 : (y.n : Int) > 64 := by
              rcases Nat.lt_or_ge 64 y.n with g | g
              · omega
              · exact absurd ⟨.inr ⟨by omega, by omega, h5⟩, by omega⟩ hq
            clear hq hl h3 h4 h5
            go_enter Try.func15, Try.ntmps15
            go_wp2_with fail
            go_ret
            exact ⟨ret_bool HR.out.symm, alloc_below _ _⟩
          · have q4 : (p.w != 0) = true := by simp [h5]
            clear hq hl h3 h4 h5
            go_enter Try.func15, Try.ntmps15
            go_wp2_with fail
            go_ret
            exact ⟨ret_bool HR.out.symm, alloc_below _ _⟩
set_option maxRecDepth 100000 in
set_option maxHeartbeats 2000000 in
/-- The loop of Is, given what the first test has. -/
theorem ris_yes (p : Pt) (y : Hd) (w : World) (HH : Hid (HasQ w y p.l)) (h1 : ¬ p.k < 0) (h2 : ¬ p.k > 2) (q1 : (p.k == 0) = ((y.n : Int) == 0)) (q3 : (p.k != 0) = true → (p.w != 0) = false) (h6 : ¬ (y.n : Int) > 64) (HT : Hid (tsB p = true)) :
    Calls Try.prog 15 #[(.agg #[.int .i64 p.k, .int .i64 p.w, .slice y.o y.n y.c])] w fun e w' => e = .returned (.bool (okP p)) ∧ Below w.heap.size w w' := by
  have HN := hid HH.out.len
  have HR : Hid (okP p = okL p.l) := by unfold Hid; rw [ok_ts, HT.out]; rfl
  have main : ∀ (W : World), Hid (Pb W w.heap.size p y) → Hid (Below w.heap.size w W) → True := fun _ _ _ => trivial
  clear main
  cases k0 : (p.k == 0) with
  | true =>
    have q2 : ((y.n : Int) == 0) = true := by rw [← q1]; exact k0
    have q4 : (p.k != 0) = false := by simpa using k0
    clear q1 q3
    have HO : Hid (okL p.l = true) := okL_iff.2 fun i hi => by have := HN.out; simp at q2; omega
    have n0 : ¬ (0 : Int) < (y.n : Int) := by simp at q2; omega
    have n1 : ¬ 0 < y.n := by simp at q2; omega
    go_enter Try.func15, Try.ntmps15
    go_wp2_with fail
    have HP := hid (pb_new w p y)
    have HB := hid (alloc_below w (.cells #[.int .i64 p.k, .int .i64 p.w, .slice y.o y.n y.c] 24))
    generalize w.alloc (.cells #[.int .i64 p.k, .int .i64 p.w, .slice y.o y.n y.c] 24) = W at HP HB ⊢
    go_loop [3] (fun i => i = .int .i64 0) (fun i => 0)
    case atStart => rfl
    case round =>
      subst hrel
      have c2 := HP.out.c2
      go_wp2_with fail
      go_ret
      exact ⟨ret_bool (HR.out.trans HO.out).symm, HB.out⟩
  | false =>
    have q2 : ((y.n : Int) == 0) = false := by rw [← q1]; exact k0
    have q4 : (p.k != 0) = true := by simpa using k0
    have q5 := q3 q4
    clear q1 q3
    go_enter Try.func15, Try.ntmps15
    go_wp2_with fail
    have HP := hid (pb_new w p y)
    have HB := hid (alloc_below w (.cells #[.int .i64 p.k, .int .i64 p.w, .slice y.o y.n y.c] 24))
    generalize w.alloc (.cells #[.int .i64 p.k, .int .i64 p.w, .slice y.o y.n y.c] 24) = W at HP HB ⊢
    go_loopw [3] (fun i wr => ∃ q : Nat, q ≤ y.n ∧ i = .int .i64 q ∧ Hid (∀ i, i < q → okC (Cc p.l i) = true ∧ ∀ j, j < i → Cc p.l j ≠ Cc p.l i) ∧ Hid (Pb wr w.heap.size p y) ∧ Hid (Below w.heap.size w wr)) (fun i _ => y.n - (intOf i).toNat)
    case atStart => exact ⟨0, Nat.zero_le _, rfl, fun j hj => absurd hj (by omega), HP, HB⟩
    case round =>
      obtain ⟨q, hq, rfl, HG, HP, HB⟩ := hrel
      have c2 := HP.out.c2
      by_cases hlt : q < y.n
      · have i1 : (0 : Int) ≤ (q : Int) := by omega
        have i2 : (q : Int) < (y.n : Int) := by omega
        have HQ : Hid (q < p.l.length) := by have := HN.out; unfold Hid; omega
        obtain ⟨a, ea, ca⟩ := (HH.out.below HB.out).at q hlt
        rw [ea] at c2
        obtain ⟨x, hx⟩ : ∃ x, p.l.getD q z0 = x := ⟨_, rfl⟩
        have HX := hid hx
        rw [hx] at ca
        go_upto_region 6 with fail
        have HF : Hid (∀ X, Below wr.heap.size wr X → Calls Try.prog 31 #[.agg #[.int .i64 p.k, .int .i64 p.w, .slice (some a) y.n y.c], .int .i64 x.c] X fun e w' => e = .returned (.int .i64 (fI x.c p.l)) ∧ Below X.heap.size X w') := fun X b => by rw [← ea]; exact rfind_any p y x.c X (by omega) (HH.out.below (q_trans HB.out b))
        have HK := hid (fun X => rcore_low x.c X)
        obtain ⟨a0, _, _, _, _, _, _, _⟩ := ca.always
        obtain ⟨b0, b1, b2⟩ := HP.out.always
        rw [ea] at b2
        have hne : Nonempty (Later wr) := ⟨⟨_, Below.refl _ _⟩⟩
        clear c2 ca hx ea
        cases hc : okC x.c with
        | false =>
          have HRf : Hid (okL p.l = false) := okL_not.2 fun h => by
            have := (h q HQ.out).1
            unfold Cc at this
            rw [HX.out, hc] at this
            cases this
          rw [hc] at HK
          clear hc
          refine wp_region_later (by kernel_rfl) (by kernel_rfl) ?_
          repeat (go_big_quiet_step (first | (go_at_call 30; with_reducible exact later_call (HK.out _)) | (go_at_call 31; with_reducible exact later_call (HF.out _ (Later.low _)))))
          refine wpQuiet_nil ?_
          rintro w9 ⟨⟨_, b9⟩, rfl⟩
          replace HB := hid (q_trans HB.out b9)
          clear b9
          go_wp2_with fail
          go_ret
          exact ⟨ret_bool (HR.out.trans HRf.out).symm, HB.out⟩
        | true =>
          rw [hc] at HK
          have HC := hid hc
          clear hc
          obtain ⟨v, hv⟩ : ∃ v, fI x.c p.l = v := ⟨_, rfl⟩
          rw [hv] at HF
          by_cases hvq : v = (q : Int)
          · have hvq1 : (v != (q : Int)) = false := by simp [hvq]
            have HG2 : Hid (∀ i, i < q + 1 → okC (Cc p.l i) = true ∧ ∀ j, j < i → Cc p.l j ≠ Cc p.l i) := fun i hi => by
              rcases Nat.lt_or_ge i q with g | g
              · exact HG.out i g
              · obtain rfl : i = q := by omega
                have e : Cc p.l i = x.c := by unfold Cc; rw [HX.out]
                rw [e]
                refine ⟨HC.out, ?_⟩
                cases hf : fd x.c p.l with
                | none => rw [fI_none hf] at hv; omega
                | some m =>
                  rw [fI_some hf] at hv
                  obtain rfl : m = i := by omega
                  exact (fd_some.1 hf).2.2
            clear hv hvq
            refine wp_region_later (by kernel_rfl) (by kernel_rfl) ?_
            repeat (go_big_quiet_step (first | (go_at_call 30; with_reducible exact later_call (HK.out _)) | (go_at_call 31; with_reducible exact later_call (HF.out _ (Later.low _)))))
            refine wpQuiet_nil ?_
            rintro w9 ⟨⟨_, b9⟩, rfl⟩
            replace HB := hid (q_trans HB.out b9)
            replace HP := hid (HP.out.below b9)
            clear b9
            go_wp2_with fail
            go_roundw
            case rel => exact ⟨q + 1, by omega, by go_num, HG2, HP, HB⟩
            case measure => simp [intOf]; omega
          · have hvq1 : (v != (q : Int)) = true := by simp [hvq]
            have HRf : Hid (okL p.l = false) := okL_not.2 fun h => by
              have e : Cc p.l q = x.c := by unfold Cc; rw [HX.out]
              have h9 := (h q HQ.out).2
              rw [e] at h9
              rw [fI_some (fd_some.2 ⟨HQ.out, e, h9⟩)] at hv
              exact hvq hv.symm
            clear hv hvq
            refine wp_region_later (by kernel_rfl) (by kernel_rfl) ?_
            repeat (go_big_quiet_step (first | (go_at_call 30; with_reducible exact later_call (HK.out _)) | (go_at_call 31; with_reducible exact later_call (HF.out _ (Later.low _)))))
            refine wpQuiet_nil ?_
            rintro w9 ⟨⟨_, b9⟩, rfl⟩
            replace HB := hid (q_trans HB.out b9)
            clear b9
            go_wp2_with fail
            go_ret
            exact ⟨ret_bool (HR.out.trans HRf.out).symm, HB.out⟩
      · have HO : Hid (okL p.l = true) := okL_iff.2 (fun i hi => HG.out i (by have := HN.out; omega))
        have i2 : ¬ (q : Int) < (y.n : Int) := by omega
        go_wp2_with fail
        go_ret
        exact ⟨ret_bool (HR.out.trans HO.out).symm, HB.out⟩
/-- Is: WHETHER A PORT MAY BE. -/
theorem ris_any (p : Pt) (y : Hd) (w : World) (HH : HasQ w y p.l) :
    Calls Try.prog 15 #[(.agg #[.int .i64 p.k, .int .i64 p.w, .slice y.o y.n y.c])] w fun e w' => e = .returned (.bool (okP p)) ∧ Below w.heap.size w w' := by
  cases ht : tsB p with
  | false => exact ris_no p y w HH.len ht
  | true =>
    have h : ftB p = true ∧ p.l.length ≤ 64 := by simpa [tsB] using ht
    have hl := HH.len
    rcases ftB_iff.1 h.1 with ⟨hk, hn⟩ | ⟨hk, hn, hw⟩
    · exact ris_yes p y w HH (by omega) (by omega) (by rw [show y.n = 0 by omega, hk]; rfl) (by rw [hk]; intro g; cases g) (by omega) ht
    · exact ris_yes p y w HH (by omega) (by omega) (by rw [Bool.eq_iff_iff]; simp; omega) (by intro _; simp [hw]) (by omega) ht
end Go.Proofs.Ytpcdjpcdmnjdfaa.Po
