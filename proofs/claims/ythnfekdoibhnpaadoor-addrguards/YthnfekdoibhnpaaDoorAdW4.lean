/- What the program's isNode, Get, opens do. -/
import Derived.Test.YthnfekdoibhnpaaDoorAdRGet
import Derived.Test.YthnfekdoibhnpaaDoorCqW5
namespace Go.Proofs.YthnfekdoibhnpaaDoor.Ad
open Go.RowKit
open Cp (K)

/-- A node of t. -/
def ndB (t : List (List K)) (o : Int) : Bool := decide (0 ≤ o ∧ o < t.length ∧ (t.getD o.toNat []).length = 8)
theorem nd_iff {t : List (List K)} {o : Int} : ndB t o = true ↔ (0 ≤ o ∧ o < t.length ∧ (t.getD o.toNat []).length = 8) := by simp [ndB]
theorem nd_not {t : List (List K)} {o : Int} : ndB t o = false ↔ ¬ (0 ≤ o ∧ o < t.length ∧ (t.getD o.toNat []).length = 8) := by simp [ndB]
theorem sl_nd {t : List (List K)} {o s : Int} : slB t (o, s) = true ↔ (ndB t o = true ∧ 0 ≤ s ∧ s < 8) := by
  rw [slB_iff, nd_iff]
  constructor
  · rintro ⟨a, b, c, d, e⟩; exact ⟨⟨a, b, c⟩, d, e⟩
  · rintro ⟨⟨a, b, c⟩, d, e⟩; exact ⟨a, b, c, d, e⟩
set_option maxHeartbeats 1000000 in
theorem isNode_any (to : Option Addr) (n cap : Nat) (t : List (List K)) (o : Int) (w : World) (HH : Hid (HasN w to n cap t)) :
    Calls Tryd.prog 35 #[.slice to n cap, .int .i64 o] w fun e w' => e = .returned (.bool (ndB t o)) ∧ w' = w := by
  have HL := hid HH.out.len
  by_cases h1 : 0 ≤ o
  · obtain ⟨o, rfl⟩ := Int.eq_ofNat_of_zero_le h1
    by_cases h2 : o < n
    · obtain ⟨a, x, m, c, rfl, hc, hk⟩ := HH.out.cell o h2
      have HM := hid hk.len
      have i2 : (o : Int) < (n : Int) := by omega
      by_cases h3 : m = 8
      · subst h3
        have HS : Hid (ndB t (o : Int) = true) := nd_iff.2 ⟨by omega, by have := HL.out; omega, by simpa using HM.out.symm⟩
        clear hk
        go_enter Tryd.func35, Tryd.ntmps35
        go_wp2_with fail
        go_ret
        exact ⟨ret_bool HS.out.symm, rfl⟩
      · have HS : Hid (ndB t (o : Int) = false) := nd_not.2 (by rintro ⟨_, _, q⟩; have := HM.out; simp at q this; omega)
        have i3 : ((m : Int) == 8) = false := by rw [beq_eq_false_iff_ne]; omega
        clear hk h3
        go_enter Tryd.func35, Tryd.ntmps35
        go_wp2_with fail
        go_ret
        exact ⟨ret_bool HS.out.symm, rfl⟩
    · have HS : Hid (ndB t (o : Int) = false) := nd_not.2 (by have := HL.out; omega)
      have i2 : ¬ (o : Int) < (n : Int) := by omega
      go_enter Tryd.func35, Tryd.ntmps35
      go_wp2_with fail
      go_ret
      exact ⟨ret_bool HS.out.symm, rfl⟩
  · have HS : Hid (ndB t o = false) := nd_not.2 (by omega)
    go_enter Tryd.func35, Tryd.ntmps35
    go_wp2_with fail
    go_ret
    exact ⟨ret_bool HS.out.symm, rfl⟩
theorem below_same {w : World} {P : Program} {f : FuncId} {args : Array Value} {v : Value} (h : Calls P f args w fun e w' => e = .returned v ∧ w' = w) : Calls P f args w fun e w' => e = .returned v ∧ Below w.heap.size w w' :=
  h.mono fun _ _ ⟨a, b⟩ => ⟨a, b ▸ Below.refl _ _⟩
set_option maxRecDepth 100000 in
set_option maxHeartbeats 1000000 in
theorem opens_any (to : Option Addr) (n cap : Nat) (t : List (List K)) (c : K) (g : Int) (w : World) (HT : Hid (Cp.Tabs w)) (HH : Hid (HasN w to n cap t)) :
    Calls Tryd.prog 33 #[.slice to n cap, (.agg #[.int .i64 c.t, .int .i64 c.r, .int .i64 c.b, .int .i64 c.o, .int .i64 c.g]), .int .i64 g] w fun e w' => e = .returned (.bool (c.t == 2 && (mayB c 1 && (c.b == g && ndB t c.o)))) ∧ Below w.heap.size w w' := by
  have HI := hid (atK_new w c 41)
  have HM : Hid (∀ W : World, Cp.Tabs W → Calls Tryd.prog 40 #[(.agg #[.int .i64 c.t, .int .i64 c.r, .int .i64 c.b, .int .i64 c.o, .int .i64 c.g]), .int .i64 1] W fun e w' => e = .returned (.bool (mayB c 1)) ∧ Below W.heap.size W w') := fun W hW => Cp.may_any c 1 W hW
  cases h1 : (c.t == 2) with
  | false =>
    go_enter Tryd.func33, Tryd.ntmps33
    go_wp2_with fail
    go_ret
    exact ⟨rfl, alloc_below _ _⟩
  | true =>
    cases h2 : mayB c 1 with
    | false =>
      rw [h2] at HM
      go_enter Tryd.func33, Tryd.ntmps33
      go_wp2_with fail
      refine (HM.out _ (HT.out.below (alloc_below _ _))).mono ?_
      rintro e w1 ⟨rfl, b1⟩
      have HB1 := hid (q_trans (alloc_below w (.cells #[.int .i64 c.t, .int .i64 c.r, .int .i64 c.b, .int .i64 c.o, .int .i64 c.g] 41)) b1)
      clear b1 h2
      go_wp2_with fail
      go_ret
      exact ⟨rfl, HB1.out⟩
    | true =>
      rw [h2] at HM
      cases h3 : (c.b == g) with
      | false =>
        go_enter Tryd.func33, Tryd.ntmps33
        go_wp2_with fail
        refine (HM.out _ (HT.out.below (alloc_below _ _))).mono ?_
        rintro e w1 ⟨rfl, b1⟩
        have HB1 := hid (q_trans (alloc_below w (.cells #[.int .i64 c.t, .int .i64 c.r, .int .i64 c.b, .int .i64 c.o, .int .i64 c.g] 41)) b1)
        obtain ⟨c0, c1, c2, c3, c4⟩ := HI.out.below b1
        clear b1 h2
        go_wp2_with fail
        go_ret
        exact ⟨rfl, HB1.out⟩
      | true =>
        go_enter Tryd.func33, Tryd.ntmps33
        go_wp2_with fail
        refine (HM.out _ (HT.out.below (alloc_below _ _))).mono ?_
        rintro e w1 ⟨rfl, b1⟩
        have HB1 := hid (q_trans (alloc_below w (.cells #[.int .i64 c.t, .int .i64 c.r, .int .i64 c.b, .int .i64 c.o, .int .i64 c.g] 41)) b1)
        obtain ⟨c0, c1, c2, c3, c4⟩ := HI.out.below b1
        clear b1 h2
        go_wp2_with (go_at_call 35; refine (isNode_any to n cap t c.o _ (HH.out.below HB1.out)).mono ?_; rintro e w2 ⟨rfl, rfl⟩)
        go_ret
        exact ⟨rfl, HB1.out⟩
set_option maxRecDepth 100000 in
set_option maxHeartbeats 1000000 in
theorem pGet_no (to : Option Addr) (n cap : Nat) (t : List (List K)) (k : P) (w : World) (h : slB t k = false) (HH : Hid (HasN w to n cap t)) :
    Calls Tryd.prog 21 #[.slice to n cap, (.agg #[.int .i64 k.1, .int .i64 k.2])] w fun e w' => e = .returned (.tuple #[(.agg #[.int .i64 (getC t k).t, .int .i64 (getC t k).r, .int .i64 (getC t k).b, .int .i64 (getC t k).o, .int .i64 (getC t k).g]), .bool (slB t k)]) ∧ Below w.heap.size w w' := by
  obtain ⟨o, s⟩ := k
  have HS := hid h
  have B0 := hid (q_alloc (alloc_below w (.cells #[.int .i64 o, .int .i64 s] 43)) (.cells #[.int .i64 0, .int .i64 0, .int .i64 0, .int .i64 0, .int .i64 0] 41))
  have HN := hid (HH.out.below B0.out)
  clear h
  cases h1 : ndB t o with
  | false =>
    have HQ := hid h1
    clear h1
    go_enter Tryd.func21, Tryd.ntmps21
    go_wp2_with fail
    refine (isNode_any to n cap t o _ HN).mono ?_
    rintro e w1 ⟨rfl, hw⟩
    rw [hw, HQ.out]; clear hw w1 HN
    go_wp2_with fail
    refine bodyPost_ret (v := .tuple #[.agg #[.int .i64 0, .int .i64 0, .int .i64 0, .int .i64 0, .int .i64 0], .bool false]) (by simp [results, Tryd.results21, go_sem]) rfl ⟨by rw [HS.out, getC_no HS.out]; rfl, ?_⟩
    exact B0.out
  | true =>
    have HQ := hid h1
    clear h1
    by_cases h2 : s < 0
    · go_enter Tryd.func21, Tryd.ntmps21
      go_wp2_with fail
      refine (isNode_any to n cap t o _ HN).mono ?_
      rintro e w1 ⟨rfl, hw⟩
      rw [hw, HQ.out]; clear hw w1 HN
      go_wp2_with fail
      refine bodyPost_ret (v := .tuple #[.agg #[.int .i64 0, .int .i64 0, .int .i64 0, .int .i64 0, .int .i64 0], .bool false]) (by simp [results, Tryd.results21, go_sem]) rfl ⟨by rw [HS.out, getC_no HS.out]; rfl, ?_⟩
      exact B0.out
    · have h3 : 8 ≤ s := by
        rcases Int.lt_or_le s 8 with h | h
        · have := sl_nd.2 ⟨HQ.out, by omega, h⟩
          rw [HS.out] at this
          cases this
        · exact h
      go_enter Tryd.func21, Tryd.ntmps21
      go_wp2_with fail
      refine (isNode_any to n cap t o _ HN).mono ?_
      rintro e w1 ⟨rfl, hw⟩
      rw [hw, HQ.out]; clear hw w1 HN
      go_wp2_with fail
      refine bodyPost_ret (v := .tuple #[.agg #[.int .i64 0, .int .i64 0, .int .i64 0, .int .i64 0, .int .i64 0], .bool false]) (by simp [results, Tryd.results21, go_sem]) rfl ⟨by rw [HS.out, getC_no HS.out]; rfl, ?_⟩
      exact B0.out
end Go.Proofs.YthnfekdoibhnpaaDoor.Ad
