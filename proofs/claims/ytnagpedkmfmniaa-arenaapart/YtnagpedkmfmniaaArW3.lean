/- What free does: whether a place is in a list. -/
import Derived.Test.YtnagpedkmfmniaaArW2
namespace Go.Proofs.Ytnagpedkmfmniaa.Ar
open Go.RowKit Go.Proofs.Ytnagpedkmfmniaa.Ha

def inL (l : List Int) (p : Int) : Bool := decide (p ∈ l)
def inB (fr : List (List Int)) (p : Int) : Bool := decide (p ∈ fr.flatten)
theorem inB_iff {fr : List (List Int)} {p : Int} : inB fr p = true ↔ 0 < cnt fr p := by unfold inB; rw [decide_eq_true_iff]; exact mem_cnt
theorem inB_not {fr : List (List Int)} {p : Int} : inB fr p = false ↔ cnt fr p = 0 := by unfold inB; rw [decide_eq_false_iff_not, mem_cnt]; omega
/-- Not too great. -/
structure Sm (a : Ar) : Prop where
  t : a.ts.length ≤ 1000
  f : a.fr.length ≤ 1000
  e : ∀ i, (a.fr.getD i []).length ≤ 1000
theorem sm_ok {a : Ar} (h : Ok a) : Sm a := by
  refine ⟨by have := h.t1; omega, by have := h.f1; omega, fun i => ?_⟩
  by_cases hi : i < a.fr.length
  · have := h.len i hi; omega
  · rw [show a.fr.getD i [] = [] by simp [List.getD, List.getElem?_eq_none (Nat.le_of_not_lt hi)]]; simp
theorem not_take {l : List Int} {p : Int} {k : Nat} (hk : k < l.length) (h : p ∉ l.take k) (h2 : ¬ p = l.getD k 0) : p ∉ l.take (k + 1) := by
  rw [List.take_add_one, List.getElem?_eq_getElem hk]
  intro hm
  rcases List.mem_append.1 hm with h3 | h3
  · exact h h3
  · simp at h3
    apply h2
    rw [h3]
    simp [List.getD, hk]
set_option maxRecDepth 100000 in
set_option maxHeartbeats 1000000 in
theorem index_any (ao : Option Addr) (n cap : Nat) (l : List Int) (p : Int) (w : World) (hs : n ≤ 1000) (HH : Hid (Has w ao n cap l)) :
    Calls Try.prog 63 #[.slice ao n cap, .int .i64 p] w fun e w' => (∃ r, e = .returned (.int .i64 r) ∧ decide (0 ≤ r) = inL l p) ∧ w' = w := by
  go_enter Try.func63, Try.ntmps63
  go_wp2
  go_loop [8] (fun i => ∃ k : Nat, k ≤ n ∧ i = .int .i64 k ∧ Hid (p ∉ l.take k)) (fun i => n - (intOf i).toNat)
  case atStart => exact ⟨0, Nat.zero_le _, rfl, by simp [Hid]⟩
  case round =>
    obtain ⟨k, hk, rfl, HS⟩ := hrel
    by_cases hlt : k < n
    · have i1 : (0 : Int) ≤ (k : Int) := by omega
      have i2 : (k : Int) < (n : Int) := by omega
      have HN := hid HH.out.len
      obtain ⟨a, rfl, ca⟩ := HH.out.cell k hlt
      obtain ⟨x, hx⟩ : ∃ x, l.getD k 0 = x := ⟨_, rfl⟩
      rw [hx] at ca
      have HX := hid hx
      clear hx
      by_cases he : p = x
      · have e1 := beq_of he
        have HR : Hid (inL l p = true) := by
          refine decide_eq_true ?_
          rw [he, ← HX.out]
          exact getD_mem l 0 k (by have := HN.out; omega)
        clear he
        go_wp2
        go_ret
        exact ⟨⟨_, rfl, (decide_eq_true i1).trans HR.out.symm⟩, rfl⟩
      · have e1 := bne_of he
        have HE := hid he
        clear he
        go_wp2
        go_round
        case rel => exact ⟨k + 1, by omega, by go_num, not_take (by have := HN.out; omega) HS.out (by rw [HX.out]; exact HE.out)⟩
        case measure => simp [intOf]; omega
    · obtain rfl : k = n := by omega
      have HR : Hid (inL l p = false) := by
        refine decide_eq_false ?_
        have := HS.out
        rwa [List.take_of_length_le (by have := HH.out.len; omega)] at this
      go_wp2
      go_ret
      exact ⟨⟨_, rfl, HR.out.symm⟩, rfl⟩
set_option maxHeartbeats 400000 in
theorem contains_any (ao : Option Addr) (n cap : Nat) (l : List Int) (p : Int) (w : World) (hs : n ≤ 1000) (HH : Hid (Has w ao n cap l)) :
    Calls Try.prog 53 #[.slice ao n cap, .int .i64 p] w fun e w' => e = .returned (.bool (inL l p)) ∧ w' = w := by
  have HI := hid (index_any ao n cap l p w hs HH)
  clear hs
  go_enter Try.func53, Try.ntmps53
  go_wp2_with fail
  refine HI.out.mono ?_
  rintro e w1 ⟨⟨r, rfl, hr⟩, hw⟩; rw [hw]; clear hw w1
  have HR := hid hr
  clear hr
  go_wp2_with fail
  go_ret
  exact ⟨ret_bool HR.out, rfl⟩
set_option maxHeartbeats 400000 in
theorem free1_any (ao : Option Addr) (n cap b : Nat) (l : List Int) (p : Int) (w : World) (hs : n ≤ 1000) (HH : Hid (Has w ao n cap l)) (hc : w.cell? ⟨b, 0, none⟩ = some (.int .i64 p)) :
    Calls Try.prog 52 #[.slice ao n cap, .pointer (some ⟨b, 0, none⟩)] w fun e w' => e = .returned (.bool (inL l p)) ∧ w' = w := by
  have HI := hid (contains_any ao n cap l p w hs HH)
  clear hs
  go_enter Try.func52, Try.ntmps52
  go_wp2_with fail
  refine HI.out.mono ?_
  rintro e w1 ⟨rfl, hw⟩; rw [hw]; clear hw w1
  go_wp2_with fail
  go_ret
  exact ⟨rfl, rfl⟩
theorem not_take2 {fr : List (List Int)} {p : Int} {k : Nat} (hk : k < fr.length) (h : p ∉ (fr.take k).flatten) (h2 : p ∉ fr.getD k []) : p ∉ (fr.take (k + 1)).flatten := by
  rw [List.take_add_one, List.getElem?_eq_getElem hk]
  intro hm
  rw [List.flatten_append, List.mem_append] at hm
  rcases hm with h3 | h3
  · exact h h3
  · apply h2
    rw [show fr.getD k [] = fr[k] by simp [List.getD, hk]]
    simpa using h3
set_option maxRecDepth 100000 in
set_option maxHeartbeats 1000000 in
theorem idxf_any (fo : Option Addr) (n cap b : Nat) (hds : List Hd) (fr : List (List Int)) (p : Int) (w : World) (hs : n ≤ 1000) (HS : Hid (∀ i, (fr.getD i []).length ≤ 1000)) (HH : Hid (HasF w fo n cap hds fr)) (hc : w.cell? ⟨b, 0, none⟩ = some (.int .i64 p)) :
    Calls Try.prog 62 #[.slice fo n cap, .func (.func 52) #[] #[.pointer (some ⟨b, 0, none⟩)]] w fun e w' => (∃ r, e = .returned (.int .i64 r) ∧ decide (0 ≤ r) = inB fr p) ∧ w' = w := by
  go_enter Try.func62, Try.ntmps62
  go_wp2
  go_loop [8] (fun i => ∃ k : Nat, k ≤ n ∧ i = .int .i64 k ∧ Hid (p ∉ (fr.take k).flatten)) (fun i => n - (intOf i).toNat)
  case atStart => exact ⟨0, Nat.zero_le _, rfl, by simp [Hid]⟩
  case round =>
    obtain ⟨k, hk, rfl, HT⟩ := hrel
    by_cases hlt : k < n
    · have i1 : (0 : Int) ≤ (k : Int) := by omega
      have i2 : (k : Int) < (n : Int) := by omega
      have HN := hid HH.out.len
      obtain ⟨a, o, m, c, rfl, ca, hL⟩ := HH.out.cell k hlt
      have HC := hid (free1_any o m c b _ p w (by rw [hL.len]; exact HS.out k) hL hc)
      clear hL
      cases he : inL (fr.getD k []) p with
      | true =>
        have HR : Hid (inB fr p = true) := decide_eq_true (mem_li (by have := HN.out; omega) (of_decide_eq_true he))
        rw [he] at HC
        clear he
        go_wp2_with fail
        refine HC.out.mono ?_
        rintro e w1 ⟨rfl, hw⟩; rw [hw]; clear hw w1
        go_wp2_with fail
        go_ret
        exact ⟨⟨_, rfl, (decide_eq_true i1).trans HR.out.symm⟩, rfl⟩
      | false =>
        have HE := hid he
        rw [he] at HC
        clear he
        go_wp2_with fail
        refine HC.out.mono ?_
        rintro e w1 ⟨rfl, hw⟩; rw [hw]; clear hw w1
        go_wp2_with fail
        go_round
        case rel => exact ⟨k + 1, by omega, by go_num, not_take2 (by have := HN.out; omega) HT.out (of_decide_eq_false HE.out)⟩
        case measure => simp [intOf]; omega
    · obtain rfl : k = n := by omega
      have HR : Hid (inB fr p = false) := by
        refine decide_eq_false ?_
        have := HT.out
        rwa [List.take_of_length_le (by have := HH.out.len; omega)] at this
      go_wp2
      go_ret
      exact ⟨⟨_, rfl, HR.out.symm⟩, rfl⟩
set_option maxHeartbeats 400000 in
theorem contf_any (fo : Option Addr) (n cap b : Nat) (hds : List Hd) (fr : List (List Int)) (p : Int) (w : World) (hs : n ≤ 1000) (HS : Hid (∀ i, (fr.getD i []).length ≤ 1000)) (HH : Hid (HasF w fo n cap hds fr)) (hc : w.cell? ⟨b, 0, none⟩ = some (.int .i64 p)) :
    Calls Try.prog 51 #[.slice fo n cap, .func (.func 52) #[] #[.pointer (some ⟨b, 0, none⟩)]] w fun e w' => e = .returned (.bool (inB fr p)) ∧ w' = w := by
  have HI := hid (idxf_any fo n cap b hds fr p w hs HS HH hc)
  clear hs hc
  go_enter Try.func51, Try.ntmps51
  go_wp2_with fail
  refine HI.out.mono ?_
  rintro e w1 ⟨⟨r, rfl, hr⟩, hw⟩; rw [hw]; clear hw w1
  have HR := hid hr
  clear hr
  go_wp2_with fail
  go_ret
  exact ⟨ret_bool HR.out, rfl⟩
set_option maxHeartbeats 400000 in
/-- free. -/
theorem free_any (x : Wh) (a : Ar) (p : Int) (w : World) (HS : Hid (Sm a)) (HH : Hid (HasA w x a)) :
    Calls Try.prog 41 #[(.agg #[.slice x.t.o x.t.n x.t.c, .slice x.f.o x.f.n x.f.c]), .int .i64 p] w fun e w' => e = .returned (.bool (inB a.fr p)) ∧ Below w.heap.size w w' := by
  obtain ⟨hs, hF⟩ := HH.out.f
  have b0 : Below w.heap.size w ((w.alloc (.cells #[.slice x.t.o x.t.n x.t.c, .slice x.f.o x.f.n x.f.c] 25)).alloc (.cells #[.int .i64 p] 3)) := q_alloc (alloc_below w _) _
  have hn : x.f.n ≤ 1000 := by rw [HH.out.fn]; exact HS.out.f
  have HI := hid (contf_any x.f.o x.f.n x.f.c (w.heap.size + 1) hs a.fr p _ hn HS.out.e (hF.below b0) (by simp))
  have HB := hid b0
  clear b0 hF hn
  go_enter Try.func41, Try.ntmps41
  go_wp2_with fail
  refine HI.out.mono ?_
  rintro e w1 ⟨rfl, hw⟩; rw [hw]; clear hw w1
  go_wp2_with fail
  go_ret
  exact ⟨rfl, HB.out⟩
end Go.Proofs.Ytnagpedkmfmniaa.Ar
