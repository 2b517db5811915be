/- AddrWords. -/
import Derived.Test.YthnfekdoibhnpaaDoorAdLive
import Derived.Test.YthnfekdoibhnpaaDoorAdRParse
namespace Go.Proofs.YthnfekdoibhnpaaDoor.Ad
open Go.RowKit
open Cp (K)

set_option maxRecDepth 100000 in
set_option maxHeartbeats 1000000 in
theorem words_long (ao : Option Addr) (n cap : Nat) (x : Int) (w : World) (h : 20 < n) (HT : Hid (Cp.Tabs w)) :
    Calls Tryd.prog 3 #[.slice ao n cap, .int .u64 x] w fun e w' => e = .returned (.bool true) ∧ Below w.heap.size w w' := by
  have i1 : (n : Int) > 20 := by omega
  clear h
  go_enter Tryd.func3, Tryd.ntmps3
  go_wp2_with fail
  refine (live_any _ HT).mono ?_
  rintro e w1 ⟨rfl, b1⟩
  go_wp2_with fail
  go_ret
  exact ⟨rfl, b1⟩
set_option maxRecDepth 100000 in
set_option maxHeartbeats 1000000 in
theorem words_in (ao : Option Addr) (n cap : Nat) (l : List P) (x : Nat) (w : World) (h : n ≤ 20) (hx : x < 18446744073709551616) (HT : Hid (Cp.Tabs w)) (HL : Hid (HasP w ao n cap l)) :
    Calls Tryd.prog 3 #[.slice ao n cap, .int .u64 (x : Nat)] w fun e w' => e = .returned (.bool true) ∧ Below w.heap.size w w' := by
  have i1 : ¬ (n : Int) > 20 := by omega
  have HX := hid hx
  have HE := hid HL.out.len
  clear hx
  go_enter Tryd.func3, Tryd.ntmps3
  go_wp2_with (at_builtin; go_loud (refine wpList_append_row _ rfl (.tmp 18) (.tmp 19) 22 56 _ 2 16 rfl Tryd.underlying22 infoS rfl (by decide) (by decide) w.heap.size _ 0 [] rfl (own0 w 56 2) ao n cap (prs l) rfl (by rw [len_prs, ← HE.out]) (fun h => HL.out.nil h) (HL.out.row.below (alloc_below w _)) (prs_one l) (by omega) (alloc_below w _).size ?_; intro ao1 cap1 w1 own1 grow1; rw [Nat.zero_add] at own1 ⊢; apply Hid.out))
  have HA1 : Hid (HasP w1 ao1 n cap1 l) := own_hasP own1 HE.out
  have HB1 : Hid (Below w.heap.size w w1) := app_below grow1
  have HL1 := hid (HL.out.below HB1.out)
  clear own1 grow1
  unfold Hid
  go_wp2_with fail
  refine (pPut_any ao1 n cap1 l w1 HA1.out).mono ?_
  rintro e w2 ⟨rfl, b2⟩
  have HB2 := hid (q_trans HB1.out b2)
  have HL2 := hid (HL1.out.below b2)
  clear b2 HB1 HL1 HA1
  go_wp2_with fail
  refine (rPut_any ao n cap l w2 HL2.out).mono ?_
  rintro e w3 ⟨rfl, b3⟩
  have HB3 := hid (q_trans HB2.out b3)
  have HL3 := hid (HL2.out.below b3)
  clear b3 HB2 HL2
  go_wp2_with fail
  refine (pParse_any x w3 HX.out).mono ?_
  rintro e w4 ⟨po, pn, pc, rfl, h4, b4⟩
  have HP4 := hid h4
  have HB4 := hid (q_trans HB3.out b4)
  have HL4 := hid (HL3.out.below b4)
  clear b4 h4 HB3 HL3
  go_wp2_with fail
  refine (rParse_any x w4 HX.out).mono ?_
  rintro e w5 ⟨qo, qn, qc, rfl, h5, b5⟩
  have HQ5 := hid h5
  have HP5 := hid (HP4.out.below b5)
  have HB5 := hid (q_trans HB4.out b5)
  have HL5 := hid (HL4.out.below b5)
  clear b5 h5 HB4 HL4 HP4
  have HPn : Hid (pn ≤ 9223372036854775806) := by
    have h1 := HP5.out.len
    have h2 : (parA x).length ≤ 7 := by
      unfold parA
      split
      · unfold parL; rw [dec_len]; omega
      · simp
    unfold Hid; omega
  have HCk : Hid (∀ W : World, Below w5.heap.size w5 W → Calls Tryd.prog 15 #[.slice ao n cap] W fun e w' => e = .returned (.int .i64 (chkA l)) ∧ Below W.heap.size W w') := fun W g => check_any ao n cap l _ (HL5.out.below g)
  have HIs : Hid (∀ W : World, Below w5.heap.size w5 W → Calls Tryd.prog 16 #[.slice ao n cap] W fun e w' => e = .returned (.bool (okA l)) ∧ Below W.heap.size W w') := fun W g => ris_any ao n cap l _ (HL5.out.below g)
  have HSm : Hid (∀ W : World, Below w5.heap.size w5 W → Calls Tryd.prog 17 #[.slice po pn pc, .slice qo qn qc] W fun e w' => e = .returned (.bool true) ∧ Below W.heap.size W w') := fun W g => ssame_yes HPn.out (HP5.out.below g) (HQ5.out.below g)
  have HLv : Hid (∀ W : World, Below w5.heap.size w5 W → Calls Tryd.prog 9 #[] W fun e w' => e = .returned (.bool true) ∧ Below W.heap.size W w') := fun W g => live_any _ (HT.out.below (q_trans HB5.out g))
  have HC := hid (Below.refl w5.heap.size w5)
  generalize putA l = pa
  generalize parE x = px
  have hck : chkA l = if okA l then 0 else 120 := rfl
  cases q : okA l with
  | true =>
    rw [q] at hck HIs
    simp only [if_true] at hck
    rw [hck] at HCk ⊢
    clear hck q HL5 HP5 HQ5
    go_wp2_with (first | (go_at_call 14; refine (num_any _ _).mono ?_; rintro e w9 ⟨rfl, rfl⟩) | (go_at_call 15; refine (HCk.out _ HC.out).mono ?_; rintro e w9 ⟨rfl, b⟩; replace HC := hid (q_trans HC.out b); clear b) | (go_at_call 16; refine (HIs.out _ HC.out).mono ?_; rintro e w9 ⟨rfl, b⟩; replace HC := hid (q_trans HC.out b); clear b) | (go_at_call 17; refine (HSm.out _ HC.out).mono ?_; rintro e w9 ⟨rfl, b⟩; replace HC := hid (q_trans HC.out b); clear b) | (go_at_call 9; refine (HLv.out _ HC.out).mono ?_; rintro e w9 ⟨rfl, b⟩; replace HC := hid (q_trans HC.out b); clear b))
    go_ret
    exact ⟨rfl, q_trans HB5.out HC.out⟩
  | false =>
    rw [q] at hck HIs
    simp only [Bool.false_eq_true, if_false] at hck
    rw [hck] at HCk ⊢
    clear hck q HL5 HP5 HQ5
    go_wp2_with (first | (go_at_call 14; refine (num_any _ _).mono ?_; rintro e w9 ⟨rfl, rfl⟩) | (go_at_call 15; refine (HCk.out _ HC.out).mono ?_; rintro e w9 ⟨rfl, b⟩; replace HC := hid (q_trans HC.out b); clear b) | (go_at_call 16; refine (HIs.out _ HC.out).mono ?_; rintro e w9 ⟨rfl, b⟩; replace HC := hid (q_trans HC.out b); clear b) | (go_at_call 17; refine (HSm.out _ HC.out).mono ?_; rintro e w9 ⟨rfl, b⟩; replace HC := hid (q_trans HC.out b); clear b) | (go_at_call 9; refine (HLv.out _ HC.out).mono ?_; rintro e w9 ⟨rfl, b⟩; replace HC := hid (q_trans HC.out b); clear b))
    go_ret
    exact ⟨rfl, q_trans HB5.out HC.out⟩
/-- ADDRWORDS. -/
theorem words_any (ao : Option Addr) (n cap : Nat) (l : List P) (x : Int) (w : World) (hL : HasP w ao n cap l) (hx : U64 x) (hT : Cp.Tabs w) :
    Calls Tryd.prog 3 #[.slice ao n cap, .int .u64 x] w fun e w' => e = .returned (.bool true) ∧ Below w.heap.size w w' := by
  rcases Nat.lt_or_ge 20 n with h | h
  · exact words_long ao n cap x w h hT
  · obtain ⟨x, rfl⟩ := Int.eq_ofNat_of_zero_le hx.1
    exact words_in ao n cap l x w h (by have := hx.2; omega) hT hL
end Go.Proofs.YthnfekdoibhnpaaDoor.Ad
