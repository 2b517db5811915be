/- The walk of RightsBack: it answers true. -/
import Derived.Test.YtepadldbhjbjaaaDoorRtW5
import Derived.Test.YtepadldbhjbjaaaDoorRtFacts
namespace Go.Proofs.YtepadldbhjbjaaaDoor.Rt
open Go.RowKit

theorem textT_no {a : Int} (h : isR a = false) : textT a = ⟨#[]⟩ := by simp [textT, h]
theorem back_fin : ∀ a : Fin 16, parT (textN a) = a.val ∧ parE (textN a) = 0 ∧ (textN a).size = 4 := by decide +kernel
theorem eq_fin : ∀ a b : Fin 16, ((textN a).toList == (textN b).toList) = ((a.val : Int) == (b.val : Int)) := by decide +kernel

set_option maxRecDepth 100000 in
set_option maxHeartbeats 2000000 in
theorem back_core (a b : Int) (s t : ByteArray) (x : Bool) (w : World) (HT : Hid (Tab w)) (ha : isR a = true) (hb : isR b = true)
    (HA : Hid (∀ W : World, Tab W → Calls Tryd.prog 16 #[.int .i64 a] W fun e w' => e = .returned (.string s) ∧ Below W.heap.size W w'))
    (HB : Hid (∀ W : World, Tab W → Calls Tryd.prog 16 #[.int .i64 b] W fun e w' => e = .returned (.string t) ∧ Below W.heap.size W w'))
    (HP : Hid (∀ W : World, Tab W → Calls Tryd.prog 10 #[.string s] W fun e w' => e = .returned (.tuple #[.int .i64 a, .int .i64 0]) ∧ Below W.heap.size W w'))
    (hs : s.size = 4) (he : (s.toList == t.toList) = x) (hf : (a == b) = x) :
    Calls Tryd.prog 7 #[.int .i64 a, .int .i64 b] w fun e w' => e = .returned (.bool true) ∧ Below w.heap.size w w' := by
  cases x
  all_goals
    go_enter Tryd.func7, Tryd.ntmps7
    go_wp2_with (first | (go_at_call 12; refine (is_any _ _).mono ?_; rintro e w5 ⟨rfl, rfl⟩) | fail)
    refine (HA.out _ HT.out).mono ?_
    rintro e w1 ⟨rfl, b1⟩
    go_wp2_with fail
    refine (HP.out _ (HT.out.below b1)).mono ?_
    rintro e w2 ⟨rfl, b2⟩
    replace b2 := q_trans b1 b2
    clear b1
    go_wp2_with (first | (go_at_call 18; refine (num_any _ _).mono ?_; rintro e w5 ⟨rfl, rfl⟩) | fail)
    refine (HA.out _ (HT.out.below b2)).mono ?_
    rintro e w3 ⟨rfl, b3⟩
    replace b3 := q_trans b2 b3
    clear b2
    go_wp2_with fail
    refine (HB.out _ (HT.out.below b3)).mono ?_
    rintro e w4 ⟨rfl, b4⟩
    replace b4 := q_trans b3 b4
    clear b3
    go_wp2_with (first | (go_at_call 16; refine (HA.out _ (HT.out.below b4)).mono ?_; rintro e w7 ⟨rfl, b7⟩; replace b7 := q_trans b4 b7) | (go_at_call 9; refine (live_any _ (HT.out.below b7)).mono ?_; rintro e w6 ⟨rfl, b6⟩; replace b6 := q_trans b7 b6))
    go_ret
    exact ⟨rfl, b6⟩

set_option maxRecDepth 100000 in
set_option maxHeartbeats 2000000 in
theorem back_no (a b : Int) (s : ByteArray) (w : World) (HT : Hid (Tab w)) (h : Hid ((isR a = false ∧ s = ⟨#[]⟩) ∨ (isR a = true ∧ isR b = false)))
    (HA : Hid (∀ W : World, Tab W → Calls Tryd.prog 16 #[.int .i64 a] W fun e w' => e = .returned (.string s) ∧ Below W.heap.size W w')) :
    Calls Tryd.prog 7 #[.int .i64 a, .int .i64 b] w fun e w' => e = .returned (.bool true) ∧ Below w.heap.size w w' := by
  rcases h.out with ⟨ha, rfl⟩ | ⟨ha, hb⟩
  · clear h
    go_enter Tryd.func7, Tryd.ntmps7
    go_wp2_with (first | (go_at_call 12; refine (is_any _ _).mono ?_; rintro e w5 ⟨rfl, rfl⟩) | (go_at_call 16; refine (HA.out _ HT.out).mono ?_; rintro e w7 ⟨rfl, b7⟩) | (go_at_call 9; refine (live_any _ (HT.out.below b7)).mono ?_; rintro e w6 ⟨rfl, b6⟩; replace b6 := q_trans b7 b6))
    go_ret
    exact ⟨rfl, b6⟩
  · clear h
    go_enter Tryd.func7, Tryd.ntmps7
    go_wp2_with (first | (go_at_call 12; refine (is_any _ _).mono ?_; rintro e w5 ⟨rfl, rfl⟩) | (go_at_call 9; refine (live_any _ HT.out).mono ?_; rintro e w6 ⟨rfl, b6⟩))
    go_ret
    exact ⟨rfl, b6⟩

theorem back_any (a b : Int) (w : World) (hT : Tab w) :
    Calls Tryd.prog 7 #[.int .i64 a, .int .i64 b] w fun e w' => e = .returned (.bool true) ∧ Below w.heap.size w w' := by
  cases ha : isR a with
  | false => exact back_no a b (textT a) w hT (.inl ⟨ha, textT_no ha⟩) (fun W h => text_any a W h)
  | true =>
    cases hb : isR b with
    | false => exact back_no a b (textT a) w hT (.inr ⟨ha, hb⟩) (fun W h => text_any a W h)
    | true =>
      obtain ⟨m, hm, rfl⟩ := isR_nat ha
      obtain ⟨n, hn, rfl⟩ := isR_nat hb
      obtain ⟨f1, f2, f3⟩ := back_fin ⟨m, hm⟩
      simp only at f1 f2 f3
      refine back_core m n (textN m) (textN n) _ w hT ha hb (fun W h => ?_) (fun W h => ?_) (fun W h => ?_) f3 (eq_fin ⟨m, hm⟩ ⟨n, hn⟩) rfl
      · exact text_yes m W ha h
      · exact text_yes n W hb h
      · have := parse_any (textN m) W h
        rw [f1, f2] at this
        exact this
end Go.Proofs.YtepadldbhjbjaaaDoor.Rt
