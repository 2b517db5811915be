/- HandleNever. -/
import Derived.Test.YthhbifcgilkddaaHaLive
namespace Go.Proofs.Ythhbifcgilkddaa.Ha
open Go.RowKit

/-- The place's generation is past g, for good. -/
def Past (L : List Int) (o g : Int) : Prop := at_ L o < 0 ∨ g < at_ L o
theorem nxG_past {x g : Int} (h : x < 0 ∨ g ≤ x) : nxG x < 0 ∨ g < nxG x := by unfold nxG; split <;> omega
theorem past_first {l : List Int} {o : Int} (h : ofE l o = 0) : Past (bumpL l o) o (at_ l o) := by
  unfold Past
  rw [at_bump l o o (ofE_zero.1 h).1.1, if_pos ⟨rfl, h⟩]
  exact nxG_past (.inr (Int.le_refl _))
theorem past_more {L : List Int} {o g : Int} (q : Int) (ho : 0 ≤ o) (h : Past L o g) : Past (bumpL L q) o g := by
  unfold Past
  rw [at_bump L q o ho]
  split
  · next e =>
    rw [← e.1]
    refine nxG_past ?_
    unfold Past at h
    omega
  · exact h
theorem past_none {L : List Int} {o g : Int} (ho : 0 ≤ o ∧ o < 64) (h : Past L o g) (hg : 0 ≤ g) : isB L (g * 64 + o) = false := by
  rw [Bool.eq_false_iff]
  intro e
  have := (isB_iff.1 e).2.2
  rw [show (g * 64 + o) % 64 = o by omega, show (g * 64 + o) / 64 = g by omega] at this
  unfold Past at h
  omega
/-- Handles of other places stay, that of the place itself does not. -/
theorem stays {L : List Int} {k q : Int} (h : ofE L k = 0) : isB (bumpL L q) (ofV L k) = decide (k ≠ q) := by
  obtain ⟨⟨k0, k1, k2⟩, g0, g1⟩ := ofE_zero.1 h
  rw [ofV_of h]
  have e1 : (at_ L k * 64 + k) % 64 = k := by omega
  have e2 : (at_ L k * 64 + k) / 64 = at_ L k := by omega
  by_cases e : k = q
  · subst e
    rw [decide_eq_false (by simp), Bool.eq_false_iff]
    intro x
    have := (isB_iff.1 x).2.2
    rw [e1, e2, at_bump L k k k0, if_pos ⟨rfl, h⟩] at this
    exact nxG_ne _ g0 this
  · rw [decide_eq_true e]
    refine isB_iff.2 ⟨by omega, by rw [e1, len_bump]; exact k2, ?_⟩
    rw [e1, e2, at_bump L q k k0, if_neg (fun x => e x.1)]
theorem is_self {l : List Int} {o : Int} (h : ofE l o = 0) : isB l (ofV l o) = true := by
  obtain ⟨⟨k0, k1, k2⟩, g0, g1⟩ := ofE_zero.1 h
  rw [ofV_of h]
  refine isB_iff.2 ⟨by omega, by omega, ?_⟩
  rw [show (at_ l o * 64 + o) % 64 = o by omega]
  omega
/-- What Is answers, in every world behind one. -/
def IsAt (ao : Option Addr) (n cap : Nat) (w : World) (h : Int) (b : Bool) : Prop := ∀ w' : World, Below w.heap.size w w' → Calls Try.prog 22 #[.slice ao n cap, .int .i64 h] w' fun e w2 => e = .returned (.bool b) ∧ w2 = w'
theorem isAt {w : World} {ao : Option Addr} {n cap : Nat} {l : List Int} (H : Has w ao n cap l) (h : Int) {b : Bool} (hb : isB l h = b) : IsAt ao n cap w h b := by
  intro w' hw
  have := is_any ao n cap l h w' (H.below hw)
  rwa [hb] at this
def OfAt (ao : Option Addr) (n cap : Nat) (w : World) (o v e0 : Int) : Prop := ∀ w' : World, Below w.heap.size w w' → Calls Try.prog 17 #[.slice ao n cap, .int .i64 o] w' fun e w2 => e = .returned (.tuple #[.int .i64 v, .int .i64 e0]) ∧ w2 = w'
theorem ofAt {w : World} {ao : Option Addr} {n cap : Nat} {l : List Int} (H : Has w ao n cap l) (o : Int) {v e0 : Int} (h1 : ofV l o = v) (h2 : ofE l o = e0) : OfAt ao n cap w o v e0 := by
  intro w' hw
  have := of_any ao n cap l o w' (H.below hw)
  rwa [h1, h2] at this
/-- A handle of a place: whether it stays. -/
theorem stay_ways {w : World} {ao bo : Option Addr} {n cap cap' : Nat} {L : List Int} {q : Int} (H : Has w ao n cap L) (H2 : Has w bo n cap' (bumpL L q)) (k : Int) :
    (∃ v e0, (e0 == 0) = false ∧ OfAt ao n cap w k v e0) ∨ (∃ v, (k != q) = true ∧ OfAt ao n cap w k v 0 ∧ IsAt bo n cap' w v true) ∨ (k = q ∧ ofE L q = 0 ∧ ∃ v, OfAt ao n cap w k v 0 ∧ IsAt bo n cap' w v false) := by
  by_cases h : ofE L k = 0
  · by_cases e : k = q
    · refine .inr (.inr ⟨e, by rw [← e]; exact h, _, ofAt H k rfl h, isAt H2 _ ?_⟩)
      rw [stays h]
      exact decide_eq_false (fun x => x e)
    · refine .inr (.inl ⟨_, by simp [e], ofAt H k rfl h, isAt H2 _ ?_⟩)
      rw [stays h]
      exact decide_eq_true e
  · exact .inl ⟨_, _, by simp [h], ofAt H k rfl rfl⟩

set_option maxRecDepth 100000 in
set_option maxHeartbeats 4000000 in
theorem never_in (ao bo : Option Addr) (l ml : List Int) (n cap mn mcap : Nat) (o : Int) (w : World) (hn : n ≤ 100) (hm : mn ≤ 100) (HH : Hid (Has w ao n cap l)) (HM : Hid (Has w bo mn mcap ml)) (he : ofE l o = 0) :
    Calls Try.prog 6 #[.slice ao n cap, .int .i64 o, .slice bo mn mcap] w fun e w' => e = .returned (.bool true) ∧ Below w.heap.size w w' := by
  have i0 : (n : Int) ≤ 100 := by omega
  have i1 : (mn : Int) ≤ 100 := by omega
  have HS := hid (show n ≤ 5000 by omega)
  have hz := ofE_zero.1 he
  have HO := hid (ofAt HH.out o rfl he)
  have HIs := hid (isAt HH.out _ (is_self he))
  have HP := hid (past_first he)
  have hB := fun w' (H : Has w' ao n cap l) => bump_any ao n cap l o w' H HS.out
  rw [he] at hB
  have HBu := hid hB
  have HV := hid (show ofV l o = at_ l o * 64 + o from ofV_of he)
  have HZ := hid hz
  generalize ofV l o = h at HO HIs HV
  generalize bumpL l o = m at HBu HP
  clear hB hz he
  go_enter Try.func6, Try.ntmps6
  go_wp2_with fail
  refine (HO.out _ (Below.refl _ _)).mono ?_
  rintro e w2 ⟨rfl, hw⟩; rw [hw]; clear hw w2
  go_wp2_with fail
  refine (num_any 0 _).mono ?_
  rintro e w2 ⟨rfl, hw⟩; rw [hw]; clear hw w2
  go_wp2_with fail
  refine (HBu.out _ HH.out).mono ?_
  rintro e w1 ⟨ao1, cap1, rfl, m1, b1⟩
  have HM1 := hid m1.has
  have HB1 := hid b1
  have HI1 := hid (isAt (b := false) m1.has h (by rw [HV.out]; exact past_none ⟨HZ.out.1.1, HZ.out.1.2.1⟩ HP.out HZ.out.2.1))
  clear m1 b1
  go_wp2_with fail
  refine (num_any 0 _).mono ?_
  rintro e w2 ⟨rfl, hw⟩; rw [hw]; clear hw w2
  go_wp2_with fail
  refine (HIs.out _ HB1.out).mono ?_
  rintro e w2 ⟨rfl, hw⟩; rw [hw]; clear hw w2
  go_wp2_with fail
  refine (HI1.out _ (Below.refl _ _)).mono ?_
  rintro e w2 ⟨rfl, hw⟩; rw [hw]; clear hw w2
  go_wp2_with fail
  go_loopw [9, 11] (fun mv i wr => ∃ (k c : Nat) (x : Option Addr) (L : List Int), k ≤ mn ∧ i = .int .i64 k ∧ mv = .slice x n c ∧ Hid (Has wr x n c L) ∧ Hid (Past L o (at_ l o)) ∧ Hid (Below w.heap.size w wr)) (fun _ i _ => mn - (intOf i).toNat)
  case atStart => exact ⟨0, cap1, ao1, m, Nat.zero_le _, rfl, rfl, HM1, HP, HB1⟩
  case round =>
    obtain ⟨k, c, x, L, hk, rfl, rfl, HL, HPL, HBr⟩ := hrel
    by_cases hlt : k < mn
    · have j1 : (0 : Int) ≤ (k : Int) := by omega
      have j2 : (k : Int) < (mn : Int) := by omega
      obtain ⟨b, rfl, hq⟩ := (HM.out.below HBr.out).cell k hlt
      generalize ml.getD k 0 = q at hq
      have HQ := hid hq
      have HBq := hid (bump_any x n c L q wr HL.out HS.out)
      go_wp2_with fail
      clear hq
      refine HBq.out.mono ?_
      rintro e W ⟨x2, c2, rfl, m2, b2⟩
      have HQ2 := hid ((World.cell?_of_block (b2.block _ (World.block_lt_of_cell? wr _ HQ.out))).trans HQ.out)
      have HL2 := hid (HL.out.below b2)
      have HM2 := hid m2.has
      have HP2 := hid (past_more q HZ.out.1.1 HPL.out)
      have HBW := hid (q_trans HBr.out b2)
      have HI2 := hid (isAt (b := false) m2.has h (by rw [HV.out]; exact past_none ⟨HZ.out.1.1, HZ.out.1.2.1⟩ HP2.out HZ.out.2.1))
      obtain ⟨eg, heg⟩ : ∃ eg, ofE L q = eg := ⟨_, rfl⟩
      rw [heg]
      have HEG := hid heg
      clear m2 b2 heg HQ HL HBr HBq
      go_wp2_with fail
      refine (HI2.out _ (Below.refl _ _)).mono ?_
      rintro e w2 ⟨rfl, hw⟩; rw [hw]; clear hw w2
      go_wp2_with fail
      go_loopw [15] (fun i wq => ∃ j : Nat, j ≤ n ∧ i = .int .i64 j ∧ Hid (Below W.heap.size W wq)) (fun i _ => n - (intOf i).toNat)
      case atStart => exact ⟨0, Nat.zero_le _, rfl, Below.refl _ _⟩
      case round =>
        obtain ⟨j, hj, rfl, HBj⟩ := hrel
        by_cases hjn : j < n
        · have k1 : (0 : Int) ≤ (j : Int) := by omega
          have k2 : (j : Int) < (n : Int) := by omega
          have hcq := (World.cell?_of_block (HBj.out.block _ (World.block_lt_of_cell? W _ HQ2.out))).trans HQ2.out
          rcases stay_ways (HL2.out.below HBj.out) (HM2.out.below HBj.out) (j : Int) with ⟨v, e0, h0, hO⟩ | ⟨v, h0, hO, hI⟩ | ⟨h0, h1, v, hO, hI⟩
          · have HOk := hid hO
            clear hO
            go_wp2_with fail
            refine (HOk.out _ (Below.refl _ _)).mono ?_
            rintro e w2 ⟨rfl, hw⟩; rw [hw]; clear hw w2
            go_wp2_with fail
            go_quiet (first | (go_at_call 13; exact Calls.quiet_of_same (num_any _ _)))
            go_wp2_with fail
            have HB4 := hid (q_trans HBj.out (q_drewN (Below.refl _ wr) nq))
            go_roundw
            case rel => exact ⟨j + 1, by omega, by go_num, HB4⟩
            case measure => simp [intOf]; omega
          · have HOk := hid hO
            have HIk := hid hI
            clear hO hI
            go_wp2_with fail
            refine (HOk.out _ (Below.refl _ _)).mono ?_
            rintro e w2 ⟨rfl, hw⟩; rw [hw]; clear hw w2
            go_wp2_with fail
            go_quiet (first | (go_at_call 13; exact Calls.quiet_of_same (num_any _ _)) | (go_at_call 22; exact Calls.quiet_of_same (HIk.out _ (q_drewN (Below.refl _ _) _))))
            go_wp2_with fail
            have HB4 := hid (q_trans HBj.out (q_drewN (Below.refl _ wr) nq))
            go_roundw
            case rel => exact ⟨j + 1, by omega, by go_num, HB4⟩
            case measure => simp [intOf]; omega
          · have HOk := hid hO
            have HIk := hid hI
            obtain rfl : eg = 0 := by rw [← HEG.out]; exact h1
            rw [← h0] at hcq
            clear hO hI h0 h1
            go_wp2_with fail
            refine (HOk.out _ (Below.refl _ _)).mono ?_
            rintro e w2 ⟨rfl, hw⟩; rw [hw]; clear hw w2
            go_wp2_with fail
            go_quiet (first | (go_at_call 13; exact Calls.quiet_of_same (num_any _ _)) | (go_at_call 22; exact Calls.quiet_of_same (HIk.out _ (q_drewN (Below.refl _ _) _))))
            go_wp2_with fail
            have HB4 := hid (q_trans HBj.out (q_drewN (Below.refl _ wr) nq))
            go_roundw
            case rel => exact ⟨j + 1, by omega, by go_num, HB4⟩
            case measure => simp [intOf]; omega
        · obtain rfl : j = n := by omega
          have HBX := hid (q_trans HBW.out HBj.out)
          have HMX := hid (HM2.out.below HBj.out)
          go_wp2_with fail
          exact ⟨⟨k + 1, c2, x2, bumpL L q, by omega, by go_num, rfl, HMX, HP2, HBX⟩, by simp [intOf]; omega⟩
    · obtain rfl : k = mn := by omega
      go_wp2_with fail
      refine (live_any _).mono ?_
      rintro e w2 ⟨rfl, b2⟩
      go_wp2_with fail
      go_ret
      exact ⟨rfl, q_trans HBr.out b2⟩
set_option maxRecDepth 100000 in
set_option maxHeartbeats 2000000 in
theorem never_any (ao : Option Addr) (l : List Int) (n cap : Nat) (o : Int) (bo : Option Addr) (ml : List Int) (mn mcap : Nat) (w : World) (hn : n ≤ 9223372036854775807) (H : Has w ao n cap l) (hm : mn ≤ 9223372036854775807) (HM : Has w bo mn mcap ml) :
    Calls Try.prog 6 #[.slice ao n cap, .int .i64 o, .slice bo mn mcap] w fun e w' => e = .returned (.bool true) ∧ Below w.heap.size w w' := by
  by_cases h1 : (n : Int) ≤ 100
  · by_cases h2 : (mn : Int) ≤ 100
    · by_cases he : ofE l o = 0
      · exact never_in ao bo l ml n cap mn mcap o w (by omega) (by omega) H HM he
      · have HO := hid (of_any ao n cap l o w H)
        have h3 : (ofE l o != 0) = true := by simp [he]
        generalize ofE l o = e0 at HO h3
        generalize ofV l o = v0 at HO
        clear H HM he
        go_enter Try.func6, Try.ntmps6
        go_wp2_with fail
        refine HO.out.mono ?_
        rintro e w2 ⟨rfl, hw⟩; rw [hw]; clear hw w2
        go_wp2_with fail
        refine (num_any e0 _).mono ?_
        rintro e w2 ⟨rfl, hw⟩; rw [hw]; clear hw w2
        go_wp2_with fail
        refine (live_any _).mono ?_
        rintro e w2 ⟨rfl, b2⟩
        go_wp2_with fail
        go_ret
        exact ⟨rfl, b2⟩
    · clear H HM
      go_enter Try.func6, Try.ntmps6
      go_wp2_with fail
      refine (live_any _).mono ?_
      rintro e w2 ⟨rfl, b2⟩
      go_wp2_with fail
      go_ret
      exact ⟨rfl, b2⟩
  · clear H HM
    go_enter Try.func6, Try.ntmps6
    go_wp2_with fail
    refine (live_any _).mono ?_
    rintro e w2 ⟨rfl, b2⟩
    go_wp2_with fail
    go_ret
    exact ⟨rfl, b2⟩
end Go.Proofs.Ythhbifcgilkddaa.Ha
