/- What num, Check, Is, Same, Count (the program's, the document's) do. -/
import Derived.Test.YtaooijjppdfnfabDoorScMem
namespace Go.Proofs.YtaooijjppdfnfabDoor.Sc
open Go.RowKit

set_option maxHeartbeats 400000 in
theorem num_any (x : Int) (w : World) :
    Calls Tryd.prog 4 #[.int .i64 x] w fun e w' => e = .returned (.int .i64 x) ∧ w' = w := by
  go_enter Tryd.func4, Tryd.ntmps4
  go_wp2
  go_ret
  exact ⟨rfl, rfl⟩

theorem chk_no {l : List Int} {m : Int} (h : ¬ (1 ≤ m ∧ m ≤ 64)) : okL l m = false := by
  cases e : okL l m with
  | false => rfl
  | true => exact absurd ⟨(okL_iff.1 e).1, (okL_iff.1 e).2.1⟩ h
theorem chk_bad {l : List Int} {m : Int} {k : Nat} (hk : k < l.length) (h : ¬ (0 ≤ l.getD k 0 ∧ l.getD k 0 < m)) : okL l m = false := by
  cases e : okL l m with
  | false => rfl
  | true => exact absurd ((okL_iff.1 e).2.2 _ (by simp [List.getD, hk])) h
theorem chk_good {l : List Int} {m : Int} (h1 : 1 ≤ m) (h2 : m ≤ 64) (h : ∀ j, j < l.length → 0 ≤ l.getD j 0 ∧ l.getD j 0 < m) : okL l m = true := by
  refine okL_iff.2 ⟨h1, h2, fun x hx => ?_⟩
  obtain ⟨j, hj, rfl⟩ := List.getElem_of_mem hx
  have := h j hj
  simpa [List.getD, hj] using this

set_option maxRecDepth 100000 in
set_option maxHeartbeats 1000000 in
theorem check_core (ao : Option Addr) (l : List Int) (n cap : Nat) (m r : Int) (w : World) (HN : Hid (n = l.length)) (hs : n ≤ 9223372036854775807) (RR : Hid (Row w ao (vals l))) (HR : Hid (r = chk l m)) :
    Calls Tryd.prog 5 #[.slice ao n cap, .int .i64 m] w fun e w' => e = .returned (.int .i64 r) ∧ w' = w := by
  by_cases h1 : 1 ≤ m
  · by_cases h2 : m ≤ 64
    · go_enter Tryd.func5, Tryd.ntmps5
      go_wp2
      go_loop [15] (fun i => ∃ k : Nat, k ≤ n ∧ i = .int .i64 k ∧ Hid (∀ j, j < k → 0 ≤ l.getD j 0 ∧ l.getD j 0 < m)) (fun i => n - (intOf i).toNat)
      case atStart => exact ⟨0, Nat.zero_le _, rfl, fun j hj => absurd hj (by omega)⟩
      case round =>
        obtain ⟨k, hk, rfl, HA⟩ := hrel
        by_cases hlt : k < n
        · have hkl : Hid (k < l.length) := by have := HN.out; show k < l.length; omega
          obtain ⟨a, rfl, hc⟩ := row_at RR.out k hkl.out
          obtain ⟨x, hx⟩ : ∃ x, l.getD k 0 = x := ⟨_, rfl⟩
          rw [hx] at hc
          have HX := hid hx
          clear hx
          by_cases h3 : x < 0
          · have HB : Hid (okL l m = false) := chk_bad hkl.out (by rw [HX.out]; omega)
            go_wp2
            go_ret
            exact ⟨by rw [HR.out]; simp [chk, HB.out], rfl⟩
          · by_cases h4 : m ≤ x
            · have HB : Hid (okL l m = false) := chk_bad hkl.out (by rw [HX.out]; omega)
              go_wp2
              go_ret
              exact ⟨by rw [HR.out]; simp [chk, HB.out], rfl⟩
            · have HA' : Hid (∀ j, j < k + 1 → 0 ≤ l.getD j 0 ∧ l.getD j 0 < m) := fun j hj => by
                by_cases e : j = k
                · subst e; rw [HX.out]; omega
                · exact HA.out j (by omega)
              go_wp2
              go_round
              case rel => exact ⟨k + 1, by omega, by go_num, HA'⟩
              case measure => simp [intOf]; omega
        · obtain rfl : k = n := by omega
          have HB : Hid (okL l m = true) := chk_good h1 h2 (fun j hj => HA.out j (by rw [HN.out]; exact hj))
          go_wp2
          go_ret
          exact ⟨by rw [HR.out]; simp [chk, HB.out], rfl⟩
    · have HB : Hid (okL l m = false) := chk_no (by omega)
      go_enter Tryd.func5, Tryd.ntmps5
      go_wp2
      go_ret
      exact ⟨by rw [HR.out]; simp [chk, HB.out], rfl⟩
  · have HB : Hid (okL l m = false) := chk_no (by omega)
    go_enter Tryd.func5, Tryd.ntmps5
    go_wp2
    go_ret
    exact ⟨by rw [HR.out]; simp [chk, HB.out], rfl⟩
theorem check_any (ao : Option Addr) (l : List Int) (n cap : Nat) (m : Int) (w : World) (hn : n = l.length) (hs : n ≤ 9223372036854775807) (hr : Row w ao (vals l)) :
    Calls Tryd.prog 5 #[.slice ao n cap, .int .i64 m] w fun e w' => e = .returned (.int .i64 (chk l m)) ∧ w' = w := check_core ao l n cap m _ w hn hs hr rfl

theorem cnt_take (l : List Int) (c : Int) (k : Nat) (hk : k < l.length) : cnt (l.take (k + 1)) c = cnt (l.take k) c + if l.getD k 0 = c then 1 else 0 := by
  rw [List.take_succ_eq_append_getElem hk, cnt_snoc]
  simp [List.getD, hk]

set_option maxRecDepth 100000 in
set_option maxHeartbeats 1000000 in
theorem count_core (ao : Option Addr) (l : List Int) (n cap : Nat) (c : Int) (r : Nat) (w : World) (HN : Hid (n = l.length)) (hs : n ≤ 9223372036854775806) (RR : Hid (Row w ao (vals l))) (HR : Hid (r = cnt l c)) :
    Calls Tryd.prog 7 #[.slice ao n cap, .int .i64 c] w fun e w' => e = .returned (.int .i64 r) ∧ w' = w := by
  go_enter Tryd.func7, Tryd.ntmps7
  go_wp2
  go_loop [5, 10] (fun q i => ∃ k j : Nat, k ≤ n ∧ j ≤ k ∧ i = .int .i64 k ∧ q = .int .i64 j ∧ Hid (j = cnt (l.take k) c)) (fun _ i => n - (intOf i).toNat)
  case atStart => exact ⟨0, 0, Nat.zero_le _, Nat.zero_le _, rfl, rfl, by simp [cnt, Hid]⟩
  case round =>
    obtain ⟨k, j, hk, hj, rfl, rfl, HJ⟩ := hrel
    by_cases hlt : k < n
    · have hkl : Hid (k < l.length) := by have := HN.out; show k < l.length; omega
      obtain ⟨a, rfl, hc⟩ := row_at RR.out k hkl.out
      have HT := hid (cnt_take l c k hkl.out)
      obtain ⟨x, hx⟩ : ∃ x, l.getD k 0 = x := ⟨_, rfl⟩
      rw [hx] at hc HT
      clear hx
      by_cases h3 : x = c
      · have hT : Hid (j + 1 = cnt (l.take (k + 1)) c) := by show j + 1 = _; rw [HT.out, if_pos h3, ← HJ.out]
        go_wp2
        go_round
        case rel => exact ⟨k + 1, j + 1, by omega, by omega, by go_num, by go_num, hT⟩
        case measure => simp [intOf]; omega
      · have hT : Hid (j = cnt (l.take (k + 1)) c) := by show j = _; rw [HT.out, if_neg h3, ← HJ.out]; rfl
        go_wp2
        go_round
        case rel => exact ⟨k + 1, j, by omega, by omega, by go_num, rfl, hT⟩
        case measure => simp [intOf]; omega
    · obtain rfl : k = n := by omega
      go_wp2
      go_ret
      have e : j = r := by rw [HR.out, HJ.out, HN.out, List.take_length]
      subst e
      exact ⟨rfl, rfl⟩
theorem count_any (ao : Option Addr) (l : List Int) (n cap : Nat) (c : Int) (w : World) (hn : n = l.length) (hs : n ≤ 9223372036854775806) (hr : Row w ao (vals l)) :
    Calls Tryd.prog 7 #[.slice ao n cap, .int .i64 c] w fun e w' => e = .returned (.int .i64 (cnt l c : Nat)) ∧ w' = w := count_core ao l n cap c _ w hn hs hr rfl

theorem same_at {l m : List Int} (hn : l.length = m.length) (h : ∀ j, j < l.length → l.getD j 0 = m.getD j 0) : l = m := by
  refine List.ext_getElem hn fun j h1 h2 => ?_
  have := h j h1
  simpa [List.getD, h1, h2] using this

set_option maxRecDepth 100000 in
set_option maxHeartbeats 1000000 in
theorem same_core (ao bo : Option Addr) (l m : List Int) (n k cap cap' : Nat) (r : Bool) (w : World) (HN : Hid (n = l.length)) (HK : Hid (k = m.length)) (hs : n ≤ 9223372036854775807) (hs' : k ≤ 9223372036854775807) (RA : Hid (Row w ao (vals l))) (RB : Hid (Row w bo (vals m))) (HR : Hid (r = decide (l = m))) :
    Calls Tryd.prog 10 #[.slice ao n cap, .slice bo k cap'] w fun e w' => e = .returned (.bool r) ∧ Below w.heap.size w w' := by
  by_cases hnk : n = k
  · subst hnk
    go_enter Tryd.func10, Tryd.ntmps10
    go_wp2
    go_loopw [5] (fun i wr => ∃ p : Nat, p ≤ n ∧ i = .int .i64 p ∧ (∃ nd, wr = w.drewN nd) ∧ Hid (∀ j, j < p → l.getD j 0 = m.getD j 0)) (fun i _ => n - (intOf i).toNat)
    case atStart => exact ⟨0, Nat.zero_le _, rfl, ⟨0, rfl⟩, fun j hj => absurd hj (by omega)⟩
    case round =>
      obtain ⟨p, hp, rfl, ⟨nd, rfl⟩, HA⟩ := hrel
      by_cases hlt : p < n
      · have hkl : Hid (p < l.length) := by have := HN.out; show p < l.length; omega
        have hkm : Hid (p < m.length) := by have := HK.out; show p < m.length; omega
        obtain ⟨a, rfl, hc⟩ := row_at RA.out p hkl.out
        obtain ⟨b, rfl, hd⟩ := row_at RB.out p hkm.out
        obtain ⟨x, hx⟩ : ∃ x, l.getD p 0 = x := ⟨_, rfl⟩
        obtain ⟨y, hy⟩ : ∃ y, m.getD p 0 = y := ⟨_, rfl⟩
        rw [hx] at hc
        rw [hy] at hd
        have HX := hid hx
        have HY := hid hy
        clear hx hy
        by_cases h3 : x = y
        · subst h3
          have HA' : Hid (∀ j, j < p + 1 → l.getD j 0 = m.getD j 0) := fun j hj => by
            by_cases e : j = p
            · subst e; rw [HX.out, HY.out]
            · exact HA.out j (by omega)
          go_wp2
          go_quiet (fail)
          go_wp2
          go_roundw
          case rel => exact ⟨p + 1, by omega, by go_num, ⟨_, rfl⟩, HA'⟩
          case measure => simp [intOf]; omega
        · have HB : Hid (¬ l = m) := fun e => h3 (by rw [← HX.out, ← HY.out, e])
          have hne : (x != y) = true := by simp [h3]
          have HR' : Hid (r = false) := by show r = false; rw [HR.out]; simp [HB.out]
          clear h3
          go_wp2
          go_quiet (fail)
          go_wp2
          go_ret
          exact ⟨by rw [HR'.out]; rfl, q_drewN (q_drewN (Below.refl _ _) _) _⟩
      · obtain rfl : p = n := by omega
        have HB : Hid (l = m) := same_at (by rw [← HN.out, ← HK.out]) (fun j hj => HA.out j (by rw [HN.out]; exact hj))
        go_wp2
        go_ret
        exact ⟨by rw [HR.out]; simp [HB.out], q_drewN (Below.refl _ _) _⟩
  · have HB : Hid (¬ l = m) := fun e => hnk (by rw [HN.out, HK.out, e])
    have hne : ((n : Int) != (k : Int)) = true := by simp; omega
    go_enter Tryd.func10, Tryd.ntmps10
    go_wp2
    go_ret
    exact ⟨by rw [HR.out]; simp [HB.out], Below.refl _ _⟩
theorem same_any (ao bo : Option Addr) (l m : List Int) (n k cap cap' : Nat) (w : World) (hn : n = l.length) (hk : k = m.length) (hs : n ≤ 9223372036854775807) (hs' : k ≤ 9223372036854775807) (ra : Row w ao (vals l)) (rb : Row w bo (vals m)) :
    Calls Tryd.prog 10 #[.slice ao n cap, .slice bo k cap'] w fun e w' => e = .returned (.bool (decide (l = m))) ∧ Below w.heap.size w w' := same_core ao bo l m n k cap cap' _ w hn hk hs hs' ra rb rfl
end Go.Proofs.YtaooijjppdfnfabDoor.Sc
