/- HandleOnly. -/
import Derived.Test.YthhbifcgilkddaaHaLive
namespace Go.Proofs.Ythhbifcgilkddaa.Ha
open Go.RowKit

/-- How many of the first k places are in use. -/
def cntU (l : List Int) (k : Nat) : Nat := (l.take k).countP okG
theorem take_snoc (l : List Int) (k : Nat) (h : k < l.length) : l.take (k + 1) = l.take k ++ [l.getD k 0] := by
  rw [List.take_succ_eq_append_getElem h]
  simp [List.getD, h]
theorem cntU_yes (l : List Int) (k : Nat) (h : k < l.length) (h2 : 0 ≤ l.getD k 0 ∧ l.getD k 0 ≤ 4095) : cntU l (k + 1) = cntU l k + 1 := by
  unfold cntU
  rw [take_snoc l k h, List.countP_append, List.countP_singleton, if_pos (show okG (l.getD k 0) = true from decide_eq_true h2)]
theorem cntU_no (l : List Int) (k : Nat) (h : k < l.length) (h2 : ¬ (0 ≤ l.getD k 0 ∧ l.getD k 0 ≤ 4095)) : cntU l (k + 1) = cntU l k := by
  unfold cntU
  rw [take_snoc l k h, List.countP_append, List.countP_singleton, if_neg (by unfold okG; rw [decide_eq_false h2]; simp), Nat.add_zero]
theorem cntU_le (l : List Int) (k : Nat) : cntU l k ≤ k := by
  unfold cntU
  have := List.countP_le_length (p := okG) (l := l.take k)
  simp at this
  omega
def OfIs (ao : Option Addr) (n cap : Nat) (w : World) (o v e0 : Int) : Prop := Calls Try.prog 17 #[.slice ao n cap, .int .i64 o] w fun e w' => e = .returned (.tuple #[.int .i64 v, .int .i64 e0]) ∧ w' = w
def IsIs (ao : Option Addr) (n cap : Nat) (w : World) (h : Int) (b : Bool) : Prop := Calls Try.prog 22 #[.slice ao n cap, .int .i64 h] w fun e w' => e = .returned (.bool b) ∧ w' = w
def ParTo (h o g e0 : Int) : Prop := ∀ w : World, Calls Try.prog 11 #[.int .i64 h] w fun e w' => e = .returned (.tuple #[.int .i64 o, .int .i64 g, .int .i64 e0]) ∧ w' = w
theorem at_ways {w : World} {ao : Option Addr} {n cap : Nat} {l : List Int} (H : Has w ao n cap l) (hn : n ≤ 64) (k : Nat) (hk : k < n) :
    ((0 ≤ l.getD k 0 ∧ l.getD k 0 ≤ 4095) ∧ ∃ x, OfIs ao n cap w k x 0 ∧ ParTo x k (l.getD k 0) 0 ∧ IsIs ao n cap w x true) ∨ (¬ (0 ≤ l.getD k 0 ∧ l.getD k 0 ≤ 4095) ∧ OfIs ao n cap w k 0 80) := by
  have hl := H.len
  have ho := of_any ao n cap l (k : Int) w H
  rcases of_ways l (k : Int) with ⟨h, _, _⟩ | ⟨h, h2, e1, e2⟩ | ⟨h, h2, e1, e2⟩
  · exact absurd (show 0 ≤ (k : Int) ∧ (k : Int) < 64 ∧ (k : Int) < l.length by omega) h
  · rw [e1, e2] at ho
    exact .inr ⟨h2, ho⟩
  · rw [e1] at ho
    have h3 : 0 ≤ at_ l (k : Int) ∧ at_ l (k : Int) ≤ 4095 := h2
    refine .inl ⟨h2, _, ho, fun w' => ?_, ?_⟩
    · have := par_yes (h := ofV l (k : Int)) (by rw [e2]; omega) w'
      rw [show ofV l (k : Int) % 64 = k by rw [e2]; omega, show ofV l (k : Int) / 64 = at_ l (k : Int) by rw [e2]; omega] at this
      exact this
    · have := is_any ao n cap l (ofV l (k : Int)) w H
      rwa [isB_iff.2 ⟨by rw [e2]; omega, by rw [e2]; omega, by rw [e2, show (at_ l (k : Int) * 64 + k) % 64 = k by omega]; omega⟩] at this

theorem fin_ways {w : World} {ao : Option Addr} {n cap : Nat} {l : List Int} (H : Has w ao n cap l) (h : Int) :
    (ParTo h 0 0 2 ∧ IsIs ao n cap w h false) ∨ ∃ (p : Nat) (g : Int), ParTo h p g 0 ∧ ((n ≤ p ∧ IsIs ao n cap w h false) ∨ (p < n ∧ ((l.getD p 0 = g ∧ IsIs ao n cap w h true) ∨ (l.getD p 0 ≠ g ∧ IsIs ao n cap w h false)))) := by
  have hl := H.len
  have hi := is_any ao n cap l h w H
  by_cases h1 : 0 ≤ h ∧ h < 262144
  · refine .inr ⟨(h % 64).toNat, h / 64, ?_, ?_⟩
    · rw [show (((h % 64).toNat : Nat) : Int) = h % 64 by omega]
      exact par_yes h1
    · by_cases h2 : n ≤ (h % 64).toNat
      · refine .inl ⟨h2, ?_⟩
        rwa [show isB l h = false by
          rw [Bool.eq_false_iff]
          intro e
          have := (isB_iff.1 e).2.1
          omega] at hi
      · refine .inr ⟨by omega, ?_⟩
        by_cases h3 : l.getD (h % 64).toNat 0 = h / 64
        · rw [isB_iff.2 ⟨h1, by omega, h3⟩] at hi
          exact .inl ⟨h3, hi⟩
        · refine .inr ⟨h3, ?_⟩
          rwa [show isB l h = false by
            rw [Bool.eq_false_iff]
            intro e
            exact h3 (isB_iff.1 e).2.2] at hi
  · refine .inl ⟨par_no h1, ?_⟩
    rwa [show isB l h = false by
      rw [Bool.eq_false_iff]
      intro e
      exact h1 (isB_iff.1 e).1] at hi

set_option maxRecDepth 100000 in
set_option maxHeartbeats 4000000 in
theorem only_in (ao : Option Addr) (l : List Int) (n cap : Nat) (h : Int) (w : World) (hn : n ≤ 64) (HH : Hid (Has w ao n cap l)) : Calls Try.prog 8 #[.slice ao n cap, .int .i64 h] w fun e w' => e = .returned (.bool true) ∧ Below w.heap.size w w' := by
  have i0 : (n : Int) ≤ 64 := by omega
  go_enter Try.func8, Try.ntmps8
  go_wp2_with fail
  go_loop [5, 6] (fun nv i => ∃ k c : Nat, k ≤ n ∧ i = .int .i64 k ∧ nv = .int .i64 c ∧ Hid (c = cntU l k)) (fun _ i => n - (intOf i).toNat)
  case atStart => exact ⟨0, 0, Nat.zero_le _, rfl, rfl, by simp [Hid, cntU]⟩
  case round =>
    obtain ⟨k, c, hk, rfl, rfl, HC⟩ := hrel
    have hc : c ≤ k := by rw [HC.out]; exact cntU_le l k
    by_cases hlt : k < n
    · have i1 : (0 : Int) ≤ (k : Int) := by omega
      have i2 : (k : Int) < (n : Int) := by omega
      have c1 : (c : Int) ≤ 64 := by omega
      rcases at_ways HH.out hn k hlt with ⟨hu, x, hO, hP, hI⟩ | ⟨hu, hO⟩
      · have HC1 := hid (cntU_yes l k (by have := HH.out.len; omega) hu)
        obtain ⟨a, rfl, hcell⟩ := HH.out.cell k hlt
        have HO := hid hO
        have HP := hid hP
        have HI := hid hI
        generalize l.getD k 0 = y at hcell HP
        clear hO hP hI hu hc
        go_wp2_with fail
        refine HO.out.mono ?_
        rintro e w2 ⟨rfl, hw⟩; rw [hw]; clear hw w2
        go_wp2_with fail
        refine (num_any 0 _).mono ?_
        rintro e w2 ⟨rfl, hw⟩; rw [hw]; clear hw w2
        go_wp2_with fail
        refine (HP.out _).mono ?_
        rintro e w2 ⟨rfl, hw⟩; rw [hw]; clear hw w2
        go_wp2_with fail
        refine (num_any 0 _).mono ?_
        rintro e w2 ⟨rfl, hw⟩; rw [hw]; clear hw w2
        go_wp2_with fail
        refine HI.out.mono ?_
        rintro e w2 ⟨rfl, hw⟩; rw [hw]; clear hw w2
        go_wp2_with fail
        go_round
        case rel => exact ⟨k + 1, c + 1, by omega, by go_num, by go_num, by show _ = _; rw [HC1.out, HC.out]⟩
        case measure => simp [intOf]; omega
      · have HC1 := hid (cntU_no l k (by have := HH.out.len; omega) hu)
        have HO := hid hO
        clear hO hu hc
        go_wp2_with fail
        refine HO.out.mono ?_
        rintro e w2 ⟨rfl, hw⟩; rw [hw]; clear hw w2
        go_wp2_with fail
        refine (num_any 80 _).mono ?_
        rintro e w2 ⟨rfl, hw⟩; rw [hw]; clear hw w2
        go_wp2_with fail
        go_round
        case rel => exact ⟨k + 1, c, by omega, by go_num, rfl, by show _ = _; rw [HC1.out, HC.out]⟩
        case measure => simp [intOf]; omega
    · obtain rfl : k = n := by omega
      go_wp2_with fail
      go_loop [12, 13] (fun nv i => ∃ j d : Nat, j ≤ k ∧ i = .int .i64 j ∧ nv = .int .i64 d ∧ Hid (d = cntU l j)) (fun _ i => k - (intOf i).toNat)
      case atStart => exact ⟨0, 0, Nat.zero_le _, rfl, rfl, by simp [Hid, cntU]⟩
      case round =>
        obtain ⟨j, d, hj, rfl, rfl, HD⟩ := hrel
        have hd : d ≤ j := by rw [HD.out]; exact cntU_le l j
        by_cases hjt : j < k
        · have i1 : (0 : Int) ≤ (j : Int) := by omega
          have i2 : (j : Int) < (k : Int) := by omega
          have d1 : (d : Int) ≤ 64 := by omega
          obtain ⟨a, rfl, hcell⟩ := HH.out.cell j hjt
          have hjl : j < l.length := by have := HH.out.len; omega
          have HY := hid (cntU_yes l j hjl)
          have HN := hid (cntU_no l j hjl)
          generalize l.getD j 0 = y at hcell HY HN
          clear hd
          by_cases y0 : 0 ≤ y
          · by_cases y1 : y ≤ 4095
            · have HE := hid (HY.out ⟨y0, y1⟩)
              go_wp2_with fail
              go_round
              case rel => exact ⟨j + 1, d + 1, by omega, by go_num, by go_num, by show _ = _; rw [HE.out, HD.out]⟩
              case measure => simp [intOf]; omega
            · have HE := hid (HN.out (fun x => y1 x.2))
              go_wp2_with fail
              go_round
              case rel => exact ⟨j + 1, d, by omega, by go_num, rfl, by show _ = _; rw [HE.out, HD.out]⟩
              case measure => simp [intOf]; omega
          · have HE := hid (HN.out (fun x => y0 x.1))
            go_wp2_with fail
            go_round
            case rel => exact ⟨j + 1, d, by omega, by go_num, rfl, by show _ = _; rw [HE.out, HD.out]⟩
            case measure => simp [intOf]; omega
        · obtain rfl : j = k := by omega
          obtain rfl : c = d := by rw [HC.out, HD.out]
          clear hd hc
          rcases fin_ways HH.out h with ⟨hP, hI⟩ | ⟨p, g, hP, hw⟩
          · have HP := hid hP
            have HI := hid hI
            clear hP hI
            go_wp2_with fail
            refine (HP.out _).mono ?_
            rintro e w2 ⟨rfl, hw⟩; rw [hw]; clear hw w2
            go_wp2_with fail
            refine HI.out.mono ?_
            rintro e w2 ⟨rfl, hw⟩; rw [hw]; clear hw w2
            go_wp2_with fail
            refine (num_any 2 _).mono ?_
            rintro e w2 ⟨rfl, hw⟩; rw [hw]; clear hw w2
            go_wp2_with fail
            refine (live_any _).mono ?_
            rintro e w2 ⟨rfl, b2⟩
            go_wp2_with fail
            go_ret
            exact ⟨rfl, b2⟩
          · have HP := hid hP
            clear hP
            have p0 : (0 : Int) ≤ (p : Int) := by omega
            rcases hw with ⟨hp, hI⟩ | ⟨hp, ⟨he, hI⟩ | ⟨he, hI⟩⟩
            · have HI := hid hI
              have p1 : ¬ (p : Int) < (j : Int) := by omega
              clear hI hp
              go_wp2_with fail
              refine (HP.out _).mono ?_
              rintro e w2 ⟨rfl, hw⟩; rw [hw]; clear hw w2
              go_wp2_with fail
              refine HI.out.mono ?_
              rintro e w2 ⟨rfl, hw⟩; rw [hw]; clear hw w2
              go_wp2_with fail
              refine (num_any 0 _).mono ?_
              rintro e w2 ⟨rfl, hw⟩; rw [hw]; clear hw w2
              go_wp2_with fail
              refine (live_any _).mono ?_
              rintro e w2 ⟨rfl, b2⟩
              go_wp2_with fail
              go_ret
              exact ⟨rfl, b2⟩
            · have HI := hid hI
              have p1 : (p : Int) < (j : Int) := by omega
              obtain ⟨a, rfl, hcell⟩ := HH.out.cell p hp
              rw [he] at hcell
              clear hI he hp
              go_wp2_with fail
              refine (HP.out _).mono ?_
              rintro e w2 ⟨rfl, hw⟩; rw [hw]; clear hw w2
              go_wp2_with fail
              refine HI.out.mono ?_
              rintro e w2 ⟨rfl, hw⟩; rw [hw]; clear hw w2
              go_wp2_with fail
              refine (num_any 0 _).mono ?_
              rintro e w2 ⟨rfl, hw⟩; rw [hw]; clear hw w2
              go_wp2_with fail
              refine (live_any _).mono ?_
              rintro e w2 ⟨rfl, b2⟩
              go_wp2_with fail
              go_ret
              exact ⟨rfl, b2⟩
            · have HI := hid hI
              have p1 : (p : Int) < (j : Int) := by omega
              obtain ⟨a, rfl, hcell⟩ := HH.out.cell p hp
              generalize l.getD p 0 = y at hcell he
              have hyg : (y == g) = false := by simp [he]
              clear hI he hp
              go_wp2_with fail
              refine (HP.out _).mono ?_
              rintro e w2 ⟨rfl, hw⟩; rw [hw]; clear hw w2
              go_wp2_with fail
              refine HI.out.mono ?_
              rintro e w2 ⟨rfl, hw⟩; rw [hw]; clear hw w2
              go_wp2_with fail
              refine (num_any 0 _).mono ?_
              rintro e w2 ⟨rfl, hw⟩; rw [hw]; clear hw w2
              go_wp2_with fail
              refine (live_any _).mono ?_
              rintro e w2 ⟨rfl, b2⟩
              go_wp2_with fail
              go_ret
              exact ⟨rfl, b2⟩
set_option maxRecDepth 100000 in
set_option maxHeartbeats 2000000 in
theorem only_any (ao : Option Addr) (l : List Int) (n cap : Nat) (h : Int) (w : World) (hm : n ≤ 9223372036854775807) (H : Has w ao n cap l) : Calls Try.prog 8 #[.slice ao n cap, .int .i64 h] w fun e w' => e = .returned (.bool true) ∧ Below w.heap.size w w' := by
  by_cases hn : n ≤ 64
  · exact only_in ao l n cap h w hn H
  · have hn2 : ¬ (n : Int) ≤ 64 := by omega
    clear H hn
    go_enter Try.func8, Try.ntmps8
    go_wp2_with fail
    refine (live_any _).mono ?_
    rintro e w2 ⟨rfl, b2⟩
    go_wp2_with fail
    go_ret
    exact ⟨rfl, b2⟩
end Go.Proofs.Ythhbifcgilkddaa.Ha
