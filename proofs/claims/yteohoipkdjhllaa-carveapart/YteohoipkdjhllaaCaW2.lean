/- What Size, end, both, Inside, Meet, Carve do. -/
import Derived.Test.YteohoipkdjhllaaCaW1
namespace Go.Proofs.Yteohoipkdjhllaa.Ca
open Go.RowKit

theorem ret_two {a b c d : Int} (h : a = c) (k : b = d) : Ending.returned (.tuple #[.int .i64 a, .int .i64 b]) = .returned (.tuple #[.int .i64 c, .int .i64 d]) := by rw [h, k]
theorem beq_no {a b : Int} (h : ¬ a = b) : (a == b) = false := by simp [h]
theorem beq_yes {a b : Int} (h : a = b) : (a == b) = true := by simp [h]
set_option maxHeartbeats 1000000 in
theorem size_any (k n : Int) (w : World) :
    Calls Try.prog 9 #[.int .i64 k, .int .i64 n] w fun e w' => e = .returned (.tuple #[.int .i64 (szV k n), .int .i64 (szE k n)]) ∧ w' = w := by
  by_cases h2 : k = 2
  · have HV : Hid (64 = szV k n) := by simp [Hid, szV, h2]
    have HE : Hid (0 = szE k n) := by simp [Hid, szE, h2]
    have b2 := beq_yes h2
    clear h2
    go_enter Try.func9, Try.ntmps9
    go_wp2
    go_ret2
    exact ⟨ret_two HV.out HE.out, rfl⟩
  · by_cases h3 : k = 3
    · have HV : Hid (16 = szV k n) := by simp [Hid, szV, h3]
      have HE : Hid (0 = szE k n) := by simp [Hid, szE, h3]
      have b2 := beq_no h2
      have b3 := beq_yes h3
      clear h2 h3
      go_enter Try.func9, Try.ntmps9
      go_wp2
      go_ret2
      exact ⟨ret_two HV.out HE.out, rfl⟩
    · by_cases h4 : k = 4
      · have HV : Hid (4 = szV k n) := by simp [Hid, szV, h4]
        have HE : Hid (0 = szE k n) := by simp [Hid, szE, h4]
        have b2 := beq_no h2
        have b3 := beq_no h3
        have b4 := beq_yes h4
        clear h2 h3 h4
        go_enter Try.func9, Try.ntmps9
        go_wp2
        go_ret2
        exact ⟨ret_two HV.out HE.out, rfl⟩
      · by_cases h5 : k = 5
        · have HV : Hid (4 = szV k n) := by simp [Hid, szV, h5]
          have HE : Hid (0 = szE k n) := by simp [Hid, szE, h5]
          have b2 := beq_no h2
          have b3 := beq_no h3
          have b4 := beq_no h4
          have b5 := beq_yes h5
          clear h2 h3 h4 h5
          go_enter Try.func9, Try.ntmps9
          go_wp2
          go_ret2
          exact ⟨ret_two HV.out HE.out, rfl⟩
        · by_cases h1 : k = 1
          · cases hp : pw n with
            | true =>
              have HV : Hid (n = szV k n) := by simp [Hid, szV, h1, hp]
              have HE : Hid (0 = szE k n) := by simp [Hid, szE, h1, hp]
              have b2 := beq_no h2
              have b3 := beq_no h3
              have b4 := beq_no h4
              have b5 := beq_no h5
              have b1 := beq_yes h1
              have hc := fun W => isSize_is hp W
              clear h1 h2 h3 h4 h5 hp
              go_enter Try.func9, Try.ntmps9
              go_wp2_with (go_at_call 28; refine (hc _).mono ?_; rintro e w1 ⟨rfl, hw⟩; rw [hw]; clear hw w1)
              go_ret2
              exact ⟨ret_two HV.out HE.out, rfl⟩
            | false =>
              have HV : Hid (0 = szV k n) := by simp [Hid, szV, h1, hp]
              have HE : Hid (2 = szE k n) := by simp [Hid, szE, h1, hp]
              have b2 := beq_no h2
              have b3 := beq_no h3
              have b4 := beq_no h4
              have b5 := beq_no h5
              have b1 := beq_yes h1
              have hc := fun W => isSize_is hp W
              clear h1 h2 h3 h4 h5 hp
              go_enter Try.func9, Try.ntmps9
              go_wp2_with (go_at_call 28; refine (hc _).mono ?_; rintro e w1 ⟨rfl, hw⟩; rw [hw]; clear hw w1)
              go_ret2
              exact ⟨ret_two HV.out HE.out, rfl⟩
          · have HV : Hid (0 = szV k n) := by simp [Hid, szV, h1, h2, h3, h4, h5]
            have HE : Hid (2 = szE k n) := by simp [Hid, szE, h1, h2, h3, h4, h5]
            have b2 := beq_no h2
            have b3 := beq_no h3
            have b4 := beq_no h4
            have b5 := beq_no h5
            have b1 := beq_no h1
            clear h1 h2 h3 h4 h5
            go_enter Try.func9, Try.ntmps9
            go_wp2
            go_ret2
            exact ⟨ret_two HV.out HE.out, rfl⟩
set_option maxHeartbeats 400000 in
theorem end_any (x : X) (w : World) (h : okX x = true) :
    Calls Try.prog 31 #[(.agg #[.int .i64 x.1, .int .i64 x.2])] w fun e w' => e = .returned (.int .i64 (x.1 + x.2)) ∧ Below w.heap.size w w' := by
  obtain ⟨h1, h2, h3⟩ := ok_iff.1 h
  clear h
  go_enter Try.func31, Try.ntmps31
  go_wp2
  go_ret
  exact ⟨rfl, alloc_below w _⟩
set_option maxHeartbeats 1000000 in
theorem both_any (a b : X) (w : World) :
    Calls Try.prog 30 #[(.agg #[.int .i64 a.1, .int .i64 a.2]), (.agg #[.int .i64 b.1, .int .i64 b.2])] w fun e w' => e = .returned (.bool (okX a && okX b)) ∧ Below w.heap.size w w' := by
  cases ha : okX a with
  | true =>
    have ca := fun W => check_yes ha W
    cases hb : okX b with
    | true =>
      have cb := fun W => check_yes hb W
      clear ha hb
      go_enter Try.func30, Try.ntmps30
      go_wp2_with fail
      have A0 := at_new w a 23
      refine (ca _).mono ?_
      rintro e w1 ⟨rfl, b1⟩
      have B1 := hid (q_trans (q_alloc (alloc_below w _) _) b1)
      obtain ⟨c0, c1⟩ := (at_new2 w a b 23).below b1
      clear b1 ca A0
      go_wp2_with fail
      refine (cb _).mono ?_
      rintro e w2 ⟨rfl, b2⟩
      have B2 := hid (q_trans B1.out b2)
      clear b2 cb c0 c1
      go_wp2
      go_ret
      exact ⟨rfl, B2.out⟩
    | false =>
      have cb := fun W => check_no hb W
      clear ha hb
      go_enter Try.func30, Try.ntmps30
      go_wp2_with fail
      refine (ca _).mono ?_
      rintro e w1 ⟨rfl, b1⟩
      have B1 := hid (q_trans (q_alloc (alloc_below w _) _) b1)
      obtain ⟨c0, c1⟩ := (at_new2 w a b 23).below b1
      clear b1 ca
      go_wp2_with fail
      refine (cb _).mono ?_
      rintro e w2 ⟨rfl, b2⟩
      have B2 := hid (q_trans B1.out b2)
      clear b2 cb c0 c1
      go_wp2
      go_ret
      exact ⟨rfl, B2.out⟩
  | false =>
    have ca := fun W => check_no ha W
    clear ha
    go_enter Try.func30, Try.ntmps30
    go_wp2_with fail
    refine (ca _).mono ?_
    rintro e w1 ⟨rfl, b1⟩
    have B1 := hid (q_trans (q_alloc (alloc_below w _) _) b1)
    clear b1 ca
    go_wp2
    go_ret
    exact ⟨rfl, B1.out⟩
end Go.Proofs.Yteohoipkdjhllaa.Ca
