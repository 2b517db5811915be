/- The walk of ScriptMore: it answers true. -/
import Derived.Test.YtaooijjppdfnfaaDoorScLive
namespace Go.Proofs.YtaooijjppdfnfaaDoor.Sc
open Go.RowKit

set_option maxRecDepth 100000 in
set_option maxHeartbeats 1000000 in
theorem more_1 (ao : Option Addr) (l : List Int) (n cap : Nat) (x v m : Int) (g h : Nat) (w : World) (HN : Hid (n = l.length)) (hn : n ≤ 150) (hx0 : 0 ≤ x) (hx : x ≤ 64) (hv0 : 1 ≤ v) (hv : v ≤ 1000) (hm0 : 0 ≤ m) (hm : m ≤ 1000) (RR : Hid (Row w ao (vals l))) (HE : Hid (Errs w)) (HG : Hid (Gap l x g)) (HH : Hid (Gap l (max (x - 1) 0) h)) (hgh : h ≤ g) (hgn : g ≤ n) (hy : (g : Int) + 1 ≤ v) (hz : g = 0) :
    Calls Tryd.prog 7 #[.slice ao n cap, .int .i64 x, .int .i64 v, .int .i64 m] w fun e w' => e = .returned (.bool true) ∧ Below w.heap.size w w' := by
  have hs : Hid (n ≤ 1000000) := by show n ≤ 1000000; omega
  have d1 : decide ((g : Int) + 1 ≤ v) = true := by simp; omega
  have d2 : decide ((g : Int) + 1 ≤ v + m) = true := by simp; omega
  have d3 : decide ((h : Int) + 1 ≤ v) = true := by simp; omega
  have d4 : decide ((g : Int) + 1 ≤ (g : Int) + 1) = true := by simp
  have d5 : decide ((g : Int) + 1 ≤ (g : Int)) = false := by simp; omega
  have z1 : (((g : Int) + 1) == 1) = true := by rw [hz]; rfl
  clear hy hz
  go_enter Tryd.func7, Tryd.ntmps7
  have f1 := fair_any ao l n cap x v g w HN hs RR HG
  rw [d1] at f1
  go_wp2_with fail
  refine f1.mono ?_
  clear f1
  rintro e w1 ⟨rfl, b1⟩
  have RR1 := hid (RR.out.below b1)
  have HB1 := hid b1
  have HE1 := hid (HE.out.below b1)
  clear b1
  have f2 := fair_any ao l n cap x (v + m) g w1 HN hs RR1 HG
  rw [d2] at f2
  go_wp2_with fail
  refine f2.mono ?_
  clear f2
  rintro e w2 ⟨rfl, b2⟩
  have RR2 := hid (RR1.out.below b2)
  have HB2 := hid (q_trans HB1.out b2)
  have HE2 := hid (HE1.out.below b2)
  clear b2 RR1 HB1 HE1
  have f3 := fair_any ao l n cap (max (x - 1) 0) v h w2 HN hs RR2 HH
  rw [d3] at f3
  go_wp2_with fail
  refine f3.mono ?_
  clear f3
  rintro e w3 ⟨rfl, b3⟩
  have RR3 := hid (RR2.out.below b3)
  have HB3 := hid (q_trans HB2.out b3)
  have HE3 := hid (HE2.out.below b3)
  clear b3 RR2 HB2 HE2
  go_wp2_with fail
  refine (window_any ao l n cap x g _ HN.out (by omega) RR3.out HG.out).mono ?_
  rintro e w4 ⟨rfl, b4⟩
  have RR4 := hid (RR3.out.below b4)
  have HB4 := hid (q_trans HB3.out b4)
  have HE4 := hid (HE3.out.below b4)
  clear b4 RR3 HB3 HE3
  have f4 := fair_any ao l n cap x ((g : Int) + 1) g w4 HN hs RR4 HG
  rw [d4] at f4
  go_wp2_with fail
  refine f4.mono ?_
  clear f4
  rintro e w5 ⟨rfl, b5⟩
  have RR5 := hid (RR4.out.below b5)
  have HB5 := hid (q_trans HB4.out b5)
  have HE5 := hid (HE4.out.below b5)
  clear b5 RR4 HB4 HE4
  have f6 := fair_any ao l n cap x v g w5 HN hs RR5 HG
  rw [d1] at f6
  go_wp2_with fail
  refine f6.mono ?_
  clear f6
  rintro e w6 ⟨rfl, b6⟩
  have RR6 := hid (RR5.out.below b6)
  have HB6 := hid (q_trans HB5.out b6)
  have HE6 := hid (HE5.out.below b6)
  clear b6 RR5 HB5 HE5
  go_wp2_with fail
  refine (live_any _ HE6).mono ?_
  rintro e wz ⟨rfl, bz⟩
  have HZ := hid (q_trans HB6.out bz)
  clear bz
  go_wp2_with fail
  go_ret
  exact ⟨rfl, HZ.out⟩
set_option maxRecDepth 100000 in
set_option maxHeartbeats 1000000 in
theorem more_2 (ao : Option Addr) (l : List Int) (n cap : Nat) (x v m : Int) (g h : Nat) (w : World) (HN : Hid (n = l.length)) (hn : n ≤ 150) (hx0 : 0 ≤ x) (hx : x ≤ 64) (hv0 : 1 ≤ v) (hv : v ≤ 1000) (hm0 : 0 ≤ m) (hm : m ≤ 1000) (RR : Hid (Row w ao (vals l))) (HE : Hid (Errs w)) (HG : Hid (Gap l x g)) (HH : Hid (Gap l (max (x - 1) 0) h)) (hgh : h ≤ g) (hgn : g ≤ n) (hy : (g : Int) + 1 ≤ v) (hz : ¬ g = 0) :
    Calls Tryd.prog 7 #[.slice ao n cap, .int .i64 x, .int .i64 v, .int .i64 m] w fun e w' => e = .returned (.bool true) ∧ Below w.heap.size w w' := by
  have hs : Hid (n ≤ 1000000) := by show n ≤ 1000000; omega
  have d1 : decide ((g : Int) + 1 ≤ v) = true := by simp; omega
  have d2 : decide ((g : Int) + 1 ≤ v + m) = true := by simp; omega
  have d3 : decide ((h : Int) + 1 ≤ v) = true := by simp; omega
  have d4 : decide ((g : Int) + 1 ≤ (g : Int) + 1) = true := by simp
  have d5 : decide ((g : Int) + 1 ≤ (g : Int)) = false := by simp; omega
  have z1 : (((g : Int) + 1) == 1) = false := by simp; omega
  clear hy hz
  go_enter Tryd.func7, Tryd.ntmps7
  have f1 := fair_any ao l n cap x v g w HN hs RR HG
  rw [d1] at f1
  go_wp2_with fail
  refine f1.mono ?_
  clear f1
  rintro e w1 ⟨rfl, b1⟩
  have RR1 := hid (RR.out.below b1)
  have HB1 := hid b1
  have HE1 := hid (HE.out.below b1)
  clear b1
  have f2 := fair_any ao l n cap x (v + m) g w1 HN hs RR1 HG
  rw [d2] at f2
  go_wp2_with fail
  refine f2.mono ?_
  clear f2
  rintro e w2 ⟨rfl, b2⟩
  have RR2 := hid (RR1.out.below b2)
  have HB2 := hid (q_trans HB1.out b2)
  have HE2 := hid (HE1.out.below b2)
  clear b2 RR1 HB1 HE1
  have f3 := fair_any ao l n cap (max (x - 1) 0) v h w2 HN hs RR2 HH
  rw [d3] at f3
  go_wp2_with fail
  refine f3.mono ?_
  clear f3
  rintro e w3 ⟨rfl, b3⟩
  have RR3 := hid (RR2.out.below b3)
  have HB3 := hid (q_trans HB2.out b3)
  have HE3 := hid (HE2.out.below b3)
  clear b3 RR2 HB2 HE2
  go_wp2_with fail
  refine (window_any ao l n cap x g _ HN.out (by omega) RR3.out HG.out).mono ?_
  rintro e w4 ⟨rfl, b4⟩
  have RR4 := hid (RR3.out.below b4)
  have HB4 := hid (q_trans HB3.out b4)
  have HE4 := hid (HE3.out.below b4)
  clear b4 RR3 HB3 HE3
  have f4 := fair_any ao l n cap x ((g : Int) + 1) g w4 HN hs RR4 HG
  rw [d4] at f4
  go_wp2_with fail
  refine f4.mono ?_
  clear f4
  rintro e w5 ⟨rfl, b5⟩
  have RR5 := hid (RR4.out.below b5)
  have HB5 := hid (q_trans HB4.out b5)
  have HE5 := hid (HE4.out.below b5)
  clear b5 RR4 HB4 HE4
  have f5 := fair_any ao l n cap x (g : Int) g w5 HN hs RR5 HG
  rw [d5] at f5
  go_wp2_with fail
  refine f5.mono ?_
  clear f5
  rintro e w6 ⟨rfl, b6⟩
  have RR6 := hid (RR5.out.below b6)
  have HB6 := hid (q_trans HB5.out b6)
  have HE6 := hid (HE5.out.below b6)
  clear b6 RR5 HB5 HE5
  have f6 := fair_any ao l n cap x v g w6 HN hs RR6 HG
  rw [d1] at f6
  go_wp2_with fail
  refine f6.mono ?_
  clear f6
  rintro e w7 ⟨rfl, b7⟩
  have RR7 := hid (RR6.out.below b7)
  have HB7 := hid (q_trans HB6.out b7)
  have HE7 := hid (HE6.out.below b7)
  clear b7 RR6 HB6 HE6
  go_wp2_with fail
  refine (live_any _ HE7).mono ?_
  rintro e wz ⟨rfl, bz⟩
  have HZ := hid (q_trans HB7.out bz)
  clear bz
  go_wp2_with fail
  go_ret
  exact ⟨rfl, HZ.out⟩
set_option maxRecDepth 100000 in
set_option maxHeartbeats 1000000 in
theorem more_4 (ao : Option Addr) (l : List Int) (n cap : Nat) (x v m : Int) (g h : Nat) (w : World) (HN : Hid (n = l.length)) (hn : n ≤ 150) (hx0 : 0 ≤ x) (hx : x ≤ 64) (hv0 : 1 ≤ v) (hv : v ≤ 1000) (hm0 : 0 ≤ m) (hm : m ≤ 1000) (RR : Hid (Row w ao (vals l))) (HE : Hid (Errs w)) (HG : Hid (Gap l x g)) (_HH : Hid (Gap l (max (x - 1) 0) h)) (_hgh : h ≤ g) (hgn : g ≤ n) (hy : ¬ (g : Int) + 1 ≤ v) (_hz : ¬ g = 0) :
    Calls Tryd.prog 7 #[.slice ao n cap, .int .i64 x, .int .i64 v, .int .i64 m] w fun e w' => e = .returned (.bool true) ∧ Below w.heap.size w w' := by
  have hs : Hid (n ≤ 1000000) := by show n ≤ 1000000; omega
  have d1 : decide ((g : Int) + 1 ≤ v) = false := by simp; omega
  have d4 : decide ((g : Int) + 1 ≤ (g : Int) + 1) = true := by simp
  have d5 : decide ((g : Int) + 1 ≤ (g : Int)) = false := by simp; omega
  have z1 : (((g : Int) + 1) == 1) = false := by simp; omega
  clear hy _hz
  go_enter Tryd.func7, Tryd.ntmps7
  have f1 := fair_any ao l n cap x v g w HN hs RR HG
  rw [d1] at f1
  go_wp2_with fail
  refine f1.mono ?_
  clear f1
  rintro e w1 ⟨rfl, b1⟩
  have RR1 := hid (RR.out.below b1)
  have HB1 := hid b1
  have HE1 := hid (HE.out.below b1)
  clear b1
  go_wp2_with fail
  refine (window_any ao l n cap x g _ HN.out (by omega) RR1.out HG.out).mono ?_
  rintro e w2 ⟨rfl, b2⟩
  have RR2 := hid (RR1.out.below b2)
  have HB2 := hid (q_trans HB1.out b2)
  have HE2 := hid (HE1.out.below b2)
  clear b2 RR1 HB1 HE1
  have f4 := fair_any ao l n cap x ((g : Int) + 1) g w2 HN hs RR2 HG
  rw [d4] at f4
  go_wp2_with fail
  refine f4.mono ?_
  clear f4
  rintro e w3 ⟨rfl, b3⟩
  have RR3 := hid (RR2.out.below b3)
  have HB3 := hid (q_trans HB2.out b3)
  have HE3 := hid (HE2.out.below b3)
  clear b3 RR2 HB2 HE2
  have f5 := fair_any ao l n cap x (g : Int) g w3 HN hs RR3 HG
  rw [d5] at f5
  go_wp2_with fail
  refine f5.mono ?_
  clear f5
  rintro e w4 ⟨rfl, b4⟩
  have RR4 := hid (RR3.out.below b4)
  have HB4 := hid (q_trans HB3.out b4)
  have HE4 := hid (HE3.out.below b4)
  clear b4 RR3 HB3 HE3
  have f6 := fair_any ao l n cap x v g w4 HN hs RR4 HG
  rw [d1] at f6
  go_wp2_with fail
  refine f6.mono ?_
  clear f6
  rintro e w5 ⟨rfl, b5⟩
  have RR5 := hid (RR4.out.below b5)
  have HB5 := hid (q_trans HB4.out b5)
  have HE5 := hid (HE4.out.below b5)
  clear b5 RR4 HB4 HE4
  go_wp2_with fail
  refine (live_any _ HE5).mono ?_
  rintro e wz ⟨rfl, bz⟩
  have HZ := hid (q_trans HB5.out bz)
  clear bz
  go_wp2_with fail
  go_ret
  exact ⟨rfl, HZ.out⟩
set_option maxRecDepth 100000 in
set_option maxHeartbeats 1000000 in
theorem more_out (ao : Option Addr) (n cap : Nat) (x v m : Int) (w : World) (hn : n ≤ 9223372036854775807) (HE : Hid (Errs w)) (h : ¬ (n ≤ 150 ∧ 0 ≤ x ∧ x ≤ 64 ∧ 1 ≤ v ∧ v ≤ 1000 ∧ 0 ≤ m ∧ m ≤ 1000)) :
    Calls Tryd.prog 7 #[.slice ao n cap, .int .i64 x, .int .i64 v, .int .i64 m] w fun e w' => e = .returned (.bool true) ∧ Below w.heap.size w w' := by
  by_cases h0 : n ≤ 150
  · by_cases h1 : 0 ≤ x
    · by_cases h2 : x ≤ 64
      · by_cases h3 : 1 ≤ v
        · by_cases h4 : v ≤ 1000
          · by_cases h5 : 0 ≤ m
            · have h6 : ¬ m ≤ 1000 := fun q => h ⟨h0, h1, h2, h3, h4, h5, q⟩
              clear h
              go_enter Tryd.func7, Tryd.ntmps7
              go_wp2_with (go_at_call 9; refine (live_any _ HE).mono ?_; rintro e w1 ⟨rfl, b1⟩)
              go_ret
              exact ⟨rfl, b1⟩
            · clear h
              go_enter Tryd.func7, Tryd.ntmps7
              go_wp2_with (go_at_call 9; refine (live_any _ HE).mono ?_; rintro e w1 ⟨rfl, b1⟩)
              go_ret
              exact ⟨rfl, b1⟩
          · clear h
            go_enter Tryd.func7, Tryd.ntmps7
            go_wp2_with (go_at_call 9; refine (live_any _ HE).mono ?_; rintro e w1 ⟨rfl, b1⟩)
            go_ret
            exact ⟨rfl, b1⟩
        · clear h
          go_enter Tryd.func7, Tryd.ntmps7
          go_wp2_with (go_at_call 9; refine (live_any _ HE).mono ?_; rintro e w1 ⟨rfl, b1⟩)
          go_ret
          exact ⟨rfl, b1⟩
      · clear h
        go_enter Tryd.func7, Tryd.ntmps7
        go_wp2_with (go_at_call 9; refine (live_any _ HE).mono ?_; rintro e w1 ⟨rfl, b1⟩)
        go_ret
        exact ⟨rfl, b1⟩
    · clear h
      go_enter Tryd.func7, Tryd.ntmps7
      go_wp2_with (go_at_call 9; refine (live_any _ HE).mono ?_; rintro e w1 ⟨rfl, b1⟩)
      go_ret
      exact ⟨rfl, b1⟩
  · clear h
    go_enter Tryd.func7, Tryd.ntmps7
    go_wp2_with (go_at_call 9; refine (live_any _ HE).mono ?_; rintro e w1 ⟨rfl, b1⟩)
    go_ret
    exact ⟨rfl, b1⟩
/-- SCRIPTMORE ANSWERS TRUE, WHATEVER COMES. -/
theorem more_any (ao : Option Addr) (l : List Int) (n cap : Nat) (x v m : Int) (w : World) (hl : n = l.length) (hn : n ≤ 9223372036854775807) (_hc : ao = none → cap = 0) (hr : Row w ao (vals l)) (HE : Errs w) :
    Calls Tryd.prog 7 #[.slice ao n cap, .int .i64 x, .int .i64 v, .int .i64 m] w fun e w' => e = .returned (.bool true) ∧ Below w.heap.size w w' := by
  by_cases h : n ≤ 150 ∧ 0 ≤ x ∧ x ≤ 64 ∧ 1 ≤ v ∧ v ≤ 1000 ∧ 0 ≤ m ∧ m ≤ 1000
  · obtain ⟨h0, h1, h2, h3, h4, h5, h6⟩ := h
    obtain ⟨g, hg, hgl⟩ := gap_is l x
    obtain ⟨q, hq, _⟩ := gap_is l (max (x - 1) 0)
    have hle : q ≤ g := hg.less hq (by omega)
    by_cases hy : (g : Int) + 1 ≤ v
    · by_cases hz : g = 0
      · exact more_1 ao l n cap x v m g q w hl h0 h1 h2 h3 h4 h5 h6 hr HE hg hq hle (by omega) hy hz
      · exact more_2 ao l n cap x v m g q w hl h0 h1 h2 h3 h4 h5 h6 hr HE hg hq hle (by omega) hy hz
    · by_cases hz : g = 0
      · omega
      · exact more_4 ao l n cap x v m g q w hl h0 h1 h2 h3 h4 h5 h6 hr HE hg hq hle (by omega) hy hz
  · exact more_out ao n cap x v m w hn HE h
end Go.Proofs.YtaooijjppdfnfaaDoor.Sc
