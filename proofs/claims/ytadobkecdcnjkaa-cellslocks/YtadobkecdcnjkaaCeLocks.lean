/- The walk of CellsLocks: it answers true. -/
import Derived.Test.YtadobkecdcnjkaaCeOps
namespace Go.Proofs.Ytadobkecdcnjkaa.Ce
open Go.RowKit

set_option maxRecDepth 100000 in
set_option maxHeartbeats 1000000 in
theorem clocks_long (ao : Option Addr) (n cap : Nat) (w : World) (hn : (n : Int) ≤ 200 ↔ False) :
    Calls Try.prog 6 #[.slice ao n cap] w fun e w' => e = .returned (.bool true) ∧ Below w.heap.size w w' := by
  have hd : decide ((n : Int) ≤ 200) = false := by simpa using hn
  clear hn
  go_enter Try.func6, Try.ntmps6
  go_wp2_with (first | (go_at_call 9; refine (small_any _ _ _ _).mono ?_; rintro e w' ⟨rfl, rfl⟩) | (go_at_call 10; refine (live_any _).mono ?_; rintro e w6 ⟨rfl, b6⟩))
  go_ret
  exact ⟨rfl, b6⟩

/-- A lock's cell: a try and a letting go. -/
theorem lock_do {w : World} {B p g vcap : Nat} {tao : Option Addr} {tcap : Nat} {s : S} {k a v ww hv hv' : Int} {b : Bool} (HC : Cel w B p g vcap tao tcap s) (hs : s.vs = [hv]) (hsn : s.n ≤ 5000)
    (hw : 1 ≤ ww) (h : (k = 4 ∧ b = (hv == 0) ∧ hv' = (if hv = 0 then ww else hv)) ∨ (k = 5 ∧ b = (hv == ww) ∧ hv' = (if hv = ww then 0 else hv))) :
    Calls Try.prog 14 #[.pointer (some ⟨p, 0, none⟩), .agg #[.int .i64 k, .int .i64 0, .int .i64 a, .int .i64 v, .int .i64 ww]] w fun e w' => e = .returned (.tuple #[.int .i64 hv, .bool b, .int .i64 0]) ∧
      ∃ tao' tcap' s', Cel w' B p g vcap tao' tcap' s' ∧ s'.vs = [hv'] ∧ s'.n ≤ s.n + 1 ∧ Kept (foot p g tao) w w' := by
  have hk : okO ⟨k, 0, a, v, ww⟩ s.vs.length = true := by
    rw [okO_iff, hs]
    rcases h with ⟨rfl, _⟩ | ⟨rfl, _⟩ <;> simp [hw]
  have h' := do_any HC ⟨k, 0, a, v, ww⟩ hsn
  have e1 : (apR s.vs ⟨k, 0, a, v, ww⟩).got = hv := by rw [apR_yes hk, hs]; rfl
  have e2 : (apR s.vs ⟨k, 0, a, v, ww⟩).ok = b := by
    rw [apR_yes hk, hs]
    show stB hv _ = b
    rcases h with ⟨rfl, rfl, _⟩ | ⟨rfl, rfl, _⟩
    · rw [Bool.eq_iff_iff, stB_iff]; simp
    · rw [Bool.eq_iff_iff, stB_iff]; simp
  have e3 : apV s.vs ⟨k, 0, a, v, ww⟩ = [hv'] := by
    rw [apV_yes hk, hs]
    show [stV hv _] = [hv']
    rcases h with ⟨rfl, _, rfl⟩ | ⟨rfl, _, rfl⟩
    · by_cases e : hv = 0 <;> simp [stV, stB, e]
    · by_cases e : hv = ww <;> simp [stV, stB, e]
  rw [e1, e2, chk_yes hk] at h'
  refine h'.mono ?_
  rintro e w' ⟨rfl, tao', tcap', hc, hk2, _⟩
  refine ⟨rfl, tao', tcap', _, hc, by rw [S.step_vs, e3], ?_, hk2⟩
  rw [S.step_yes hk]
  exact Nat.le_refl _

set_option maxRecDepth 100000 in
set_option maxHeartbeats 2000000 in
theorem clocks_short (ao : Option Addr) (n cap : Nat) (l : List O) (w : World) (hn : n ≤ 200) (HN : Hid (n = l.length)) (HR : Hid (Row w ao (ops l))) :
    Calls Try.prog 6 #[.slice ao n cap] w fun e w' => e = .returned (.bool true) ∧ Below w.heap.size w w' := by
  have hd : decide ((n : Int) ≤ 200) = true := by simp; omega
  go_enter Try.func6, Try.ntmps6
  go_wp2_with (go_at_call 9; refine (small_any _ _ _ _).mono ?_; rintro e w0 ⟨rfl, rfl⟩)
  clear hd
  refine (new_yes 1 _ (by decide)).mono ?_
  rintro e w1 ⟨rfl, hc1, b1⟩
  have HC1 := hid hc1
  have HB1 := hid b1
  clear hc1 b1
  go_wp2_with (go_at_call 12; refine (num_any _ _).mono ?_; rintro e w2 ⟨rfl, rfl⟩)
  go_loopw [5, 6] (fun h i wr => ∃ k : Nat, k ≤ n ∧ i = .int .i64 k ∧ ∃ hv : Int, h = .int .i64 hv ∧ ∃ tao tcap s, Hid (Cel wr w0.heap.size (w0.heap.size + 1) w0.heap.size 1 tao tcap s) ∧ Hid (s.vs = [hv]) ∧ Hid (s.n ≤ k) ∧ Hid (Below w0.heap.size w0 wr)) (fun _ i _ => n - (intOf i).toNat)
  case atStart => exact ⟨0, Nat.zero_le _, rfl, 0, rfl, none, 0, S.new 1, HC1, rfl, Nat.le_refl 0, HB1⟩
  case round =>
    obtain ⟨k, hk, rfl, hv, rfl, tao, tcap, s, HC, HS, HSN, HB⟩ := hrel
    by_cases hlt : k < n
    · have i1 : (0 : Int) ≤ (k : Int) := by omega
      have i2 : (k : Int) < (n : Int) := by omega
      obtain ⟨a, rfl, hat⟩ := atO_of (HR.out.below HB.out) k (by have := HN.out; omega)
      obtain ⟨o, ho⟩ : ∃ o, l.getD k O.zero = o := ⟨_, rfl⟩
      rw [ho] at hat
      clear ho
      obtain ⟨d0, d1, d2, d3, d4⟩ := hat
      by_cases hskip : (o.k = 4 ∨ o.k = 5) ∧ 1 ≤ o.w
      · obtain ⟨hk45, hw1⟩ := hskip
        have hw : ¬ o.w < 1 := by omega
        have HW1 := hid hw1
        clear hw1
        have HIA := hid (inO_new wr ⟨o.k, 0, o.a, o.v, o.w⟩ 36)
        rcases hk45 with h4 | h4
        · by_cases hz : hv = 0
          · subst hz
            rw [h4] at d0 HIA
            have HSN' := hid (show s.n ≤ 5000 by have := HSN.out; omega)
            go_wp2_with fail
            refine (lock_do (k := 4) (hv' := o.w) (b := true) (HC.out.below (alloc_below wr _)) HS.out HSN'.out HW1.out (.inl ⟨rfl, rfl, rfl⟩)).mono ?_
            rintro e w5 ⟨rfl, tao', tcap', s', hc5, hv5, hn5, kk⟩
            have HC5 := hid hc5
            have HV5 := hid hv5
            have HN5 := hid (show s'.n ≤ k + 1 by have := HSN.out; omega)
            have HB5 := hid ((HC.out.below (alloc_below wr _)).foot_below kk (q_alloc HB.out _) (Nat.le_refl _))
            have HI5 := HIA.out.kept kk (HC.out.not_foot (Nat.le_refl _))
            clear hc5 hv5 hn5 kk
            obtain ⟨e0, e1, e2, e3, e4⟩ := HI5
            go_wp2_with fail
            go_roundw
            case rel => exact ⟨k + 1, by omega, by go_num, _, rfl, tao', tcap', s', HC5, HV5, HN5, HB5⟩
            case measure => simp [intOf]; omega
          · have hzb : (hv == 0) = false := by simp [hz]
            have HZ := hid hz
            clear hz
            rw [h4] at d0 HIA
            have HSN' := hid (show s.n ≤ 5000 by have := HSN.out; omega)
            go_wp2_with fail
            refine (lock_do (k := 4) (hv' := hv) (b := false) (HC.out.below (alloc_below wr _)) HS.out HSN'.out HW1.out (.inl ⟨rfl, by simp [HZ.out], by simp [HZ.out]⟩)).mono ?_
            rintro e w5 ⟨rfl, tao', tcap', s', hc5, hv5, hn5, kk⟩
            have HC5 := hid hc5
            have HV5 := hid hv5
            have HN5 := hid (show s'.n ≤ k + 1 by have := HSN.out; omega)
            have HB5 := hid ((HC.out.below (alloc_below wr _)).foot_below kk (q_alloc HB.out _) (Nat.le_refl _))
            have HI5 := HIA.out.kept kk (HC.out.not_foot (Nat.le_refl _))
            clear hc5 hv5 hn5 kk
            obtain ⟨e0, e1, e2, e3, e4⟩ := HI5
            go_wp2_with fail
            go_roundw
            case rel => exact ⟨k + 1, by omega, by go_num, _, rfl, tao', tcap', s', HC5, HV5, HN5, HB5⟩
            case measure => simp [intOf]; omega
        · by_cases hz : hv = o.w
          · have hzb : (hv == o.w) = true := by simp [hz]
            have HZ := hid hz
            clear hz
            rw [h4] at d0 HIA
            have HSN' := hid (show s.n ≤ 5000 by have := HSN.out; omega)
            go_wp2_with fail
            refine (lock_do (k := 5) (hv' := 0) (b := true) (HC.out.below (alloc_below wr _)) HS.out HSN'.out HW1.out (.inr ⟨rfl, by simp [HZ.out], by simp [HZ.out]⟩)).mono ?_
            rintro e w5 ⟨rfl, tao', tcap', s', hc5, hv5, hn5, kk⟩
            have HC5 := hid hc5
            have HV5 := hid hv5
            have HN5 := hid (show s'.n ≤ k + 1 by have := HSN.out; omega)
            have HB5 := hid ((HC.out.below (alloc_below wr _)).foot_below kk (q_alloc HB.out _) (Nat.le_refl _))
            have HI5 := HIA.out.kept kk (HC.out.not_foot (Nat.le_refl _))
            clear hc5 hv5 hn5 kk
            obtain ⟨e0, e1, e2, e3, e4⟩ := HI5
            go_wp2_with fail
            go_roundw
            case rel => exact ⟨k + 1, by omega, by go_num, _, rfl, tao', tcap', s', HC5, HV5, HN5, HB5⟩
            case measure => simp [intOf]; omega
          · have hzb : (hv == o.w) = false := by simp [hz]
            have HZ := hid hz
            clear hz
            rw [h4] at d0 HIA
            have HSN' := hid (show s.n ≤ 5000 by have := HSN.out; omega)
            go_wp2_with fail
            refine (lock_do (k := 5) (hv' := hv) (b := false) (HC.out.below (alloc_below wr _)) HS.out HSN'.out HW1.out (.inr ⟨rfl, by simp [HZ.out], by simp [HZ.out]⟩)).mono ?_
            rintro e w5 ⟨rfl, tao', tcap', s', hc5, hv5, hn5, kk⟩
            have HC5 := hid hc5
            have HV5 := hid hv5
            have HN5 := hid (show s'.n ≤ k + 1 by have := HSN.out; omega)
            have HB5 := hid ((HC.out.below (alloc_below wr _)).foot_below kk (q_alloc HB.out _) (Nat.le_refl _))
            have HI5 := HIA.out.kept kk (HC.out.not_foot (Nat.le_refl _))
            clear hc5 hv5 hn5 kk
            obtain ⟨e0, e1, e2, e3, e4⟩ := HI5
            go_wp2_with fail
            go_roundw
            case rel => exact ⟨k + 1, by omega, by go_num, _, rfl, tao', tcap', s', HC5, HV5, HN5, HB5⟩
            case measure => simp [intOf]; omega
      · have HBX := fun x : Obj => hid (q_alloc HB.out x)
        have HCX := fun x : Obj => hid (HC.out.below (alloc_below wr x))
        have HNX := hid (show s.n ≤ k + 1 by have := HSN.out; omega)
        by_cases h4 : o.k = 4
        · have hw : o.w < 1 := by omega
          clear hskip
          rw [h4] at d0
          go_wp2_with fail
          go_roundw
          case rel => exact ⟨k + 1, by omega, by go_num, hv, rfl, tao, tcap, s, HCX _, HS, HNX, HBX _⟩
          case measure => simp [intOf]; omega
        · by_cases h5 : o.k = 5
          · have hw : o.w < 1 := by omega
            clear hskip
            rw [h5] at d0
            go_wp2_with fail
            go_roundw
            case rel => exact ⟨k + 1, by omega, by go_num, hv, rfl, tao, tcap, s, HCX _, HS, HNX, HBX _⟩
            case measure => simp [intOf]; omega
          · have q4 : (o.k != 4) = true := by simp [h4]
            have q5 : (o.k != 5) = true := by simp [h5]
            clear hskip h4 h5
            go_wp2_with fail
            go_roundw
            case rel => exact ⟨k + 1, by omega, by go_num, hv, rfl, tao, tcap, s, HCX _, HS, HNX, HBX _⟩
            case measure => simp [intOf]; omega
    · obtain rfl : k = n := by omega
      go_wp2_with fail
      refine (live_any _).mono ?_
      rintro e w6 ⟨rfl, b6⟩
      have HBE := hid (q_trans HB.out b6)
      clear b6
      go_wp2_with fail
      go_ret
      exact ⟨rfl, HBE.out⟩

theorem clocks_any (ao : Option Addr) (l : List O) (n cap : Nat) (w : World) (hl : n = l.length) (_ : n ≤ 9223372036854775807) (_ : ao = none → cap = 0) (hr : Row w ao (ops l)) :
    Calls Try.prog 6 #[.slice ao n cap] w fun e w' => e = .returned (.bool true) ∧ Below w.heap.size w w' := by
  by_cases h : n ≤ 200
  · exact clocks_short ao n cap l w h hl hr
  · exact clocks_long ao n cap w (by simp; omega)
end Go.Proofs.Ytadobkecdcnjkaa.Ce
