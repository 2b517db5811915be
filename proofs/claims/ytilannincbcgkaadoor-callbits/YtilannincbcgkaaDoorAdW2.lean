/- What the program's Put does. -/
import Derived.Test.YtilannincbcgkaaDoorAdW1
namespace Go.Proofs.YtilannincbcgkaaDoor.Ad
open Go.RowKit

theorem later_same {P : Program} {f : FuncId} {args : Array Value} {w : World} {g : Later w} {v : Value}
    (h : Calls P f args g.now fun e w' => e = .returned v ∧ w' = g.now) : Calls P f args g.now fun e w'' => e = .returned v ∧ ∃ g' : Later w, w'' = g'.now :=
  later_call (h.mono fun _ _ ⟨a, b⟩ => ⟨a, b ▸ Below.refl _ _⟩)
/-- One field put: as the walk meets it. -/
theorem put_at (x a v : Nat) (w : World) (hx : x < 18446744073709551616) (hv : v ≤ 7) (ha : a ≤ 60) (b u : Int) (hb : b = a) (hu : u = v) :
    Calls Tryd.prog 20 #[.int .u64 (x : Nat), .int .i64 b, .int .i64 3, .int .u64 u] w fun e w' => e = .returned (.tuple #[.int .u64 (putN x a 3 v : Nat), .int .i64 0]) ∧ Below w.heap.size w w' := by
  subst hb hu
  exact put_yes x a 3 v w hx (by omega) (by omega) (by omega)
set_option maxRecDepth 100000 in
set_option maxHeartbeats 1000000 in
theorem pPut_no (ao : Option Addr) (n cap : Nat) (l : List P) (w : World) (h : okA l = false) (HH : Hid (HasP w ao n cap l)) :
    Calls Tryd.prog 40 #[.slice ao n cap] w fun e w' => e = .returned (.tuple #[.int .u64 0, .int .i64 120]) ∧ Below w.heap.size w w' := by
  have HI : Hid (Calls Tryd.prog 42 #[.slice ao n cap] w fun e w' => e = .returned (.int .i64 120) ∧ Below w.heap.size w w') := by
    have := check_any ao n cap l w HH.out
    rwa [show chkA l = 120 by simp [chkA, h]] at this
  clear h
  go_enter Tryd.func40, Tryd.ntmps40
  go_wp2_with (go_at_call 42; refine HI.out.mono ?_; rintro e w' ⟨rfl, b1⟩)
  go_ret2
  exact ⟨rfl, b1⟩
set_option maxRecDepth 100000 in
set_option maxHeartbeats 1000000 in
theorem pPut_yes (ao : Option Addr) (n cap : Nat) (l : List P) (w : World) (h4 : n ≤ 4) (h : okA l = true) (HH : Hid (HasP w ao n cap l)) :
    Calls Tryd.prog 40 #[.slice ao n cap] w fun e w' => e = .returned (.tuple #[.int .u64 (wrd l : Nat), .int .i64 0]) ∧ Below w.heap.size w w' := by
  have HI : Hid (Calls Tryd.prog 42 #[.slice ao n cap] w fun e w' => e = .returned (.int .i64 0) ∧ Below w.heap.size w w') := by
    have := check_any ao n cap l w HH.out
    rwa [show chkA l = 0 by simp [chkA, h]] at this
  have HO := hid h
  clear h
  go_enter Tryd.func40, Tryd.ntmps40
  go_wp2_with (go_at_call 42; refine HI.out.mono ?_; rintro e w' ⟨rfl, b1⟩; replace b1 := hid b1)
  clear HI
  go_loopw [5, 18] (fun x i wr => ∃ k : Nat, k ≤ n ∧ x = .int .u64 (wf l.length 0 (l.take k) : Nat) ∧ i = .int .i64 k ∧ Hid (Below w.heap.size w wr)) (fun _ i _ => n - (intOf i).toNat)
  case atStart => exact ⟨0, Nat.zero_le _, by have := HH.out.len; simp [wf, this], rfl, b1⟩
  case round =>
    obtain ⟨k, hk, rfl, rfl, HB⟩ := hrel
    clear b1
    have HN := hid HH.out.len
    by_cases hlt : k < n
    · have i1 : (0 : Int) ≤ (k : Int) := by omega
      have i2 : (k : Int) < (n : Int) := by omega
      have F := hid (wf_take (k := k) HO.out (by have := HN.out; omega))
      obtain ⟨a, rfl, ca⟩ := (HH.out.below HB.out).at k hlt
      generalize hx : l.getD k (0, 0) = x at ca F
      generalize hy : wf l.length 0 (l.take k) = y at F
      have i3 := okS_iff.1 F.out.2.2.1
      obtain ⟨g0, g1, g2, g3⟩ := i3
      have HY : Hid (y < 18446744073709551616) := by
        have := F.out.2.1
        have h2 : 2 ^ (3 + 6 * k) ≤ 2 ^ 63 := Nat.pow_le_pow_right (by omega) (by omega)
        exact Nat.lt_of_lt_of_le this (by omega)
      clear hx hy
      obtain ⟨c0, c1⟩ := ca
      go_wp2_with fail
      obtain ⟨f0, f1⟩ := (at_new wr x 70).always
      have hne : Nonempty (Later (wr.alloc (.cells #[.int .i64 x.1, .int .i64 x.2] 70))) := ⟨⟨_, Below.refl _ _⟩⟩
      refine wp_region_later (by kernel_rfl) (by kernel_rfl) ?_
      repeat (go_big_quiet_step (first | (go_at_call 38; exact later_same (guardAt_at k (by omega) _)) | (go_at_call 20; exact later_call (put_at y (3 + 6 * k) x.1.toNat _ HY.out (by omega) (by omega) _ _ (by omega) (by omega)))))
      refine wpQuiet_nil ?_
      rintro w9 ⟨⟨_, b9⟩, rfl⟩
      have A9 := hid ((at_new wr x 70).below b9)
      have HB9 := hid (q_trans (q_alloc HB.out (.cells #[.int .i64 x.1, .int .i64 x.2] 70)) b9)
      generalize hz : putN y (3 + 6 * k) 3 x.1.toNat = z at F
      have HZ := hid F.out.2.2.2
      clear hz b9 f0 f1 hne
      go_wp2_with fail
      obtain ⟨f0, f1⟩ := A9.out.always
      have hne : Nonempty (Later w9) := ⟨⟨_, Below.refl _ _⟩⟩
      refine wp_region_later (by kernel_rfl) (by kernel_rfl) ?_
      repeat (go_big_quiet_step (first | (go_at_call 39; exact later_same (indexAt_at k (by omega) _)) | (go_at_call 20; exact later_call (put_at z (6 + 6 * k) x.2.toNat _ HZ.out (by omega) (by omega) _ _ (by omega) (by omega)))))
      refine wpQuiet_nil ?_
      rintro w8 ⟨⟨_, b8⟩, rfl⟩
      have HB8 := hid (q_trans HB9.out b8)
      have HE := hid F.out.1.symm
      clear F b8 f0 f1 hne
      go_wp2_with fail
      go_roundw
      case rel => exact ⟨k + 1, by omega, by rw [HE.out], by go_num, HB8⟩
      case measure => simp [intOf]; omega
    · obtain rfl : k = n := by omega
      have HR : Hid (wf l.length 0 (l.take k) = wrd l) := by
        unfold Hid
        rw [HN.out, List.take_length]; rfl
      go_wp2_with fail
      go_ret2
      exact ⟨by rw [HR.out]; rfl, HB.out⟩
/-- PUT, OF WHATEVER STEPS. -/
theorem pPut_any (ao : Option Addr) (n cap : Nat) (l : List P) (w : World) (h : HasP w ao n cap l) :
    Calls Tryd.prog 40 #[.slice ao n cap] w fun e w' => e = .returned (.tuple #[.int .u64 (putA l : Nat), .int .i64 (chkA l)]) ∧ Below w.heap.size w w' := by
  cases q : okA l with
  | false =>
    rw [show putA l = 0 by simp [putA, q], show chkA l = 120 by simp [chkA, q]]
    exact pPut_no ao n cap l w q h
  | true =>
    rw [show putA l = wrd l by simp [putA, q], show chkA l = 0 by simp [chkA, q]]
    exact pPut_yes ao n cap l w (by have := okA_le q; have := h.len; omega) q h
end Go.Proofs.YtilannincbcgkaaDoor.Ad
