/- What the document's Put does. -/
import Derived.Test.YtilannincbcgkaaDoorAdRIs
import Derived.Test.YtilannincbcgkaaDoorRefAc
namespace Go.Proofs.YtilannincbcgkaaDoor.Ad
open Go.RowKit

theorem take_at (l : List P) (k : Nat) (h : k < l.length) : l.take (k + 1) = l.take k ++ [l.getD k (0, 0)] := xtake_snoc l k h
/-- The word behind k steps. -/
theorem wf_take {l : List P} {k : Nat} (h : okA l = true) (hk : k < l.length) :
    wf l.length 0 (l.take (k + 1)) = putN (putN (wf l.length 0 (l.take k)) (3 + 6 * k) 3 (l.getD k (0, 0)).1.toNat) (6 + 6 * k) 3 (l.getD k (0, 0)).2.toNat ∧
    wf l.length 0 (l.take k) < 2 ^ (3 + 6 * k) ∧ okS (l.getD k (0, 0)) = true ∧ putN (wf l.length 0 (l.take k)) (3 + 6 * k) 3 (l.getD k (0, 0)).1.toNat < 18446744073709551616 := by
  have hl := okA_le h
  have hs : okS (l.getD k (0, 0)) = true := okA_all h _ (by rw [getD_lt hk]; exact List.getElem_mem hk)
  have ht : ∀ s ∈ l.take k, okS s = true := fun s hs => okA_all h s (List.mem_of_mem_take hs)
  have hlen : (l.take k).length = k := by rw [List.length_take]; omega
  have e := wf_enc l.length 0 (l.take k) (by simp; omega) ht (by omega)
  have hb := enc_lt (l.take k) ht
  rw [hlen] at hb
  have hx : wf l.length 0 (l.take k) < 2 ^ (3 + 6 * k) := by
    rw [e, show 2 ^ (3 + 6 * k) = 8 * 64 ^ k by rw [Nat.pow_add, Nat.pow_mul]]
    simp only [Nat.mul_zero, Nat.add_zero]
    omega
  refine ⟨?_, hx, hs, (put_step _ k _ hx hs (by omega)).2.2⟩
  rw [take_at l k hk, wf_app, hlen]
  simp [wf]
/-- One field put: as the walk meets it. -/
theorem rput_at (x a v : Nat) (w : World) (hx : x < 18446744073709551616) (hv : v ≤ 7) (ha : a ≤ 60) (b u : Int) (hb : b = a) (hu : u = v) :
    Calls Tryd.prog 21 #[.int .u64 (x : Nat), .int .i64 b, .int .i64 3, .int .u64 u] w fun e w' => e = .returned (.tuple #[.int .u64 (putN x a 3 v : Nat), .int .i64 0]) ∧ w' = w := by
  subst hb hu
  have h := rput_any (x : Int) (a : Int) 3 (v : Int) w ⟨by omega, by omega⟩ ⟨by omega, by omega⟩
  have h1 : fld (a : Int) 3 = true := fld_iff.2 ⟨by omega, by omega, by omega, by omega⟩
  have h2 : fits (v : Int) 3 = true := by simp only [fits, decide_eq_true_eq]; simp; omega
  rw [putT_ok h1 h2, putE_ok h1 h2] at h
  simpa using h
set_option maxRecDepth 100000 in
set_option maxHeartbeats 1000000 in
theorem rPut_no (ao : Option Addr) (n cap : Nat) (l : List P) (w : World) (h : okA l = false) (HH : Hid (HasP w ao n cap l)) :
    Calls Tryd.prog 41 #[.slice ao n cap] w fun e w' => e = .returned (.tuple #[.int .u64 0, .int .i64 120]) ∧ Below w.heap.size w w' := by
  have HI : Hid (Calls Tryd.prog 43 #[.slice ao n cap] w fun e w' => e = .returned (.bool false) ∧ Below w.heap.size w w') := by
    have := ris_any ao n cap l w HH.out
    rwa [h] at this
  clear h
  go_enter Tryd.func41, Tryd.ntmps41
  go_wp2_with (go_at_call 43; refine HI.out.mono ?_; rintro e w' ⟨rfl, b1⟩)
  go_ret2
  exact ⟨rfl, b1⟩
set_option maxRecDepth 100000 in
set_option maxHeartbeats 1000000 in
theorem rPut_yes (ao : Option Addr) (n cap : Nat) (l : List P) (w : World) (h4 : n ≤ 4) (h : okA l = true) (HH : Hid (HasP w ao n cap l)) :
    Calls Tryd.prog 41 #[.slice ao n cap] w fun e w' => e = .returned (.tuple #[.int .u64 (wrd l : Nat), .int .i64 0]) ∧ Below w.heap.size w w' := by
  have HI : Hid (Calls Tryd.prog 43 #[.slice ao n cap] w fun e w' => e = .returned (.bool true) ∧ Below w.heap.size w w') := by
    have := ris_any ao n cap l w HH.out
    rwa [h] at this
  have HO := hid h
  clear h
  go_enter Tryd.func41, Tryd.ntmps41
  go_wp2_with (go_at_call 43; refine HI.out.mono ?_; rintro e w' ⟨rfl, b1⟩; replace b1 := hid b1)
  clear HI
  go_loopw [4, 5] (fun x i wr => ∃ k : Nat, k ≤ n ∧ x = .int .u64 (wf l.length 0 (l.take k) : Nat) ∧ i = .int .i64 k ∧ Hid (Below w.heap.size w wr)) (fun _ i _ => n - (intOf i).toNat)
  case atStart => exact ⟨0, Nat.zero_le _, by have := HH.out.len; simp [wf, this], rfl, b1⟩
  case round =>
    obtain ⟨k, hk, rfl, rfl, HB⟩ := hrel
    clear b1
    have HN := hid HH.out.len
    by_cases hlt : k < n
    · have i1 : (0 : Int) ≤ (k : Int) := by omega
      have i2 : (k : Int) < (n : Int) := by omega
      have F := hid (wf_take (k := k) HO.out (by have := HN.out; omega))
      obtain ⟨a, rfl, ca⟩ := atP_of (HH.out.row.below HB.out) k (by have := HN.out; omega)
      generalize hx : l.getD k (0, 0) = x at ca F
      generalize hy : wf l.length 0 (l.take k) = y at F
      have i3 := okS_iff.1 F.out.2.2.1
      obtain ⟨g0, g1, g2, g3⟩ := i3
      have HY : Hid (y < 18446744073709551616) := by
        have := F.out.2.1
        have h2 : 2 ^ (3 + 6 * k) ≤ 2 ^ 63 := Nat.pow_le_pow_right (by omega) (by omega)
        exact Nat.lt_of_lt_of_le this (by omega)
      clear hx hy
      obtain ⟨c0, c1⟩ := ca
      go_wp2_with fail
      refine (rput_at y (3 + 6 * k) x.1.toNat _ HY.out (by omega) (by omega) _ _ (by omega) (by omega)).mono ?_
      rintro e w1 ⟨rfl, hw⟩
      rw [hw]; clear hw w1
      generalize hz : putN y (3 + 6 * k) 3 x.1.toNat = z at F
      have HZ := hid F.out.2.2.2
      clear hz
      go_wp2_with fail
      refine (rput_at z (6 + 6 * k) x.2.toNat _ HZ.out (by omega) (by omega) _ _ (by omega) (by omega)).mono ?_
      rintro e w1 ⟨rfl, hw⟩
      rw [hw]; clear hw w1
      have HE := hid F.out.1.symm
      clear F
      go_wp2_with fail
      go_roundw
      case rel => exact ⟨k + 1, by omega, by rw [HE.out], by go_num, HB⟩
      case measure => simp [intOf]; omega
    · obtain rfl : k = n := by omega
      have HR : Hid (wf l.length 0 (l.take k) = wrd l) := by
        unfold Hid
        rw [HN.out, List.take_length]; rfl
      go_wp2_with fail
      go_ret2
      exact ⟨by rw [HR.out]; rfl, HB.out⟩
/-- PUT, OF WHATEVER STEPS. -/
theorem rPut_any (ao : Option Addr) (n cap : Nat) (l : List P) (w : World) (h : HasP w ao n cap l) :
    Calls Tryd.prog 41 #[.slice ao n cap] w fun e w' => e = .returned (.tuple #[.int .u64 (putA l : Nat), .int .i64 (chkA l)]) ∧ Below w.heap.size w w' := by
  cases q : okA l with
  | false =>
    rw [show putA l = 0 by simp [putA, q], show chkA l = 120 by simp [chkA, q]]
    exact rPut_no ao n cap l w q h
  | true =>
    rw [show putA l = wrd l by simp [putA, q], show chkA l = 0 by simp [chkA, q]]
    exact rPut_yes ao n cap l w (by have := okA_le q; have := h.len; omega) q h
end Go.Proofs.YtilannincbcgkaaDoor.Ad
