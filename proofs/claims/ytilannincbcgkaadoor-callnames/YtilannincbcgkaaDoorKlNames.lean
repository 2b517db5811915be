/- CallNames answers true. -/
import Derived.Test.YtilannincbcgkaaDoorKlLive
namespace Go.Proofs.YtilannincbcgkaaDoor.Kl
open Go.RowKit
open Ad (q_trans q_alloc q_set ret_int ret_bool hid)

theorem nm_fin : ∀ a b : Fin 13, 1 ≤ a.val → (((nmS a.val).toList == (nmS b.val).toList) = decide (a = b)) ∧ ((nmS a.val).toList == ([] : List UInt8)) = false := by decide +kernel
theorem nm_of {k : Int} (h : kdB k = true) : ∃ a : Fin 13, 1 ≤ a.val ∧ k = a.val ∧ nmT k = nmS a.val := by
  have hr := inB_iff.1 h
  refine ⟨⟨k.toNat, by omega⟩, by show 1 ≤ k.toNat; omega, by show k = (k.toNat : Int); omega, ?_⟩
  simp [nmT, h]
theorem nm_any {a b : Int} (h : kdB a = true) : ((nmT a).toList == (nmT b).toList) = decide (a = b) ∧ ((nmT a).toList == ([] : List UInt8)) = false := by
  obtain ⟨x, hx, ea, na⟩ := nm_of h
  cases hb : kdB b with
  | true =>
    obtain ⟨y, hy, eb, nb⟩ := nm_of hb
    obtain ⟨f1, f2⟩ := nm_fin x y hx
    refine ⟨?_, by rw [na]; exact f2⟩
    rw [na, nb, f1, ea, eb]
    by_cases e : x = y
    · subst e; simp
    · have : ¬ (x.val : Int) = (y.val : Int) := fun q => e (Fin.ext (by omega))
      rw [decide_eq_false e, decide_eq_false this]
  | false =>
    obtain ⟨f1, f2⟩ := nm_fin x 0 hx
    have ne : a ≠ b := fun e => by rw [e, hb] at h; cases h
    refine ⟨?_, by rw [na]; exact f2⟩
    have e0 : nmT b = nmS (0 : Fin 13).val := by rw [nmT, hb]; rfl
    rw [decide_eq_false ne, na, e0]
    exact f1.trans (decide_eq_false (fun e => by subst e; simp at hx))
set_option maxRecDepth 100000 in
set_option maxHeartbeats 1000000 in
theorem names_in (a b : Int) (w : World) (hT : Tabs w) (s t : ByteArray) (HS : Hid (nmT a = s)) (HU : Hid (nmT b = t)) (i1 : 1 ≤ a) (i2 : a ≤ 12) (f1 : (s.toList == t.toList) = (a == b)) (f2 : (s.toList == ([] : List UInt8)) = false) :
    Calls Tryd.prog 6 #[.int .i64 a, .int .i64 b] w fun e w' => e = .returned (.bool true) ∧ Below w.heap.size w w' := by
  have HT : Hid (Tabs w) := hT
  have N1 : Hid (Calls Tryd.prog 17 #[.int .i64 a] w fun e w' => e = .returned (.string s) ∧ w' = w) := by
    have := name_any a w hT
    rwa [HS.out] at this
  have N2 : Hid (Calls Tryd.prog 17 #[.int .i64 b] w fun e w' => e = .returned (.string t) ∧ w' = w) := by
    have := name_any b w hT
    rwa [HU.out] at this
  clear hT
  obtain ⟨q, hq⟩ : ∃ q, (a == b) = q := ⟨_, rfl⟩
  rw [hq] at f1
  go_enter Tryd.func6, Tryd.ntmps6
  go_wp2_with fail
  refine N1.out.mono ?_
  rintro e w1 ⟨rfl, hw⟩
  rw [hw]; clear hw w1
  go_wp2_with fail
  refine N2.out.mono ?_
  rintro e w1 ⟨rfl, hw⟩
  rw [hw]; clear hw w1
  go_wp2_with (go_at_call 8; refine (live_any _ HT.out).mono ?_; rintro e w6 ⟨rfl, b6⟩)
  go_ret
  exact ⟨rfl, b6⟩
set_option maxRecDepth 100000 in
set_option maxHeartbeats 1000000 in
theorem names_out (a b : Int) (w : World) (hT : Tabs w) (t : ByteArray) (HS : Hid (nmT a = ⟨#[]⟩)) (HU : Hid (nmT b = t)) (h : ¬ (1 ≤ a ∧ a ≤ 12)) :
    Calls Tryd.prog 6 #[.int .i64 a, .int .i64 b] w fun e w' => e = .returned (.bool true) ∧ Below w.heap.size w w' := by
  have HT : Hid (Tabs w) := hT
  have N1 : Hid (Calls Tryd.prog 17 #[.int .i64 a] w fun e w' => e = .returned (.string ⟨#[]⟩) ∧ w' = w) := by
    have := name_any a w hT
    rwa [HS.out] at this
  have N2 : Hid (Calls Tryd.prog 17 #[.int .i64 b] w fun e w' => e = .returned (.string t) ∧ w' = w) := by
    have := name_any b w hT
    rwa [HU.out] at this
  clear hT
  by_cases h1 : 1 ≤ a
  · have d2 : decide (a ≤ 12) = false := decide_eq_false (by omega)
    clear h
    go_enter Tryd.func6, Tryd.ntmps6
    go_wp2_with fail
    refine N1.out.mono ?_
    rintro e w1 ⟨rfl, hw⟩
    rw [hw]; clear hw w1
    go_wp2_with fail
    refine N2.out.mono ?_
    rintro e w1 ⟨rfl, hw⟩
    rw [hw]; clear hw w1
    go_wp2_with (go_at_call 8; refine (live_any _ HT.out).mono ?_; rintro e w6 ⟨rfl, b6⟩)
    go_ret
    exact ⟨rfl, b6⟩
  · clear h
    go_enter Tryd.func6, Tryd.ntmps6
    go_wp2_with fail
    refine N1.out.mono ?_
    rintro e w1 ⟨rfl, hw⟩
    rw [hw]; clear hw w1
    go_wp2_with fail
    refine N2.out.mono ?_
    rintro e w1 ⟨rfl, hw⟩
    rw [hw]; clear hw w1
    go_wp2_with (go_at_call 8; refine (live_any _ HT.out).mono ?_; rintro e w6 ⟨rfl, b6⟩)
    go_ret
    exact ⟨rfl, b6⟩
theorem names_any (a b : Int) (w : World) (hT : Tabs w) :
    Calls Tryd.prog 6 #[.int .i64 a, .int .i64 b] w fun e w' => e = .returned (.bool true) ∧ Below w.heap.size w w' := by
  cases h : kdB a with
  | true =>
    have hr := inB_iff.1 h
    obtain ⟨f1, f2⟩ := nm_any (b := b) h
    exact names_in a b w hT _ _ rfl rfl hr.1 hr.2 (by rw [f1]; by_cases e : a = b <;> simp [e]) f2
  | false => exact names_out a b w hT _ (by show nmT a = _; simp [nmT, h]) rfl (inB_not.1 h)
end Go.Proofs.YtilannincbcgkaaDoor.Kl
