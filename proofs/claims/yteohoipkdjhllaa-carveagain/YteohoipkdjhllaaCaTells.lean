/- CarveTells answers true. -/
import Derived.Test.YteohoipkdjhllaaCaAligns
namespace Go.Proofs.Yteohoipkdjhllaa.Ca
open Go.RowKit

section
variable {w : World}
theorem later_ralign {a s y : Int} (h : alV a s = y) {g : Later w} : Calls Try.prog 15 #[.int .i64 a, .int .i64 s] g.now fun e w'' => e = .returned (.int .i64 y) ∧ ∃ g' : Later w, w'' = g'.now :=
  (h ▸ ralign_any a s g.now).mono fun _ _ ⟨he, hb⟩ => ⟨he, g, hb⟩
theorem later_live {g : Later w} : Calls Try.prog 20 #[] g.now fun e w'' => e = .returned (.bool true) ∧ ∃ g' : Later w, w'' = g'.now := later_call (live_any _)
end
set_option maxRecDepth 100000 in
set_option maxHeartbeats 4000000 in
/-- CarveTells ANSWERS true. -/
theorem tells_any (k n at_ : Int) (a b : X) (w : World) :
    Calls Try.prog 3 #[.int .i64 k, .int .i64 n, .int .i64 at_, (.agg #[.int .i64 a.1, .int .i64 a.2]), (.agg #[.int .i64 b.1, .int .i64 b.2])] w fun e w' => e = .returned (.bool true) ∧ Below w.heap.size w w' := by
  obtain ⟨v, hv⟩ : ∃ v, szV k n = v := ⟨_, rfl⟩
  obtain ⟨f, hf⟩ : ∃ f, szE k n = f := ⟨_, rfl⟩
  obtain ⟨y, hy⟩ : ∃ y, alV at_ n = y := ⟨_, rfl⟩
  obtain ⟨i, hi⟩ : ∃ i, inB a b = i := ⟨_, rfl⟩
  obtain ⟨m, hm⟩ : ∃ m, meB a b = m := ⟨_, rfl⟩
  have HZ := hid (fun W : World => is_size (w := W) hv hf)
  have HZ2 := hid (fun W : World => is_rsize (w := W) hv hf)
  have HY := hid hy
  have HI := hid hi
  have HM := hid hm
  clear hv hf hy hi hm
  have e1 : (v == v) = true := by simp
  have e2 : (f == f) = true := by simp
  have e3 : (y == y) = true := by simp
  have e4 : (i == i) = true := by simp
  have e5 : (m == m) = true := by simp
  cases hok : okX a with
  | true =>
    have HC := hid (fun W : World => is_check (w := W) (chk_yes hok))
    have HR := hid (fun W : World => is_ris (w := W) hok)
    clear hok
    go_enter Try.func3, Try.ntmps3
    go_wp2_with fail
    have A0 := hid (at_two w a b 23)
    have B0 := hid (q_alloc (alloc_below w (.cells #[.int .i64 a.1, .int .i64 a.2] 23)) (.cells #[.int .i64 b.1, .int .i64 b.2] 23))
    generalize ((w.alloc (.cells #[.int .i64 a.1, .int .i64 a.2] 23)).alloc (.cells #[.int .i64 b.1, .int .i64 b.2] 23)) = W at A0 B0 ⊢
    refine (HZ.out _).mono ?_
    rintro e w1 ⟨rfl, hw⟩
    rw [hw]
    clear hw w1
    go_wp2_with fail
    refine (HZ2.out _).mono ?_
    rintro e w1 ⟨rfl, hw⟩
    rw [hw]
    clear hw w1
    go_wp2_with fail
    obtain ⟨f0, f1⟩ := A0.out.1.always
    obtain ⟨f2, f3⟩ := A0.out.2.always
    have hne : Nonempty (Later W) := ⟨⟨W, Below.refl _ _⟩⟩
    refine wp_region_later (by kernel_rfl) (by kernel_rfl) ?_
    repeat (go_big_quiet_step (first | (go_at_call 11; exact later_num _) | (go_at_call 12; exact later_call (HC.out _)) | (go_at_call 13; exact later_call (HR.out _)) | (go_at_call 14; exact later_align HY.out) | (go_at_call 15; exact later_ralign HY.out) | (go_at_call 16; exact later_call (is_inside HI.out)) | (go_at_call 17; exact later_call (is_rinside HI.out)) | (go_at_call 18; exact later_call (is_meet HM.out)) | (go_at_call 19; exact later_call (is_rmeet HM.out)) | (go_at_call 20; exact later_live)))
    refine wpQuiet_nil ?_
    rintro w9 ⟨⟨_, b9⟩, rfl⟩
    go_wp2_with fail
    go_ret
    exact ⟨rfl, q_trans B0.out b9⟩
  | false =>
    have HC := hid (fun W : World => is_check (w := W) (chk_no hok))
    have HR := hid (fun W : World => is_ris (w := W) hok)
    clear hok
    go_enter Try.func3, Try.ntmps3
    go_wp2_with fail
    have A0 := hid (at_two w a b 23)
    have B0 := hid (q_alloc (alloc_below w (.cells #[.int .i64 a.1, .int .i64 a.2] 23)) (.cells #[.int .i64 b.1, .int .i64 b.2] 23))
    generalize ((w.alloc (.cells #[.int .i64 a.1, .int .i64 a.2] 23)).alloc (.cells #[.int .i64 b.1, .int .i64 b.2] 23)) = W at A0 B0 ⊢
    refine (HZ.out _).mono ?_
    rintro e w1 ⟨rfl, hw⟩
    rw [hw]
    clear hw w1
    go_wp2_with fail
    refine (HZ2.out _).mono ?_
    rintro e w1 ⟨rfl, hw⟩
    rw [hw]
    clear hw w1
    go_wp2_with fail
    obtain ⟨f0, f1⟩ := A0.out.1.always
    obtain ⟨f2, f3⟩ := A0.out.2.always
    have hne : Nonempty (Later W) := ⟨⟨W, Below.refl _ _⟩⟩
    refine wp_region_later (by kernel_rfl) (by kernel_rfl) ?_
    repeat (go_big_quiet_step (first | (go_at_call 11; exact later_num _) | (go_at_call 12; exact later_call (HC.out _)) | (go_at_call 13; exact later_call (HR.out _)) | (go_at_call 14; exact later_align HY.out) | (go_at_call 15; exact later_ralign HY.out) | (go_at_call 16; exact later_call (is_inside HI.out)) | (go_at_call 17; exact later_call (is_rinside HI.out)) | (go_at_call 18; exact later_call (is_meet HM.out)) | (go_at_call 19; exact later_call (is_rmeet HM.out)) | (go_at_call 20; exact later_live)))
    refine wpQuiet_nil ?_
    rintro w9 ⟨⟨_, b9⟩, rfl⟩
    go_wp2_with fail
    go_ret
    exact ⟨rfl, q_trans B0.out b9⟩
end Go.Proofs.Yteohoipkdjhllaa.Ca
