/- OrderTells holds. -/
import Derived.Test.YthonibklaijejaaOrSay
namespace Go.Proofs.Ythonibklaijejaa.Or
open Go.RowKit

set_option maxRecDepth 100000 in
set_option maxHeartbeats 2000000 in
theorem tells_any (a b : K) (c : Int) (w : World) (hi : InI c) :
    Calls Try.prog 3 #[(.agg #[.int .i64 a.1, .int .i64 a.2]), (.agg #[.int .i64 b.1, .int .i64 b.2]), .int .i64 c] w fun e w' => e = .returned (.bool true) ∧ Below w.heap.size w w' := by
  obtain ⟨r, hr⟩ : ∃ r, ltK a b = r := ⟨_, rfl⟩
  obtain ⟨x, hx⟩ : ∃ x, cellK a = x := ⟨_, rfl⟩
  obtain ⟨m, hm⟩ : ∃ m, keyK c = m := ⟨_, rfl⟩
  obtain ⟨f, hf⟩ : ∃ f, keyE c = f := ⟨_, rfl⟩
  have k1 := fun W => keyOf_any c W hi
  have k2 := fun W => rkeyOf_any c W hi
  rw [hm, hf] at k1 k2
  have l1 := fun W => less_is hr W
  have l2 := fun W => rless_is hr W
  have x1 := fun W => is_cell (w := W) hx
  have x2 := fun W => is_rcell (w := W) hx
  have he := eq_yes (rfl : m = m)
  clear hr hx hm hf hi
  cases hok : okK a
  all_goals
    have o1 := fun W => is_check (w := W) hok rfl
    have o2 := fun W => ris_is hok W
    simp only [if_true, if_false, Bool.false_eq_true] at o1
    clear hok
    go_enter Try.func3, Try.ntmps3
    go_wp2_with fail
    refine (k1 _).mono ?_
    rintro e w1 ⟨rfl, b1⟩
    have A1 := hid (((at_new w a 23).below (alloc_below _ (.cells #[.int .i64 b.1, .int .i64 b.2] 23))).below b1)
    have B1 := hid ((at_new2 w a b 23).below b1)
    have L1 := hid (q_trans (q_alloc (alloc_below w _) _) b1)
    clear b1
    go_wp2_with fail
    refine (k2 _).mono ?_
    rintro e w2 ⟨rfl, b2⟩
    have A2 := hid ((A1.out.below (alloc_below w1 (.cells #[.int .i64 m.1, .int .i64 m.2] 23))).below b2)
    have B2 := hid ((B1.out.below (alloc_below w1 (.cells #[.int .i64 m.1, .int .i64 m.2] 23))).below b2)
    have M2 := hid ((at_new w1 m 23).below b2)
    have L2 := hid (q_trans (q_alloc L1.out _) b2)
    clear b2 A1 B1 L1
    go_wp2_with fail
    generalize hW : w2.alloc _ = W
    have A3 : Hid (AtK W ⟨w.heap.size, 0, none⟩ a) := by rw [← hW]; exact A2.out.below (alloc_below _ _)
    have B3 : Hid (AtK W ⟨w.heap.size + 1, 0, none⟩ b) := by rw [← hW]; exact B2.out.below (alloc_below _ _)
    have M3 : Hid (AtK W ⟨w1.heap.size, 0, none⟩ m) := by rw [← hW]; exact M2.out.below (alloc_below _ _)
    have N3 : Hid (AtK W ⟨w2.heap.size, 0, none⟩ m) := by rw [← hW]; exact at_new w2 m _
    have L3 : Hid (Below w.heap.size w W) := by rw [← hW]; exact q_alloc L2.out _
    clear hW A2 B2 M2 L2 k1 k2
    obtain ⟨f0, f1⟩ := A3.out.always
    obtain ⟨f2, f3⟩ := B3.out.always
    obtain ⟨f4, f5⟩ := M3.out.always
    obtain ⟨f6, f7⟩ := N3.out.always
    have hne : Nonempty (Later W) := ⟨⟨W, Below.refl _ _⟩⟩
    refine wp_region_later (by kernel_rfl) (by kernel_rfl) ?_
    repeat (go_big_quiet_step ((first | (go_at_call 12; exact later_call (o1 _)) | (go_at_call 11; exact later_num _) | (go_at_call 13; exact later_call (o2 _)) | (go_at_call 14; exact later_call (l1 _)) | (go_at_call 15; exact later_call (l2 _)) | (go_at_call 16; exact later_call (x1 _)) | (go_at_call 17; exact later_call (x2 _)) | (go_at_call 18; exact later_call (live_any _)))))
    refine wpQuiet_nil ?_
    rintro w9 ⟨⟨_, b9⟩, rfl⟩
    have HBE := hid (q_trans L3.out b9)
    clear f0 f1 f2 f3 f4 f5 f6 f7 hne b9
    go_wp2_with fail
    go_ret
    exact ⟨rfl, HBE.out⟩
end Go.Proofs.Ythonibklaijejaa.Or
