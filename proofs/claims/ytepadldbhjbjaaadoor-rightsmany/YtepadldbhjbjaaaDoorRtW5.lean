/- live answers true, in every world whose table is the program's. -/
import Derived.Test.YtepadldbhjbjaaaDoorRtW4
namespace Go.Proofs.YtepadldbhjbjaaaDoor.Rt
open Go.RowKit

theorem q_trans {a b c : World} (h : Below a.heap.size a b) (k : Below b.heap.size b c) : Below a.heap.size a c := h.trans (k.mono h.size)
theorem q_alloc {a w : World} (h : Below a.heap.size a w) (o : Obj) : Below a.heap.size a (w.alloc o) := h.alloc h.size o

theorem two_lies (a b : Int) (w : World) : Lies (w.alloc (.cells #[.int .i64 a, .int .i64 b] 3)) (some ⟨w.heap.size, 0, none⟩) [a, b] := by
  intro j hj
  refine ⟨_, rfl, ?_⟩
  have : j = 0 ∨ j = 1 := by simp at hj; omega
  rcases this with rfl | rfl <;> simp [Addr.add]
theorem meet_two (a b : Int) (w : World) :
    Calls Tryd.prog 19 #[.slice (some ⟨w.heap.size, 0, none⟩) 2 2] (w.alloc (.cells #[.int .i64 a, .int .i64 b] 3)) fun e w' => e = .returned (.tuple #[.int .i64 (meetT [a, b]), .int .i64 (listE [a, b])]) ∧ Below w.heap.size w w' := by
  refine (meet_any _ [a, b] 2 2 _ rfl (by omega) (two_lies a b w)).mono ?_
  rintro e w1 ⟨rfl, rfl⟩
  exact ⟨rfl, q_alloc (Below.refl _ _) _⟩
theorem join_two (a b : Int) (w : World) :
    Calls Tryd.prog 21 #[.slice (some ⟨w.heap.size, 0, none⟩) 2 2] (w.alloc (.cells #[.int .i64 a, .int .i64 b] 3)) fun e w' => e = .returned (.tuple #[.int .i64 (joinT [a, b]), .int .i64 (listE [a, b])]) ∧ Below w.heap.size w w' := by
  refine (join_any _ [a, b] 2 2 _ rfl (by omega) (two_lies a b w)).mono ?_
  rintro e w1 ⟨rfl, rfl⟩
  exact ⟨rfl, q_alloc (Below.refl _ _) _⟩

def lit4 : ByteArray := ⟨#[114, 45, 103, 45]⟩
def lit2 : ByteArray := ⟨#[114, 103]⟩
theorem lv_meet (w : World) : Calls Tryd.prog 19 #[.slice (some ⟨w.heap.size, 0, none⟩) 2 2] (w.alloc (.cells #[.int .i64 7, .int .i64 13] 3)) fun e w' => e = .returned (.tuple #[.int .i64 5, .int .i64 0]) ∧ Below w.heap.size w w' := by
  have h := meet_two 7 13 w
  rw [show meetT [7, 13] = 5 by kernel_rfl, show listE [7, 13] = 0 by kernel_rfl] at h
  exact h
theorem lv_join (w : World) : Calls Tryd.prog 21 #[.slice (some ⟨w.heap.size, 0, none⟩) 2 2] (w.alloc (.cells #[.int .i64 1, .int .i64 4] 3)) fun e w' => e = .returned (.tuple #[.int .i64 5, .int .i64 0]) ∧ Below w.heap.size w w' := by
  have h := join_two 1 4 w
  rw [show joinT [1, 4] = 5 by kernel_rfl, show listE [1, 4] = 0 by kernel_rfl] at h
  exact h
theorem lv_less (w : World) : Calls Tryd.prog 23 #[.int .i64 7, .int .i64 2] w fun e w' => e = .returned (.tuple #[.int .i64 5, .int .i64 0]) ∧ w' = w := by
  have h := less_any 7 2 w
  rw [show lessT 7 2 = 5 by kernel_rfl, show lessE 7 2 = 0 by kernel_rfl] at h
  exact h
theorem lv_parse (w : World) (hT : Tab w) : Calls Tryd.prog 10 #[.string lit4] w fun e w' => e = .returned (.tuple #[.int .i64 5, .int .i64 0]) ∧ Below w.heap.size w w' := by
  have h := parse_any lit4 w hT
  rw [show parT lit4 = 5 by kernel_rfl, show parE lit4 = 0 by kernel_rfl] at h
  exact h
theorem lv_parse2 (w : World) (hT : Tab w) : Calls Tryd.prog 10 #[.string lit2] w fun e w' => e = .returned (.tuple #[.int .i64 0, .int .i64 20]) ∧ Below w.heap.size w w' := by
  have h := parse_any lit2 w hT
  rw [show parT lit2 = 0 by kernel_rfl, show parE lit2 = 20 by kernel_rfl] at h
  exact h
theorem lv_text (w : World) (hT : Tab w) : Calls Tryd.prog 16 #[.int .i64 5] w fun e w' => e = .returned (.string lit4) ∧ Below w.heap.size w w' := by
  have h := text_any 5 w hT
  rw [show textT 5 = lit4 by kernel_rfl] at h
  exact h
set_option maxRecDepth 100000 in
set_option maxHeartbeats 2000000 in
theorem live_any (w : World) (hT : Tab w) : Calls Tryd.prog 9 #[] w fun e w' => e = .returned (.bool true) ∧ Below w.heap.size w w' := by
  have HT : Hid (Tab w) := hT
  clear hT
  have h57 : wiB 5 7 = true := by kernel_rfl
  have h75 : wiB 7 5 = false := by kernel_rfl
  have h15 : isR 15 = true := by kernel_rfl
  have h16 : isR 16 = false := by kernel_rfl
  have hlit : (lit4.toList == [114, 45, 103, 45]) = true := by kernel_rfl
  go_enter Tryd.func9, Tryd.ntmps9
  go_wp2_with fail
  refine (lv_meet _).mono ?_
  rintro e w1 ⟨rfl, b1⟩
  go_wp2_with fail
  refine (lv_join _).mono ?_
  rintro e w2 ⟨rfl, b2⟩
  replace b2 := q_trans b1 b2
  clear b1
  go_wp2_with fail
  refine (lv_less _).mono ?_
  rintro e w5 ⟨rfl, rfl⟩
  go_wp2_with fail
  refine (lv_parse _ (HT.out.below b2)).mono ?_
  rintro e w3 ⟨rfl, b3⟩
  replace b3 := q_trans b2 b3
  clear b2
  go_wp2_with fail
  refine (lv_parse2 _ (HT.out.below b3)).mono ?_
  rintro e w4 ⟨rfl, b4⟩
  replace b4 := q_trans b3 b4
  clear b3
  go_wp2_with (first | (go_at_call 18; refine (num_any _ _).mono ?_; rintro e w5 ⟨rfl, rfl⟩) | (go_at_call 16; refine (lv_text _ (HT.out.below b4)).mono ?_; rintro e w7 ⟨rfl, b7⟩; replace b7 := q_trans b4 b7) | (go_at_call 14; refine (within_any _ _ _).mono ?_; rintro e w5 ⟨rfl, rfl⟩) | (go_at_call 12; refine (is_any _ _).mono ?_; rintro e w5 ⟨rfl, rfl⟩))
  go_ret
  exact ⟨rfl, b7⟩
end Go.Proofs.YtepadldbhjbjaaaDoor.Rt
