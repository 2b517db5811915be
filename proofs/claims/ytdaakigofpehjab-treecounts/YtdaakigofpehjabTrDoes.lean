/- What num, key, does, model, grown do. -/
import Derived.Test.YtdaakigofpehjabTrWB
import Derived.Test.YtdaakigofpehjabTrWC
import Derived.Test.YtdaakigofpehjabTrWD
import Derived.Test.YtdaakigofpehjabTrWE
import Derived.Test.YtdaakigofpehjabTrWF
import Derived.Test.YtdaakigofpehjabTrRRoot
import Derived.Test.YtdaakigofpehjabTrRIns
import Derived.Test.YtdaakigofpehjabTrRRem
import Derived.Test.YtdaakigofpehjabTrRMark
import Derived.Test.YtdaakigofpehjabTrRMove
namespace Go.Proofs.Ytdaakigofpehjab.Tr
open Go.RowKit

set_option maxHeartbeats 400000 in
theorem num_any (x : Int) (w : World) :
    Calls Try.prog 12 #[.int .i64 x] w fun e w' => e = .returned (.int .i64 x) ∧ w' = w := by
  go_enter Try.func12, Try.ntmps12
  go_wp2
  go_ret
  exact ⟨rfl, rfl⟩
set_option maxHeartbeats 400000 in
theorem key_any (x : Int) (w : World) :
    Calls Try.prog 14 #[.int .i64 x] w fun e w' => e = .returned (.agg #[.int .i64 x, .int .i64 0]) ∧ Below w.heap.size w w' := by
  go_enter Try.func14, Try.ntmps14
  go_wp2
  refine bodyPost_ret (v := .agg #[.int .i64 x, .int .i64 0]) (by simp [results, Try.results14, go_sem]) rfl ⟨rfl, ?_⟩
  repeat (first | exact q_alloc (Below.refl _ _) _ | refine q_set ?_ (by simp) _)
/-- An act lies at an address. -/
structure AtC (w : World) (a : Addr) (z : Ac) : Prop where
  c0 : w.cell? a = some (.int .i64 z.kind)
  c1 : w.cell? ⟨a.block, a.off + 1, none⟩ = some (.int .i64 z.a.1)
  c2 : w.cell? ⟨a.block, a.off + 2, none⟩ = some (.int .i64 z.a.2)
  c3 : w.cell? ⟨a.block, a.off + 3, none⟩ = some (.int .i64 z.b.1)
  c4 : w.cell? ⟨a.block, a.off + 4, none⟩ = some (.int .i64 z.b.2)
  c5 : w.cell? ⟨a.block, a.off + 5, none⟩ = some (.bool z.on)
theorem atC_new (w : World) (z : Ac) (t : TypeId) : AtC (w.alloc (.cells #[.int .i64 z.kind, .int .i64 z.a.1, .int .i64 z.a.2, .int .i64 z.b.1, .int .i64 z.b.2, .bool z.on] t)) ⟨w.heap.size, 0, none⟩ z := by constructor <;> simp

set_option maxRecDepth 100000 in
set_option maxHeartbeats 2000000 in
theorem does_any (ao : Option Addr) (n cap : Nat) (t : List Br) (z : Ac) (w : World) (hs : n ≤ 1000) (HH : Hid (HasB w ao n cap t)) :
    Calls Try.prog 21 #[.slice ao n cap, (.agg #[.int .i64 z.kind, .int .i64 z.a.1, .int .i64 z.a.2, .int .i64 z.b.1, .int .i64 z.b.2, .bool z.on])] w fun e w' => ∃ xo xn xc, e = .returned (.tuple #[.slice xo xn xc, .int .i64 (doE t z)]) ∧ HasB w' xo xn xc (doA t z) ∧ Below w.heap.size w w' := by
  have B0 := hid (alloc_below w (.cells #[.int .i64 z.kind, .int .i64 z.a.1, .int .i64 z.a.2, .int .i64 z.b.1, .int .i64 z.b.2, .bool z.on] 52))
  have A0 := hid (atC_new w z 52)
  by_cases h0 : z.kind = 0
  · have HE : Hid (doE t z = roE t z.a ∧ doA t z = roA t z.a) := ⟨by unfold doE; rw [if_pos h0], by unfold doA; rw [if_pos h0]⟩
    have k0 : (z.kind == 0) = true := by simp [h0]
    clear h0
    go_enter Try.func21, Try.ntmps21
    obtain ⟨a0, a1, a2, a3, a4, a5⟩ := A0.out
    go_wp2_with fail
    refine (root_any ao n cap t z.a _ hs (HH.out.below B0.out)).mono ?_
    rintro e w1 ⟨xo, xn, xc, rfl, h1, b1⟩
    have H1 := hid h1
    have B1 := hid (q_trans B0.out b1)
    clear h1 b1
    go_wp2_with (go_at_call 12; refine (num_any _ _).mono ?_; rintro e w2 ⟨rfl, rfl⟩)
    refine bodyPost_ret (v := .tuple #[.slice xo xn xc, .int .i64 (roE t z.a)]) (by simp [results, Try.results21, go_sem]) rfl ⟨xo, xn, xc, by rw [HE.out.1], by rw [HE.out.2]; exact H1.out, B1.out⟩
  · skip
    by_cases h1 : z.kind = 1
    · have HE : Hid (doE t z = inE t z.a z.b ∧ doA t z = inA t z.a z.b) := ⟨by unfold doE; rw [if_neg h0, if_pos h1], by unfold doA; rw [if_neg h0, if_pos h1]⟩
      have k0 : (z.kind == 0) = false := by simp [h0]
      have k1 : (z.kind == 1) = true := by simp [h1]
      clear h0 h1
      go_enter Try.func21, Try.ntmps21
      obtain ⟨a0, a1, a2, a3, a4, a5⟩ := A0.out
      go_wp2_with fail
      refine (ins_any ao n cap t z.a z.b _ hs (HH.out.below B0.out)).mono ?_
      rintro e w1 ⟨xo, xn, xc, rfl, h1, b1⟩
      have H1 := hid h1
      have B1 := hid (q_trans B0.out b1)
      clear h1 b1
      go_wp2_with (go_at_call 12; refine (num_any _ _).mono ?_; rintro e w2 ⟨rfl, rfl⟩)
      refine bodyPost_ret (v := .tuple #[.slice xo xn xc, .int .i64 (inE t z.a z.b)]) (by simp [results, Try.results21, go_sem]) rfl ⟨xo, xn, xc, by rw [HE.out.1], by rw [HE.out.2]; exact H1.out, B1.out⟩
    · skip
      by_cases h2 : z.kind = 2
      · have HE : Hid (doE t z = reE t z.a ∧ doA t z = reA t z.a) := ⟨by unfold doE; rw [if_neg h0, if_neg h1, if_pos h2], by unfold doA; rw [if_neg h0, if_neg h1, if_pos h2]⟩
        have k0 : (z.kind == 0) = false := by simp [h0]
        have k1 : (z.kind == 1) = false := by simp [h1]
        have k2 : (z.kind == 2) = true := by simp [h2]
        clear h0 h1 h2
        go_enter Try.func21, Try.ntmps21
        obtain ⟨a0, a1, a2, a3, a4, a5⟩ := A0.out
        go_wp2_with fail
        refine (rem_any ao n cap t z.a _ hs (HH.out.below B0.out)).mono ?_
        rintro e w1 ⟨xo, xn, xc, rfl, h1, b1⟩
        have H1 := hid h1
        have B1 := hid (q_trans B0.out b1)
        clear h1 b1
        go_wp2_with (go_at_call 12; refine (num_any _ _).mono ?_; rintro e w2 ⟨rfl, rfl⟩)
        refine bodyPost_ret (v := .tuple #[.slice xo xn xc, .int .i64 (reE t z.a)]) (by simp [results, Try.results21, go_sem]) rfl ⟨xo, xn, xc, by rw [HE.out.1], by rw [HE.out.2]; exact H1.out, B1.out⟩
      · skip
        by_cases h3 : z.kind = 3
        · have HE : Hid (doE t z = moE t z.a z.b ∧ doA t z = moA t z.a z.b) := ⟨by unfold doE; rw [if_neg h0, if_neg h1, if_neg h2, if_pos h3], by unfold doA; rw [if_neg h0, if_neg h1, if_neg h2, if_pos h3]⟩
          have k0 : (z.kind == 0) = false := by simp [h0]
          have k1 : (z.kind == 1) = false := by simp [h1]
          have k2 : (z.kind == 2) = false := by simp [h2]
          have k3 : (z.kind == 3) = true := by simp [h3]
          clear h0 h1 h2 h3
          go_enter Try.func21, Try.ntmps21
          obtain ⟨a0, a1, a2, a3, a4, a5⟩ := A0.out
          go_wp2_with fail
          refine (mov_any ao n cap t z.a z.b _ hs (HH.out.below B0.out)).mono ?_
          rintro e w1 ⟨xo, xn, xc, rfl, h1, b1⟩
          have H1 := hid h1
          have B1 := hid (q_trans B0.out b1)
          clear h1 b1
          go_wp2_with (go_at_call 12; refine (num_any _ _).mono ?_; rintro e w2 ⟨rfl, rfl⟩)
          refine bodyPost_ret (v := .tuple #[.slice xo xn xc, .int .i64 (moE t z.a z.b)]) (by simp [results, Try.results21, go_sem]) rfl ⟨xo, xn, xc, by rw [HE.out.1], by rw [HE.out.2]; exact H1.out, B1.out⟩
        · skip
          have HE : Hid (doE t z = maE t z.a ∧ doA t z = maA t z.a z.on) := ⟨by unfold doE; rw [if_neg h0, if_neg h1, if_neg h2, if_neg h3], by unfold doA; rw [if_neg h0, if_neg h1, if_neg h2, if_neg h3]⟩
          have k0 : (z.kind == 0) = false := by simp [h0]
          have k1 : (z.kind == 1) = false := by simp [h1]
          have k2 : (z.kind == 2) = false := by simp [h2]
          have k3 : (z.kind == 3) = false := by simp [h3]
          clear h0 h1 h2 h3
          go_enter Try.func21, Try.ntmps21
          obtain ⟨a0, a1, a2, a3, a4, a5⟩ := A0.out
          go_wp2_with fail
          refine (mar_any ao n cap t z.a z.on _ hs (HH.out.below B0.out)).mono ?_
          rintro e w1 ⟨xo, xn, xc, rfl, h1, b1⟩
          have H1 := hid h1
          have B1 := hid (q_trans B0.out b1)
          clear h1 b1
          go_wp2_with (go_at_call 12; refine (num_any _ _).mono ?_; rintro e w2 ⟨rfl, rfl⟩)
          refine bodyPost_ret (v := .tuple #[.slice xo xn xc, .int .i64 (maE t z.a)]) (by simp [results, Try.results21, go_sem]) rfl ⟨xo, xn, xc, by rw [HE.out.1], by rw [HE.out.2]; exact H1.out, B1.out⟩

end Go.Proofs.Ytdaakigofpehjab.Tr
