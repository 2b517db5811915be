/- live answers true. -/
import Derived.Test.YteohoipkdjhllaaCaRApart
namespace Go.Proofs.Yteohoipkdjhllaa.Ca
open Go.RowKit

def lvX : X := (100, 50)
def lvL : List X := [(100, 4), (104, 4)]
theorem lv1 : cvX lvX 3 16 = (112, 16) := by decide +kernel
theorem lv2 : cvW lvX 3 16 = 28 := by decide +kernel
theorem lv3 : cvE lvX 3 16 = 0 := by decide +kernel
theorem lv4 : cvX lvX 40 16 = (0, 0) := by decide +kernel
theorem lv5 : cvW lvX 40 16 = 40 := by decide +kernel
theorem lv6 : cvE lvX 40 16 = 5 := by decide +kernel
theorem lv7 : mnL lvX 0 [4, 4] = lvL := by decide +kernel
theorem lv8 : mnW lvX 0 [4, 4] = 8 := by decide +kernel
theorem lv9 : mnE lvX 0 [4, 4] = 0 := by decide +kernel
theorem lvA : szV 3 0 = 16 := by decide +kernel
theorem lvB : szE 3 0 = 0 := by decide +kernel
theorem lvC : szV 1 3 = 0 := by decide +kernel
theorem lvD : szE 1 3 = 2 := by decide +kernel
theorem lvE : alV 100 16 = 112 := by decide +kernel
theorem lvF : inB (112, 16) lvX = true := by decide +kernel
theorem lvG : meB (100, 4) (104, 4) = false := by decide +kernel
theorem lvH : apB lvL = true := by decide +kernel
theorem lvI : chk (0, 0) = 2 := by decide +kernel
section
variable {w : World}
theorem lv_carve : Calls Try.prog 21 #[.agg #[.int .i64 100, .int .i64 50], .int .i64 3, .int .i64 16] w fun r w' => r = .returned (.tuple #[.agg #[.int .i64 112, .int .i64 16], .int .i64 28, .int .i64 0]) ∧ Below w.heap.size w w' := is_carve (x := lvX) lv1 lv2 lv3
theorem lv_carve2 : Calls Try.prog 21 #[.agg #[.int .i64 100, .int .i64 50], .int .i64 40, .int .i64 16] w fun r w' => r = .returned (.tuple #[.agg #[.int .i64 0, .int .i64 0], .int .i64 40, .int .i64 5]) ∧ Below w.heap.size w w' := is_carve (x := lvX) lv4 lv5 lv6
theorem lv_ints (w : World) : Has (w.alloc (.cells #[.int .i64 4, .int .i64 4] 3)) (some ⟨w.heap.size, 0, none⟩) 2 2 [4, 4] := by
  refine ⟨rfl, (fun h => by cases h), Nat.le_refl _, ⟨fun j u hu => ⟨_, rfl, ?_⟩⟩⟩
  match j, hu with
  | 0, hu => simp [vals] at hu; subst hu; simp [Addr.add]
  | 1, hu => simp [vals] at hu; subst hu; simp [Addr.add]
theorem lv_many {c : Nat} (hc : c = w.heap.size) : Calls Try.prog 23 #[.agg #[.int .i64 100, .int .i64 50], .int .i64 0, .slice (some ⟨c, 0, none⟩) 2 2] (w.alloc (.cells #[.int .i64 4, .int .i64 4] 3)) fun r w' => ∃ ao cap, r = .returned (.tuple #[.slice ao 2 cap, .int .i64 8, .int .i64 0]) ∧ HasX w' ao 2 cap lvL ∧ Below w.heap.size w w' := by
  subst hc
  refine (many_any lvX 0 (some ⟨w.heap.size, 0, none⟩) 2 2 [4, 4] _ (by decide) (lv_ints w)).mono ?_
  rintro e w' ⟨ao, cap, he, hh, hb⟩
  rw [lv7, lv8, lv9] at he
  rw [lv7] at hh
  exact ⟨ao, cap, he, hh, q_trans (alloc_below _ _) hb⟩
theorem lv_size : Calls Try.prog 9 #[.int .i64 3, .int .i64 0] w fun e w' => e = .returned (.tuple #[.int .i64 16, .int .i64 0]) ∧ w' = w := by
  have := size_any 3 0 w
  rwa [lvA, lvB] at this
theorem lv_size2 : Calls Try.prog 9 #[.int .i64 1, .int .i64 3] w fun e w' => e = .returned (.tuple #[.int .i64 0, .int .i64 2]) ∧ w' = w := by
  have := size_any 1 3 w
  rwa [lvC, lvD] at this
theorem HasX.later {ao : Option Addr} {n cap : Nat} {l : List X} (h : HasX w ao n cap l) (g : Later w) : HasX g.now ao n cap l := h.below g.low
theorem later_align {a s y : Int} (h : alV a s = y) {g : Later w} : Calls Try.prog 14 #[.int .i64 a, .int .i64 s] g.now fun e w'' => e = .returned (.int .i64 y) ∧ ∃ g' : Later w, w'' = g'.now :=
  (h ▸ align_any a s g.now).mono fun _ _ ⟨he, hb⟩ => ⟨he, g, hb⟩
theorem is_apart {ao : Option Addr} {n cap : Nat} {l : List X} {r : Bool} (hs : n ≤ 1000) (h : HasX w ao n cap l) (hr : apB l = r) : Calls Try.prog 26 #[.slice ao n cap] w fun e w' => e = .returned (.bool r) ∧ Below w.heap.size w w' := hr ▸ apart_any ao n cap l w hs h
theorem is_rapart {ao : Option Addr} {n cap : Nat} {l : List X} {r : Bool} (hs : n ≤ 1000) (h : HasX w ao n cap l) (hr : apB l = r) : Calls Try.prog 27 #[.slice ao n cap] w fun e w' => e = .returned (.bool r) ∧ Below w.heap.size w w' := hr ▸ rapart_any ao n cap l w hs h
theorem lv_inside : Calls Try.prog 16 #[.agg #[.int .i64 112, .int .i64 16], .agg #[.int .i64 100, .int .i64 50]] w fun e w' => e = .returned (.bool true) ∧ Below w.heap.size w w' := is_inside (a := (112, 16)) (b := lvX) lvF
theorem lv_meet : Calls Try.prog 18 #[.agg #[.int .i64 100, .int .i64 4], .agg #[.int .i64 104, .int .i64 4]] w fun e w' => e = .returned (.bool false) ∧ Below w.heap.size w w' := is_meet (a := (100, 4)) (b := (104, 4)) lvG
theorem lv_check : Calls Try.prog 12 #[.agg #[.int .i64 0, .int .i64 0]] w fun e w' => e = .returned (.int .i64 2) ∧ Below w.heap.size w w' := is_check (x := (0, 0)) lvI
end
theorem Bx.lit {w : World} {c : Nat} {a b : Int} (h : Bx w c (a, b)) : w.cell? ⟨c, 0, none⟩ = some (.int .i64 a) ∧ w.cell? ⟨c, 1, none⟩ = some (.int .i64 b) := ⟨h.c0, h.c1⟩
theorem Bx.late {w : World} {c : Nat} {a b : Int} (h : Bx w c (a, b)) : (∀ g : Later w, g.now.cell? ⟨c, 0, none⟩ = some (.int .i64 a)) ∧ (∀ g : Later w, g.now.cell? ⟨c, 1, none⟩ = some (.int .i64 b)) := ⟨fun g => g.cell h.c0, fun g => g.cell h.c1⟩
theorem lv_cells {w : World} {ao : Option Addr} {cap : Nat} (h : HasX w ao 2 cap lvL) : ∃ a, ao = some a ∧ (∀ g : Later w, g.now.cell? a = some (.int .i64 100)) ∧ (∀ g : Later w, g.now.cell? ⟨a.block, a.off + 1, none⟩ = some (.int .i64 4)) ∧ (∀ g : Later w, g.now.cell? ⟨a.block, a.off + 2, none⟩ = some (.int .i64 104)) ∧ (∀ g : Later w, g.now.cell? ⟨a.block, a.off + 2 + 1, none⟩ = some (.int .i64 4)) := by
  obtain ⟨a, rfl, c0, c1⟩ := atX_of h.row 0 (by decide)
  obtain ⟨a', e, c2, c3⟩ := atX_of h.row 1 (by decide)
  cases e
  exact ⟨a, rfl, fun g => g.cell c0, fun g => g.cell c1, fun g => g.cell c2, fun g => g.cell c3⟩
theorem eq_lit (w : World) : (Op.equalIn 10000 23 (.agg #[.int .i64 112, .int .i64 16]) (.agg #[.int .i64 112, .int .i64 16])).run Try.prog w = .ok true w := eq_yes (a := (112, 16)) rfl w
set_option maxRecDepth 100000 in
set_option maxHeartbeats 4000000 in
theorem live_any (w : World) : Calls Try.prog 20 #[] w fun e w' => e = .returned (.bool true) ∧ Below w.heap.size w w' := by
  have he := eq_lit
  go_enter Try.func20, Try.ntmps20
  go_wp2_with fail
  have X0 := hid (bx_new w (100, 50) 23)
  have B0 := hid (alloc_below w (.cells #[.int .i64 100, .int .i64 50] 23))
  refine lv_carve.mono ?_
  rintro e w1 ⟨rfl, b1⟩
  have X1 := hid (X0.out.below b1)
  have B1 := hid (q_trans B0.out b1)
  clear b1 X0 B0
  have hlt : w.heap.size < w1.heap.size := X1.out.lt
  obtain ⟨p0, p1⟩ := X1.out.lit
  go_wp2_with fail
  have A1 := hid (bx_new w1 (112, 16) 23)
  have X2 := hid (X1.out.below (alloc_below w1 (.cells #[.int .i64 112, .int .i64 16] 23)))
  have B2 := hid (q_alloc B1.out (.cells #[.int .i64 112, .int .i64 16] 23))
  generalize w1.alloc (.cells #[.int .i64 112, .int .i64 16] 23) = W2 at A1 X2 B2 ⊢
  clear p0 p1 hlt X1 B1
  refine lv_carve2.mono ?_
  rintro e w3 ⟨rfl, b3⟩
  have A3 := hid (A1.out.below b3)
  have X3 := hid (X2.out.below b3)
  have B3 := hid (q_trans B2.out b3)
  clear b3 A1 X2 B2
  have hlt : w.heap.size < w3.heap.size := X3.out.lt
  obtain ⟨p0, p1⟩ := X3.out.lit
  go_wp2_with fail
  refine (lv_many (w := w3.alloc (.cells #[.int .i64 0, .int .i64 0] 23)) (by simp)).mono ?_
  rintro e w4 ⟨ao, cap, rfl, h4, b4'⟩
  have b4 := q_trans (alloc_below w3 _) b4'
  clear b4' hlt
  have A4 := hid (A3.out.below b4)
  have X4 := hid (X3.out.below b4)
  have B4 := hid (q_trans B3.out b4)
  have H4 := hid h4
  clear b4 A3 X3 B3 h4 p0 p1
  go_wp2_with fail
  refine lv_size.mono ?_
  rintro e w5 ⟨rfl, hw⟩
  rw [hw]
  clear hw w5
  go_wp2_with fail
  refine lv_size2.mono ?_
  rintro e w5 ⟨rfl, hw⟩
  rw [hw]
  clear hw w5
  go_wp2_with fail
  obtain ⟨a, rfl, c0, c1, c2, c3⟩ := lv_cells H4.out
  obtain ⟨f0, f1⟩ := A4.out.late
  obtain ⟨g0, g1⟩ := X4.out.late
  have hne : Nonempty (Later w4) := ⟨⟨w4, Below.refl _ _⟩⟩
  refine wp_region_later (by kernel_rfl) (by kernel_rfl) ?_
  simp only [List.append_eq, List.cons_append, List.nil_append]
  repeat (go_big_quiet_step (first | (go_at_call 11; exact later_num _) | (go_at_call 14; exact later_align lvE) | (go_at_call 16; exact later_call lv_inside) | (go_at_call 18; exact later_call lv_meet) | (go_at_call 26; exact later_call (is_apart (by decide) (H4.out.later _) lvH)) | (go_at_call 12; exact later_call lv_check)))
  refine wpQuiet_nil ?_
  rintro w9 ⟨⟨_, b9⟩, rfl⟩
  go_wp2_with fail
  go_ret
  exact ⟨rfl, q_trans B4.out b9⟩
end Go.Proofs.Yteohoipkdjhllaa.Ca
