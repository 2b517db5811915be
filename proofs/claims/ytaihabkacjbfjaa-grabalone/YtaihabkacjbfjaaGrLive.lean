/- live answers true. -/
import Derived.Test.YtaihabkacjbfjaaGrW1
import Derived.Test.YtaihabkacjbfjaaGrW5
import Derived.Test.YtaihabkacjbfjaaGrRef2
namespace Go.Proofs.Ytaihabkacjbfjaa.Gr
open Go.RowKit Go.Proofs.Ytaihabkacjbfjaa.Ce

theorem two_has (w : World) (x y : Int) : Has (w.alloc (.cells #[.int .i64 x, .int .i64 y] 3)) (some ⟨w.heap.size, 0, none⟩) 2 2 [x, y] := by
  refine ⟨rfl, (fun h => by cases h), Nat.le_refl _, ⟨fun j u hu => ⟨_, rfl, ?_⟩⟩⟩
  match j, hu with
  | 0, hu => simp at hu; subst hu; simp [Addr.add]
  | 1, hu => simp at hu; subst hu; simp [Addr.add]
  | j + 2, hu => simp at hu
theorem lvE : startE 1 [4, 2] = 0 := by decide
theorem lvG : startG 1 true [4, 2] = ⟨1, [2, 4], 1, 0, 0, true⟩ := by rw [startG_yes lvE]; rfl
theorem lvE0 : startE 0 [] = 2 := by decide
theorem lvG0 : startG 0 true [] = G.zero := startG_no (by rw [lvE0]; decide)
theorem lv_start (w : World) : Calls Try.prog 10 #[.int .i64 1, .bool true, .slice (some ⟨w.heap.size, 0, none⟩) 2 2] (w.alloc (.cells #[.int .i64 4, .int .i64 2] 3)) fun e w' => ∃ ao cap, e = .returned (.tuple #[.agg #[.int .i64 1, .slice ao 2 cap, .int .i64 1, .int .i64 0, .int .i64 0, .bool true], .int .i64 0]) ∧ Mine w' w.heap.size ao 2 cap [2, 4] ∧ Below w.heap.size w w' := by
  refine (start_any 1 true _ 2 2 [4, 2] _ (two_has w 4 2) (by decide)).mono ?_
  rintro e w' ⟨ao, cap, rfl, hm, b⟩
  rw [lvE, lvG]
  rw [lvG] at hm
  exact ⟨ao, cap, rfl, hm.base (by simp), q_trans (alloc_below w _) b⟩
theorem lv_start0 (w : World) : Calls Try.prog 10 #[.int .i64 0, .bool true, .slice none 0 0] w fun e w' => ∃ ao cap, e = .returned (.tuple #[.agg #[.int .i64 0, .slice ao 0 cap, .int .i64 0, .int .i64 0, .int .i64 0, .bool false], .int .i64 2]) ∧ Below w.heap.size w w' := by
  refine (start_any 0 true none 0 0 [] w (has_nil w) (by decide)).mono ?_
  rintro e w' ⟨ao, cap, rfl, hm, b⟩
  rw [lvE0, lvG0]
  exact ⟨ao, cap, rfl, b⟩
section
variable {w : World} {ao : Option Addr} {cap : Nat}
theorem lv_next {p a k c : Int} (H : Has w ao 2 cap [2, 4]) (ha : -5 ≤ a ∧ a ≤ 1000000) (hn : nxO ⟨1, [2, 4], p, a, 0, true⟩ = ⟨k, c, 0, 0, 1⟩) (hh : hasN ⟨1, [2, 4], p, a, 0, true⟩ = true) :
    Calls Try.prog 14 #[.agg #[.int .i64 1, .slice ao 2 cap, .int .i64 p, .int .i64 a, .int .i64 0, .bool true]] w fun e w' => e = .returned (.tuple #[.agg #[.int .i64 k, .int .i64 c, .int .i64 0, .int .i64 0, .int .i64 1], .bool true]) ∧ Below w.heap.size w w' := by
  have h := next_any ⟨1, [2, 4], p, a, 0, true⟩ ao 2 cap w H (by decide) ha
  rwa [hn, hh] at h
theorem lv_take {p a p' a' : Int} (H : Has w ao 2 cap [2, 4]) (ha : -5 ≤ a ∧ a ≤ 1000000) (ht : takeG ⟨1, [2, 4], p, a, 0, true⟩ true = ⟨1, [2, 4], p', a', 0, true⟩) :
    Calls Try.prog 16 #[.agg #[.int .i64 1, .slice ao 2 cap, .int .i64 p, .int .i64 a, .int .i64 0, .bool true], .bool true] w fun e w' => ∃ ao' cap', e = .returned (.agg #[.int .i64 1, .slice ao' 2 cap', .int .i64 p', .int .i64 a', .int .i64 0, .bool true]) ∧ Mine w' w.heap.size ao' 2 cap' [2, 4] ∧ Below w.heap.size w w' := by
  have h := take_any ⟨1, [2, 4], p, a, 0, true⟩ true ao 2 cap w H (by decide) ha (by simp)
  rwa [ht] at h
theorem lv_free (H : Has w ao 2 cap [2, 4]) :
    Calls Try.prog 18 #[.agg #[.int .i64 1, .slice ao 2 cap, .int .i64 2, .int .i64 2, .int .i64 0, .bool true]] w fun e w' => ∃ ao' cap', e = .returned (.agg #[.int .i64 1, .slice ao' 2 cap', .int .i64 4, .int .i64 2, .int .i64 0, .bool true]) ∧ Mine w' w.heap.size ao' 2 cap' [2, 4] ∧ Below w.heap.size w w' :=
  free_any ⟨1, [2, 4], 2, 2, 0, true⟩ ao 2 cap w H (by decide)
theorem lv_held (H : Has w ao 2 cap [2, 4]) :
    Calls Try.prog 21 #[.agg #[.int .i64 1, .slice ao 2 cap, .int .i64 2, .int .i64 2, .int .i64 0, .bool true]] w fun e w' => ∃ ao' cap', e = .returned (.slice ao' 2 cap') ∧ Mine w' w.heap.size ao' 2 cap' [2, 4] ∧ Below w.heap.size w w' := by
  refine (held_any ⟨1, [2, 4], 2, 2, 0, true⟩ ao 2 cap w H (by decide)).mono ?_
  rintro e w' ⟨ao', m, cap', rfl, hm, b⟩
  have e : m = 2 := hm.has.len
  subst e
  exact ⟨ao', cap', rfl, hm, b⟩
end
theorem lt1 : takeG ⟨1, [2, 4], 1, 0, 0, true⟩ true = ⟨1, [2, 4], 1, 1, 0, true⟩ := by simp [takeG, hasN]
theorem lt2 : takeG ⟨1, [2, 4], 1, 1, 0, true⟩ true = ⟨1, [2, 4], 2, 2, 0, true⟩ := by simp [takeG, hasN]
theorem lt3 : takeG ⟨1, [2, 4], 4, 2, 0, true⟩ true = ⟨1, [2, 4], 4, 1, 0, true⟩ := by simp [takeG, hasN]
theorem lt4 : takeG ⟨1, [2, 4], 4, 1, 0, true⟩ true = ⟨1, [2, 4], 5, 0, 0, true⟩ := by simp [takeG, hasN]
theorem ln1 : nxO ⟨1, [2, 4], 1, 0, 0, true⟩ = ⟨4, 2, 0, 0, 1⟩ ∧ hasN ⟨1, [2, 4], 1, 0, 0, true⟩ = true := by simp [nxO, hasN]
theorem ln2 : nxO ⟨1, [2, 4], 4, 2, 0, true⟩ = ⟨5, 4, 0, 0, 1⟩ ∧ hasN ⟨1, [2, 4], 4, 2, 0, true⟩ = true := by simp [nxO, hasN]
theorem lv_eq (w : World) : (Op.equalIn 10000 35 (.agg #[.int .i64 4, .int .i64 2, .int .i64 0, .int .i64 0, .int .i64 1]) (.agg #[.int .i64 4, .int .i64 2, .int .i64 0, .int .i64 0, .int .i64 1])).run Try.prog w = .ok true w := eq5 9998 ⟨4, 2, 0, 0, 1⟩ ⟨4, 2, 0, 0, 1⟩ w

theorem lv_field (ao : Option Addr) (cap : Nat) (w : World) : (Instr.field 25 (.agg #[.int .i64 1, .slice ao 2 cap, .int .i64 5, .int .i64 0, .int .i64 0, .bool true]) 2).run Try.prog w = .ok (.int .i64 5) w := by kernel_rfl
/-- What lies there at the end. -/
structure Lv (w W : World) (g o h p : Nat) (ao bo : Option Addr) (cap cap' : Nat) : Prop where
  g : InG W g 1 (.slice ao 2 cap) 2 2 0 true
  o : InO W o ⟨4, 2, 0, 0, 1⟩
  h : InG W h 1 (.slice bo 2 cap') 4 2 0 true
  p : InO W p ⟨5, 4, 0, 0, 1⟩
  a : Has W ao 2 cap [2, 4]
  b : Has W bo 2 cap' [2, 4]
  low : Below w.heap.size w W
theorem Lv.below {w W W' : World} {g o h p : Nat} {ao bo : Option Addr} {cap cap' : Nat} (H : Lv w W g o h p ao bo cap cap') (b : Below W.heap.size W W') : Lv w W' g o h p ao bo cap cap' :=
  ⟨H.g.below b, H.o.below b, H.h.below b, H.p.below b, H.a.below b, H.b.below b, q_trans H.low b⟩
set_option maxRecDepth 100000 in
set_option maxHeartbeats 4000000 in
theorem live_any (w : World) : Calls Try.prog 9 #[] w fun e w' => e = .returned (.bool true) ∧ Below w.heap.size w w' := by
  have he := lv_eq
  have hf := lv_field
  go_enter Try.func9, Try.ntmps9
  go_wp2_with fail
  refine (lv_start w).mono ?_
  rintro e w1 ⟨ao1, cap1, rfl, m1, b1⟩
  have HM1 := hid m1.has
  have HB1 := hid b1
  have HW1 := hid b1.size
  clear m1 b1
  go_wp2_with fail
  refine (lv_next (HM1.out.below (alloc_below _ _)) (by decide) ln1.1 ln1.2).mono ?_
  rintro e w2 ⟨rfl, b2⟩
  have HG2 := hid ((inG_new w1 1 (.slice ao1 2 cap1) 1 0 0 true 25).below b2)
  have HM2 := hid ((HM1.out.below (alloc_below _ _)).below b2)
  have HB2 := hid (q_trans (q_alloc HB1.out _) b2)
  clear b2 HM1 HB1
  obtain ⟨c0, c1, c2, c3, c4, c5, cf⟩ := HG2.out
  have l2 : w1.heap.size < w2.heap.size := HG2.out.lt
  go_wp2_with fail
  clear c0 c1 c2 c3 c4 c5 cf l2
  refine (lv_take (HM2.out.below (alloc_below _ _)) (by decide) lt1).mono ?_
  rintro e w3 ⟨ao3, cap3, rfl, m3, b3⟩
  have HG3 := hid ((HG2.out.below (alloc_below _ _)).below b3)
  have HO3 := hid ((inO_new w2 ⟨4, 2, 0, 0, 1⟩ 35).below b3)
  have HM3 := hid m3.has
  have HB3 := hid (q_trans (q_alloc HB2.out _) b3)
  have HNE : Hid (w1.heap.size < w2.heap.size) := HG2.out.lt
  clear b3 m3 HG2 HM2 HB2
  go_wp2_with fail
  refine (lv_take HM3.out (by decide) lt2).mono ?_
  rintro e w4 ⟨ao4, cap4, rfl, m4, b4⟩
  have HG4 := hid (HG3.out.below b4)
  have HO4 := hid (HO3.out.below b4)
  have HM4 := hid m4
  have HB4 := hid (q_trans HB3.out b4)
  have HL3 : Hid (w1.heap.size < w3.heap.size) := HG3.out.lt
  clear b4 m4 HG3 HO3 HM3 HB3
  obtain ⟨c0, c1, c2, c3, c4, c5, cf⟩ := HG4.out
  go_wp2_with fail
  clear c0 c1 c2 c3 c4 c5 cf
  have hk := kept_store w4 w1.heap.size 1 (.slice ao4 2 cap4) 2 2 0 true
  have HG5 := hid (InG.store (who' := 1) (sv' := .slice ao4 2 cap4) (p' := 2) (a' := 2) (t' := 0) (bb' := true) HG4.out)
  have HK := hid hk
  clear hk
  generalize (((((w4.setCell _ _).setCell _ _).setCell _ _).setCell _ _).setCell _ _).setCell _ _ = w5 at HG5 HK ⊢
  have HO5 := hid (HO4.out.kept HK.out (by have := HNE.out; omega))
  have HM5 := hid (HM4.out.kept (B' := 0) HK.out (fun i h e => by have := HL3.out; omega) (Nat.zero_le _)).has
  have HB5 := hid (HB4.out.trans (HK.out.below w.heap.size HB4.out.size (fun i e => by have := HW1.out; omega)))
  clear HG4 HO4 HM4 HB4 HK
  refine (lv_free HM5.out).mono ?_
  rintro e w6 ⟨bo, cap6, rfl, m6, b6⟩
  have HG6 := hid (HG5.out.below b6)
  have HO6 := hid (HO5.out.below b6)
  have HA6 := hid (HM5.out.below b6)
  have HM6 := hid m6.has
  have HB6 := hid (q_trans HB5.out b6)
  clear b6 m6 HG5 HO5 HM5 HB5
  go_wp2_with fail
  refine (lv_next (HM6.out.below (alloc_below _ _)) (by decide) ln2.1 ln2.2).mono ?_
  rintro e w7 ⟨rfl, b7⟩
  have HG7 := hid ((HG6.out.below (alloc_below _ _)).below b7)
  have HO7 := hid ((HO6.out.below (alloc_below _ _)).below b7)
  have HA7 := hid ((HA6.out.below (alloc_below _ _)).below b7)
  have HH7 := hid ((inG_new w6 1 (.slice bo 2 cap6) 4 2 0 true 25).below b7)
  have HM7 := hid ((HM6.out.below (alloc_below _ _)).below b7)
  have HB7 := hid (q_trans (q_alloc HB6.out _) b7)
  clear b7 HG6 HO6 HA6 HM6 HB6
  go_wp2_with fail
  refine (lv_start0 _).mono ?_
  rintro e w8 ⟨ao8, cap8, rfl, b8⟩
  have HL8 := hid (Lv.mk ((HG7.out.below (alloc_below _ _)).below b8) ((HO7.out.below (alloc_below _ _)).below b8) ((HH7.out.below (alloc_below _ _)).below b8) ((inO_new w7 ⟨5, 4, 0, 0, 1⟩ 35).below b8) ((HA7.out.below (alloc_below _ _)).below b8) ((HM7.out.below (alloc_below _ _)).below b8) (q_trans (q_alloc HB7.out _) b8))
  clear b8 HG7 HO7 HA7 HH7 HM7 HB7
  go_wp2_with fail
  have HL9 := hid (HL8.out.below (alloc_below w8 (.cells #[.int .i64 0, .slice ao8 0 cap8, .int .i64 0, .int .i64 0, .int .i64 0, .bool false] 25)))
  generalize w8.alloc _ = W at HL9 ⊢
  refine (num_any 0 _).mono ?_
  rintro e w9 ⟨rfl, hw⟩
  rw [hw]
  clear hw w9 HL8
  obtain ⟨g0, g1, g2, g3, g4, g5, gf⟩ := HL9.out.g
  obtain ⟨o0, o1, o2, o3, o4⟩ := HL9.out.o
  go_wp2_with fail
  clear g0 g1 g2 g3 g4 g5 gf o0 o1 o2 o3 o4
  refine (lv_held HL9.out.a).mono ?_
  rintro e w9 ⟨ao9, cap9, rfl, m9, b9⟩
  have HLA := hid (HL9.out.below b9)
  have HM9 := hid m9.has
  clear b9 m9 HL9
  go_wp2_with fail
  refine (ints_yes ao9 _ 2 cap9 2 [2, 4] _ (by decide) (HM9.out.below (alloc_below _ _)) (two_has w9 2 4)).mono ?_
  rintro e wA ⟨rfl, bA⟩
  have HLB := hid ((HLA.out.below (alloc_below _ _)).below bA)
  clear bA HLA HM9
  obtain ⟨o0, o1, o2, o3, o4⟩ := HLB.out.p
  go_wp2_with fail
  clear o0 o1 o2 o3 o4
  refine (num_any 2 _).mono ?_
  rintro e wB ⟨rfl, hw⟩
  rw [hw]
  clear hw wB
  obtain ⟨g0, g1, g2, g3, g4, g5, gf⟩ := HLB.out.h
  go_wp2_with fail
  clear g0 g1 g2 g3 g4 g5 gf
  refine (lv_take HLB.out.b (by decide) lt3).mono ?_
  rintro e wC ⟨aoC, capC, rfl, mC, bC⟩
  have HMC := hid mC.has
  have HBC := hid (q_trans HLB.out.low bC)
  clear mC bC
  go_wp2_with fail
  refine (lv_take HMC.out (by decide) lt4).mono ?_
  rintro e wD ⟨aoD, capD, rfl, mD, bD⟩
  have HBD := hid (q_trans HBC.out bD)
  clear mD bD
  go_wp2_with fail
  go_ret
  exact ⟨rfl, HBD.out⟩
end Go.Proofs.Ytaihabkacjbfjaa.Gr
