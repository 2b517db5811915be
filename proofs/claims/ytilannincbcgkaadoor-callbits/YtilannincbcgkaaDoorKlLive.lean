/- live answers true, in every world whose tables are the program's. -/
import Derived.Test.YtilannincbcgkaaDoorKlR3
namespace Go.Proofs.YtilannincbcgkaaDoor.Kl
open Go.RowKit
open Ad (q_trans q_alloc q_set ret_int ret_bool hid)

theorem wf_del : Wf ⟨3, 193, 0, 0, 0, 0, 0, 0⟩ := ⟨u64_of 193 (by omega), u64_of 0 (by omega), by decide⟩
theorem u4 {x y : Int} (hx : U64 x) (hy : U64 y) : ∀ i ∈ [x, y, 0, 0], U64 i := by
  intro i hi
  simp only [List.mem_cons, List.not_mem_nil, or_false] at hi
  rcases hi with rfl | rfl | rfl | rfl
  · exact hx
  · exact hy
  · exact u64_of 0 (by omega)
  · exact u64_of 0 (by omega)
theorem lv_put (w : World) (hT : Tabs w) : Calls Tryd.prog 9 #[.agg #[.int .i64 3, .int .u64 193, .int .u64 0, .int .i64 0, .int .i64 0, .int .i64 0, .int .i64 0, .int .i64 0]] w fun e w' => ∃ ao cap, e = .returned (.tuple #[.slice ao 4 cap, .int .i64 0]) ∧ HasU w' ao 4 cap [3, 193, 0, 0] ∧ Below w.heap.size w w' := by
  refine (put_c ⟨3, 193, 0, 0, 0, 0, 0, 0⟩ w hT wf_del).mono ?_
  rintro e w' ⟨ao, n, cap, rfl, hm, b⟩
  rw [show putL ⟨3, 193, 0, 0, 0, 0, 0, 0⟩ = [3, 193, 0, 0] by kernel_rfl] at hm
  obtain rfl : n = 4 := hm.has.len
  exact ⟨ao, cap, by rw [show chE ⟨3, 193, 0, 0, 0, 0, 0, 0⟩ = 0 by kernel_rfl], hm.has, b⟩
theorem lv_par1 (a : Addr) (cap : Nat) (w : World) (hT : Tabs w) (h : HasU w (some a) 4 cap [3, 193, 0, 0]) : Calls Tryd.prog 11 #[.slice (some a) 4 cap] w fun e w' => e = .returned (.tuple #[.agg #[.int .i64 3, .int .u64 193, .int .u64 0, .int .i64 0, .int .i64 0, .int .i64 0, .int .i64 0, .int .i64 0], .int .i64 0]) ∧ Below w.heap.size w w' := by
  have := parse_any (some a) 4 cap [3, 193, 0, 0] w hT (u4 (u64_of 3 (by omega)) (u64_of 193 (by omega))) h
  unfold ParR at this
  rw [show parC [3, 193, 0, 0] = ⟨3, 193, 0, 0, 0, 0, 0, 0⟩ by kernel_rfl, show parE [3, 193, 0, 0] = 0 by kernel_rfl] at this
  exact this
theorem lv_par2 (a : Addr) (cap : Nat) (w : World) (hT : Tabs w) (h : HasU w (some a) 4 cap [3, 0, 0, 0]) : Calls Tryd.prog 11 #[.slice (some a) 4 cap] w fun e w' => e = .returned (.tuple #[.agg #[.int .i64 0, .int .u64 0, .int .u64 0, .int .i64 0, .int .i64 0, .int .i64 0, .int .i64 0, .int .i64 0], .int .i64 150]) ∧ Below w.heap.size w w' := by
  have := parse_any (some a) 4 cap [3, 0, 0, 0] w hT (u4 (u64_of 3 (by omega)) (u64_of 0 (by omega))) h
  unfold ParR at this
  rw [show parC [3, 0, 0, 0] = ⟨0, 0, 0, 0, 0, 0, 0, 0⟩ by kernel_rfl, show parE [3, 0, 0, 0] = 150 by kernel_rfl] at this
  exact this
theorem lv_check (w : World) : Calls Tryd.prog 14 #[.agg #[.int .i64 0, .int .u64 0, .int .u64 0, .int .i64 0, .int .i64 0, .int .i64 0, .int .i64 0, .int .i64 0]] w fun e w' => e = .returned (.int .i64 150) ∧ Below w.heap.size w w' := by
  have := check_any C.zero w wf_zero
  rw [show chE C.zero = 150 by kernel_rfl] at this
  exact this
def delS : ByteArray := ⟨#[100, 101, 108, 101, 116, 101]⟩
theorem lv_name (w : World) (hT : Tabs w) : Calls Tryd.prog 17 #[.int .i64 3] w fun e w' => e = .returned (.string delS) ∧ w' = w := by
  have := name_any 3 w hT
  rw [show nmT 3 = delS by kernel_rfl] at this
  exact this
theorem lv_none (w : World) (hT : Tabs w) : Calls Tryd.prog 17 #[.int .i64 13] w fun e w' => e = .returned (.string ⟨#[]⟩) ∧ w' = w := by
  have := name_any 13 w hT
  rw [show nmT 13 = ⟨#[]⟩ by kernel_rfl] at this
  exact this
set_option maxRecDepth 100000 in
set_option maxHeartbeats 1000000 in
theorem live_any (w : World) (hT : Tabs w) : Calls Tryd.prog 8 #[] w fun e w' => e = .returned (.bool true) ∧ Below w.heap.size w w' := by
  have HT : Hid (Tabs w) := hT
  clear hT
  have he := eq8 ⟨3, 193, 0, 0, 0, 0, 0, 0⟩ ⟨3, 193, 0, 0, 0, 0, 0, 0⟩
  rw [show eqC ⟨3, 193, 0, 0, 0, 0, 0, 0⟩ ⟨3, 193, 0, 0, 0, 0, 0, 0⟩ = true by kernel_rfl] at he
  dsimp only at he
  have hlit : (delS.toList == [100, 101, 108, 101, 116, 101]) = true := by kernel_rfl
  go_enter Tryd.func8, Tryd.ntmps8
  go_wp2_with fail
  refine (lv_put _ HT.out).mono ?_
  rintro e w1 ⟨ao, cap, rfl, h1, b1⟩
  have H1 := hid h1
  have B1 := hid b1
  clear h1 b1
  go_wp2_with fail
  refine (lv_par1 _ _ _ (HT.out.below (q_alloc B1.out _)) (four_new w1 3 193 0 0 _).has).mono ?_
  rintro e w2 ⟨rfl, b2⟩
  have H2 := hid ((H1.out.below (q_alloc (Below.refl _ _) _)).below b2)
  have B2 := hid (q_trans (q_alloc B1.out _) b2)
  clear b2 H1 B1
  go_wp2_with fail
  have HI := hid (in_new w2 ⟨3, 193, 0, 0, 0, 0, 0, 0⟩ 24)
  have H3 := hid (H2.out.below (q_alloc (Below.refl _ w2) (.cells #[.int .i64 3, .int .u64 193, .int .u64 0, .int .i64 0, .int .i64 0, .int .i64 0, .int .i64 0, .int .i64 0] 24)))
  have B3 := hid (q_alloc B2.out (.cells #[.int .i64 3, .int .u64 193, .int .u64 0, .int .i64 0, .int .i64 0, .int .i64 0, .int .i64 0, .int .i64 0] 24))
  clear H2 B2
  refine (lv_par2 _ _ _ (HT.out.below (q_alloc B3.out _)) ?_).mono ?_
  · have := (four_new (w2.alloc (.cells #[.int .i64 3, .int .u64 193, .int .u64 0, .int .i64 0, .int .i64 0, .int .i64 0, .int .i64 0, .int .i64 0] 24)) 3 0 0 0 22).has
    simpa using this
  rintro e w3 ⟨rfl, b3⟩
  have H4 := hid ((H3.out.below (q_alloc (Below.refl _ _) _)).below b3)
  have B4 := hid (q_trans (q_alloc B3.out _) b3)
  have HI2 := hid ((HI.out.below (q_alloc (Below.refl _ _) _)).below b3)
  clear b3 H3 B3 HI
  go_wp2_with (go_at_call 13; refine (num_any _ _).mono ?_; rintro e w' ⟨rfl, hw⟩; rw [hw]; clear hw w')
  have H5 := hid ((H4.out.below (q_alloc (Below.refl _ w3) (.cells #[.int .i64 0, .int .u64 0, .int .u64 0, .int .i64 0, .int .i64 0, .int .i64 0, .int .i64 0, .int .i64 0] 24))).below (q_alloc (Below.refl _ _) (.cells #[.int .u64 3, .int .u64 193, .int .u64 0, .int .u64 0] 22)))
  have H6 := hid (four_new (w3.alloc (.cells #[.int .i64 0, .int .u64 0, .int .u64 0, .int .i64 0, .int .i64 0, .int .i64 0, .int .i64 0, .int .i64 0] 24)) 3 193 0 0 22).has
  simp only [World.size_alloc] at H6
  have HI3 := hid ((HI2.out.below (q_alloc (Below.refl _ w3) (.cells #[.int .i64 0, .int .u64 0, .int .u64 0, .int .i64 0, .int .i64 0, .int .i64 0, .int .i64 0, .int .i64 0] 24))).below (q_alloc (Below.refl _ _) (.cells #[.int .u64 3, .int .u64 193, .int .u64 0, .int .u64 0] 22)))
  have B5 := hid (q_alloc (q_alloc B4.out (.cells #[.int .i64 0, .int .u64 0, .int .u64 0, .int .i64 0, .int .i64 0, .int .i64 0, .int .i64 0, .int .i64 0] 24)) (.cells #[.int .u64 3, .int .u64 193, .int .u64 0, .int .u64 0] 22))
  refine (words_any _ _ _ _ _ _ [3, 193, 0, 0] [3, 193, 0, 0] _ H5.out H6.out (by omega) (by omega) true (by show decide _ = true; decide)).mono ?_
  rintro e w4 ⟨rfl, b4⟩
  have B6 := hid (q_trans B5.out b4)
  obtain ⟨c0, c1, c2, c3, c4, c5, c6, c7⟩ := HI3.out.below b4
  dsimp only at c0 c1 c2 c3 c4 c5 c6 c7
  have HT4 := hid (HT.out.below B6.out)
  clear b4 H5 H6 HI3 B5 HI2 B4 H4
  go_wp2_with (first | (go_at_call 13; refine (num_any _ _).mono ?_; rintro e w' ⟨rfl, hw⟩; rw [hw]; clear hw w') | (go_at_call 17; first | (refine (lv_name _ HT4.out).mono ?_; rintro e w' ⟨rfl, hw⟩; rw [hw]; clear hw w') | (refine (lv_none _ HT4.out).mono ?_; rintro e w' ⟨rfl, hw⟩; rw [hw]; clear hw w')) | (go_at_call 14; refine (lv_check _).mono ?_; rintro e w5 ⟨rfl, b5⟩))
  go_ret
  exact ⟨rfl, q_trans B6.out b5⟩
end Go.Proofs.YtilannincbcgkaaDoor.Kl
