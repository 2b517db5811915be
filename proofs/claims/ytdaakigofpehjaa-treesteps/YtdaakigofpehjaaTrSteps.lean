/- TreeSteps. -/
import Derived.Test.YtdaakigofpehjaaTrLive
namespace Go.Proofs.Ytdaakigofpehjaa.Tr
open Go.RowKit

set_option maxHeartbeats 800000 in
theorem steps_long (ao bo : Option Addr) (n m cap cap' : Nat) (z : Ac) (w : World) (h : 60 < n ∨ 60 < m) :
    Calls Try.prog 3 #[.slice ao n cap, .slice bo m cap', (.agg #[.int .i64 z.kind, .int .i64 z.a.1, .int .i64 z.a.2, .int .i64 z.b.1, .int .i64 z.b.2, .bool z.on])] w fun e w' => e = .returned (.bool true) ∧ Below w.heap.size w w' := by
  have B0 := hid (alloc_below w (.cells #[.int .i64 z.kind, .int .i64 z.a.1, .int .i64 z.a.2, .int .i64 z.b.1, .int .i64 z.b.2, .bool z.on] 26))
  rcases Nat.lt_or_ge 60 n with q | q
  · have i1 : (n : Int) > 60 := by omega
    clear h q
    go_enter Try.func3, Try.ntmps3
    go_wp2_with (go_at_call 9; refine (live_any _).mono ?_; rintro e w2 ⟨rfl, b⟩)
    go_ret
    exact ⟨rfl, q_trans B0.out b⟩
  · have i1 : ¬ (n : Int) > 60 := by omega
    have i2 : (m : Int) > 60 := by omega
    clear h q
    go_enter Try.func3, Try.ntmps3
    go_wp2_with (go_at_call 9; refine (live_any _).mono ?_; rintro e w2 ⟨rfl, b⟩)
    go_ret
    exact ⟨rfl, q_trans B0.out b⟩
theorem AtC.lt {w : World} {a : Addr} {z : Ac} (h : AtC w a z) : a.block < w.heap.size := World.block_lt_of_cell? w _ h.c0
theorem AtC.below {w w' : World} {a : Addr} {z : Ac} (h : AtC w a z) (hb : Below w.heap.size w w') : AtC w' a z :=
  ⟨(hb.cell h.lt).trans h.c0, (hb.cell (p := ⟨a.block, a.off + 1, none⟩) h.lt).trans h.c1, (hb.cell (p := ⟨a.block, a.off + 2, none⟩) h.lt).trans h.c2, (hb.cell (p := ⟨a.block, a.off + 3, none⟩) h.lt).trans h.c3, (hb.cell (p := ⟨a.block, a.off + 4, none⟩) h.lt).trans h.c4, (hb.cell (p := ⟨a.block, a.off + 5, none⟩) h.lt).trans h.c5⟩
theorem do_len (t : List Br) (z : Ac) : (doA t z).length ≤ t.length + 1 := by
  unfold doA
  split
  · unfold roA; split <;> simp
  · split
    · unfold inA; split
      · rw [ins_len]; exact Nat.le_refl _
      · omega
    · split
      · unfold reA; split
        · simp [del]; omega
        · omega
      · split
        · unfold moA; split <;> simp
        · unfold maA; split <;> simp
set_option maxRecDepth 100000 in
set_option maxHeartbeats 4000000 in
theorem steps_in (ao bo : Option Addr) (n m cap cap' : Nat) (t u : List Br) (z : Ac) (w : World) (hn : n ≤ 60) (hm : m ≤ 60) (X : Int) (I Y : Bool) (HC : Hid (ckE t = X)) (HI : Hid (isB t = I)) (hX : ((X == 0) == I) = true) (HT : Hid (HasB w ao n cap t)) (HU : Hid (HasB w bo m cap' u)) (HY : Hid (decide (t = u) = Y)) :
    Calls Try.prog 3 #[.slice ao n cap, .slice bo m cap', (.agg #[.int .i64 z.kind, .int .i64 z.a.1, .int .i64 z.a.2, .int .i64 z.b.1, .int .i64 z.b.2, .bool z.on])] w fun e w' => e = .returned (.bool true) ∧ Below w.heap.size w w' := by
  have B0 := hid (alloc_below w (.cells #[.int .i64 z.kind, .int .i64 z.a.1, .int .i64 z.a.2, .int .i64 z.b.1, .int .i64 z.b.2, .bool z.on] 26))
  have A0 := hid (atC_new w z 26)
  have i1 : ¬ (n : Int) > 60 := by omega
  have i2 : ¬ (m : Int) > 60 := by omega
  have H0 := hid (HT.out.below B0.out)
  have HLn : Hid ((brs t).length = n * 4) := by unfold Hid; rw [len_brs, ← HT.out.len]
  have HOw : Hid (((w.alloc (.cells #[.int .i64 z.kind, .int .i64 z.a.1, .int .i64 z.a.2, .int .i64 z.b.1, .int .i64 z.b.2, .bool z.on] 26)).alloc (.cells #[] 55)).ownsRow (w.heap.size + 1) 55 4 (.slice (some ⟨w.heap.size + 1, 0, none⟩) 0 0) 0 []) := by
    have h := own0 (w.alloc (.cells #[.int .i64 z.kind, .int .i64 z.a.1, .int .i64 z.a.2, .int .i64 z.b.1, .int .i64 z.b.2, .bool z.on] 26)) 55 4
    rwa [World.size_alloc] at h
  have HSz : Hid (w.heap.size + 1 ≤ ((w.alloc (.cells #[.int .i64 z.kind, .int .i64 z.a.1, .int .i64 z.a.2, .int .i64 z.b.1, .int .i64 z.b.2, .bool z.on] 26)).alloc (.cells #[] 55)).heap.size) := by unfold Hid; simp
  go_enter Try.func3, Try.ntmps3
  go_wp2_with (at_builtin; go_loud (refine wpList_append_row _ rfl (.tmp 21) (.tmp 22) 22 55 _ 4 32 rfl Try.underlying22 infoB rfl (by decide) (by decide) (w.heap.size + 1) _ 0 [] rfl HOw.out ao n cap (brs t) rfl HLn.out (fun h => H0.out.nil h) (H0.out.row.below (alloc_below (w.alloc (.cells #[.int .i64 z.kind, .int .i64 z.a.1, .int .i64 z.a.2, .int .i64 z.b.1, .int .i64 z.b.2, .bool z.on] 26)) _)) (brs_one t) (by omega) HSz.out ?_; intro go gc w1 own1 grow1; rw [Nat.zero_add, List.nil_append] at own1; rw [Nat.zero_add]; apply Hid.out))
  have G1 := hid (own_hasB own1 HT.out.len)
  have bv : Below (w.alloc (.cells #[.int .i64 z.kind, .int .i64 z.a.1, .int .i64 z.a.2, .int .i64 z.b.1, .int .i64 z.b.2, .bool z.on] 26)).heap.size (w.alloc (.cells #[.int .i64 z.kind, .int .i64 z.a.1, .int .i64 z.a.2, .int .i64 z.b.1, .int .i64 z.b.2, .bool z.on] 26)) w1 := (alloc_below (w.alloc (.cells #[.int .i64 z.kind, .int .i64 z.a.1, .int .i64 z.a.2, .int .i64 z.b.1, .int .i64 z.b.2, .bool z.on] 26)) _).grown grow1 (alloc_below _ _).size (fun k e => by cases e; simp)
  have B1 := hid (q_trans B0.out bv)
  have A1 := hid (A0.out.below bv)
  clear own1 grow1 bv B0 A0 H0
  obtain ⟨a0, a1, a2, a3, a4, a5⟩ := A1.out
  unfold Hid
  go_wp2_with fail
  refine (does_any go n gc t z w1 (by omega) G1).mono ?_
  rintro e w2 ⟨xo, xn, xc, rfl, h, b⟩
  have X2 := hid h
  have G2 := hid (G1.out.below b)
  have B2 := hid (q_trans B1.out b)
  have A2 := hid (A1.out.below b)
  clear h b G1 B1 A1 a0 a1 a2 a3 a4 a5
  obtain ⟨a0, a1, a2, a3, a4, a5⟩ := A2.out
  go_wp2_with fail
  refine (model_any ao n cap t z w2 (by omega) (HT.out.below B2.out)).mono ?_
  rintro e w3 ⟨yo, yn, yc, rfl, h, b⟩
  have Y3 := hid h
  have X3 := hid (X2.out.below b)
  have G3 := hid (G2.out.below b)
  have B3 := hid (q_trans B2.out b)
  clear h b G2 B2 A2 X2 a0 a1 a2 a3 a4 a5
  have HXn : Hid (xn ≤ 1000) := by have h1 := X3.out.len; have h2 := do_len t z; have h3 := HT.out.len; unfold Hid; omega
  generalize doE t z = de
  go_wp2_with fail
  refine (bsame_yes (by have := HXn.out; omega) X3.out Y3.out).mono ?_
  rintro e w4 ⟨rfl, b⟩
  have G4 := hid (G3.out.below b)
  have B4 := hid (q_trans B3.out b)
  clear b G3 B3 X3 Y3
  have hde : (de == de) = true := by simp
  go_wp2_with fail
  refine (ck_at X (HT.out.below B4.out) HC.out).mono ?_
  rintro e w5 ⟨rfl, b⟩
  have G5 := hid (G4.out.below b)
  have B5 := hid (q_trans B4.out b)
  clear b G4 B4
  go_wp2_with (go_at_call 13; refine (num_any _ _).mono ?_; rintro e wq ⟨rfl, hq⟩; rw [hq]; clear hq wq)
  refine (ris_any ao n cap t w5 (HT.out.below B5.out)).mono ?_
  rintro e w6 ⟨rfl, b⟩
  rw [HI.out]
  have G6 := hid (G5.out.below b)
  have B6 := hid (q_trans B5.out b)
  clear b G5 B5
  go_wp2_with fail
  refine (sm_at Y (by omega) (HT.out.below B6.out) (HU.out.below B6.out) HY.out).mono ?_
  rintro e w7 ⟨rfl, b⟩
  have G7 := hid (G6.out.below b)
  have B7 := hid (q_trans B6.out b)
  clear b G6 B6
  go_wp2_with fail
  refine (bsame_any ao bo n m cap cap' t u w7 (by omega) (HT.out.below B7.out) (HU.out.below B7.out)).mono ?_
  rintro e w8 ⟨rfl, b⟩
  rw [HY.out]
  have G8 := hid (G7.out.below b)
  have B8 := hid (q_trans B7.out b)
  clear b G7 B7
  have hYY : (Y == Y) = true := by simp
  go_wp2_with fail
  refine (bsame_yes (by omega) G8.out (HT.out.below B8.out)).mono ?_
  rintro e w9 ⟨rfl, b⟩
  have B9 := hid (q_trans B8.out b)
  clear b G8 B8
  go_wp2_with fail
  refine (live_any w9).mono ?_
  rintro e wz ⟨rfl, b⟩
  have BZ := hid (q_trans B9.out b)
  clear b B9
  go_wp2_with fail
  go_ret
  exact ⟨rfl, BZ.out⟩
/-- TREESTEPS. -/
theorem steps_any (ao : Option Addr) (n cap : Nat) (t : List Br) (bo : Option Addr) (m cap' : Nat) (u : List Br) (z : Ac) (w : World) (HT : HasB w ao n cap t) (HU : HasB w bo m cap' u) :
    Calls Try.prog 3 #[.slice ao n cap, .slice bo m cap', (.agg #[.int .i64 z.kind, .int .i64 z.a.1, .int .i64 z.a.2, .int .i64 z.b.1, .int .i64 z.b.2, .bool z.on])] w fun e w' => e = .returned (.bool true) ∧ Below w.heap.size w w' := by
  by_cases h : 60 < n ∨ 60 < m
  · exact steps_long ao bo n m cap cap' z w h
  · rcases Bool.eq_false_or_eq_true (isB t) with q | q
    · exact steps_in ao bo n m cap cap' t u z w (by omega) (by omega) 0 true _ (ck_yes (isB_iff.1 q)) q rfl HT HU rfl
    · exact steps_in ao bo n m cap cap' t u z w (by omega) (by omega) 2 false _ (ck_no (isB_not.1 q)) q rfl HT HU rfl
end Go.Proofs.Ytdaakigofpehjaa.Tr
