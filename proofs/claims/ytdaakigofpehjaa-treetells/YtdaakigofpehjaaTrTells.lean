/- TreeTells. -/
import Derived.Test.YtdaakigofpehjaaTrLive
namespace Go.Proofs.Ytdaakigofpehjaa.Tr
open Go.RowKit

/-- Four keys' boxes. -/
abbrev S4 (c : Nat) (x : P) (d : Nat) (y : P) (p : Nat) (u : P) (q : Nat) (w : World) : Prop := w.cell? ⟨c, 0, none⟩ = some (.int .i64 x.1) ∧ w.cell? ⟨c, 1, none⟩ = some (.int .i64 x.2) ∧ w.cell? ⟨d, 0, none⟩ = some (.int .i64 y.1) ∧ w.cell? ⟨d, 1, none⟩ = some (.int .i64 y.2) ∧ w.cell? ⟨p, 0, none⟩ = some (.int .i64 u.1) ∧ w.cell? ⟨p, 1, none⟩ = some (.int .i64 u.2) ∧ w.cell? ⟨q, 0, none⟩ = some (.int .i64 u.1) ∧ w.cell? ⟨q, 1, none⟩ = some (.int .i64 u.2)
theorem s4_keep {c d p q : Nat} {x y u : P} {w w' : World} (h : S4 c x d y p u q w) (b : Below w.heap.size w w') : S4 c x d y p u q w' := by
  obtain ⟨h0, h1, h2, h3, h4, h5, h6, h7⟩ := h
  exact ⟨(b.cell (World.block_lt_of_cell? w _ h0)).trans h0, (b.cell (World.block_lt_of_cell? w _ h1)).trans h1, (b.cell (World.block_lt_of_cell? w _ h2)).trans h2, (b.cell (World.block_lt_of_cell? w _ h3)).trans h3, (b.cell (World.block_lt_of_cell? w _ h4)).trans h4, (b.cell (World.block_lt_of_cell? w _ h5)).trans h5, (b.cell (World.block_lt_of_cell? w _ h6)).trans h6, (b.cell (World.block_lt_of_cell? w _ h7)).trans h7⟩
theorem s4_drew {c d p q : Nat} {x y u : P} {w : World} (h : S4 c x d y p u q w) : S4 c x d y p u q w.drew := h
set_option maxHeartbeats 800000 in
theorem tells_long (ao : Option Addr) (n cap : Nat) (a b : P) (w : World) (h : 60 < n) :
    Calls Try.prog 4 #[.slice ao n cap, (.agg #[.int .i64 a.1, .int .i64 a.2]), (.agg #[.int .i64 b.1, .int .i64 b.2])] w fun e w' => e = .returned (.bool true) ∧ Below w.heap.size w w' := by
  have B0 := hid (q_alloc (alloc_below w (.cells #[.int .i64 a.1, .int .i64 a.2] 24)) (.cells #[.int .i64 b.1, .int .i64 b.2] 24))
  have i1 : (n : Int) > 60 := by omega
  clear h
  go_enter Try.func4, Try.ntmps4
  go_wp2_with (go_at_call 9; refine (live_any _).mono ?_; rintro e w2 ⟨rfl, b⟩)
  go_ret
  exact ⟨rfl, q_trans B0.out b⟩
set_option maxRecDepth 100000 in
set_option maxHeartbeats 8000000 in
theorem tells_in (ao : Option Addr) (n cap : Nat) (t : List Br) (a b : P) (w : World) (hn : n ≤ 60) (HT : Hid (HasB w ao n cap t)) :
    Calls Try.prog 4 #[.slice ao n cap, (.agg #[.int .i64 a.1, .int .i64 a.2]), (.agg #[.int .i64 b.1, .int .i64 b.2])] w fun e w' => e = .returned (.bool true) ∧ Below w.heap.size w w' := by
  have i1 : ¬ (n : Int) > 60 := by omega
  go_enter Try.func4, Try.ntmps4
  go_wp2_with fail
  have B0 := hid (q_alloc (alloc_below w (.cells #[.int .i64 a.1, .int .i64 a.2] 24)) (.cells #[.int .i64 b.1, .int .i64 b.2] 24))
  have S0 := hid (sk_new w a b 24)
  generalize (w.alloc (.cells #[.int .i64 a.1, .int .i64 a.2] 24)).alloc (.cells #[.int .i64 b.1, .int .i64 b.2] 24) = W at B0 S0 ⊢
  refine (find_any ao n cap t a W (by omega) (HT.out.below B0.out)).mono ?_
  rintro e w1 ⟨rfl, b1⟩
  have B1 := hid (q_trans B0.out b1)
  have S1 := hid (sk_keep S0.out b1)
  clear b1 B0 S0
  obtain ⟨s0, s1, s2, s3⟩ := S1.out
  go_wp2_with fail
  refine (rfind_any ao n cap t a w1 (by omega) (HT.out.below B1.out)).mono ?_
  rintro e w2 ⟨rfl, b1⟩
  have B2 := hid (q_trans B1.out b1)
  have S2 := hid (sk_keep S1.out b1)
  clear b1 B1 S1 s0 s1 s2 s3
  obtain ⟨s0, s1, s2, s3⟩ := S2.out
  go_wp2_with fail
  refine (parent_any ao n cap t a w2 (by omega) (HT.out.below B2.out)).mono ?_
  rintro e w3 ⟨rfl, b1⟩
  obtain ⟨x, hx⟩ : ∃ x, prK t a = x := ⟨_, rfl⟩
  have HX := hid hx
  rw [hx]
  have B3 := hid (q_alloc (q_trans B2.out b1) (.cells #[.int .i64 x.1, .int .i64 x.2] 24))
  have S3 := hid (sk_keep (sk_keep S2.out b1) (alloc_below w3 (.cells #[.int .i64 x.1, .int .i64 x.2] 24)))
  have P3 := hid (at_new w3 x 24)
  clear b1 B2 S2 s0 s1 s2 s3 hx
  obtain ⟨s0, s1, s2, s3⟩ := S3.out
  go_wp2_with fail
  generalize w3.heap.size = pb at P3 ⊢
  generalize w3.alloc (.cells #[.int .i64 x.1, .int .i64 x.2] 24) = W3 at B3 S3 P3 ⊢
  refine (rpa_any ao n cap t a W3 (by omega) (HT.out.below B3.out)).mono ?_
  rintro e w4 ⟨rfl, b1⟩
  rw [HX.out]
  have B4 := hid (q_alloc (q_trans B3.out b1) (.cells #[.int .i64 x.1, .int .i64 x.2] 24))
  have S4' := hid (sk_keep (sk_keep S3.out b1) (alloc_below w4 (.cells #[.int .i64 x.1, .int .i64 x.2] 24)))
  have P4 := hid ((P3.out.below b1).below (alloc_below w4 (.cells #[.int .i64 x.1, .int .i64 x.2] 24)))
  have Q4 := hid (at_new w4 x 24)
  clear b1 B3 S3 P3 s0 s1 s2 s3
  go_wp2_with fail
  generalize w4.heap.size = qb at Q4 ⊢
  generalize w4.alloc (.cells #[.int .i64 x.1, .int .i64 x.2] 24) = W4 at B4 S4' P4 Q4 ⊢
  have hS : S4 w.heap.size a (w.heap.size + 1) b pb x qb W4 := ⟨S4'.out.1, S4'.out.2.1, S4'.out.2.2.1, S4'.out.2.2.2, P4.out.c0, P4.out.c1, Q4.out.c0, Q4.out.c1⟩
  clear S4' P4 Q4 HX
  generalize plc t a = pl0
  generalize hasK t a = hk0
  generalize prB t a = pr0
  obtain ⟨ds, hds⟩ : ∃ d, dsB t a b = d := ⟨_, rfl⟩
  have HD := hid hds
  clear hds
  have HTW := hid (HT.out.below B4.out)
  have HL : Hid (∀ xo xn xc V, HasP V xo xn xc (blL t a) → xn ≤ 9223372036854775806) := fun xo xn xc V h => by
    have h1 := h.len
    have h2 := HT.out.len
    have h3 : (blL t a).length ≤ t.length := by
      unfold blL
      split
      · exact Nat.zero_le _
      · simp; omega
    omega
  have ee : ∀ w : World, (Op.equalIn 10000 24 (.agg #[.int .i64 x.1, .int .i64 x.2]) (.agg #[.int .i64 x.1, .int .i64 x.2])).run Try.prog w = .ok true w := eqk_yes rfl
  have BC : Hid (Below W4.heap.size W4 W4) := Below.refl _ _
  go_region_held3 (S4 w.heap.size a (w.heap.size + 1) b pb x qb) (first | with_reducible assumption | with_reducible exact s4_drew hS | with_reducible exact HSc.out | with_reducible exact s4_drew HSc.out)
    (first
      | (go_at_call 22; refine (bl_any ao n cap t a _ (by omega) (by first | exact HTW.out.below BC.out | exact HTW.out.below BC.out.drew)).mono ?_; rintro e v ⟨ko, kn, kc, rfl, hk, b1⟩; have HK := hid hk; clear hk; have BN : Hid (Below W4.heap.size W4 v) := (by first | exact q_trans BC.out b1 | exact q_trans BC.out.drew b1); clear BC; have BC := BN; clear BN; have HSc : Hid (S4 w.heap.size a (w.heap.size + 1) b pb x qb v) := s4_keep hS BC.out; clear b1)
      | (go_at_call 23; refine (rbl_any ao n cap t a _ (by omega) (by first | exact HTW.out.below BC.out | exact HTW.out.below BC.out.drew)).mono ?_; rintro e v ⟨mo, mn, mc, rfl, hk, b1⟩; have HM := hid hk; clear hk; have HK2 := hid (HK.out.below (by first | exact b1 | exact q_trans (Below.refl _ _).drew b1)); clear HK; have HK := HK2; clear HK2; have BN : Hid (Below W4.heap.size W4 v) := (by first | exact q_trans BC.out b1 | exact q_trans BC.out.drew b1); clear BC; have BC := BN; clear BN; have HSc : Hid (S4 w.heap.size a (w.heap.size + 1) b pb x qb v) := s4_keep hS BC.out; clear b1)
      | (go_at_call 21; refine (ksame_yes (HL.out _ _ _ _ HK.out) (by first | exact HK.out | exact HK.out.below (Below.refl _ _).drew) (by first | exact HM.out | exact HM.out.below (Below.refl _ _).drew)).mono ?_; rintro e v ⟨rfl, b1⟩; have BN : Hid (Below W4.heap.size W4 v) := (by first | exact q_trans BC.out b1 | exact q_trans BC.out.drew b1); clear BC HK HM; have BC := BN; clear BN; have HSc : Hid (S4 w.heap.size a (w.heap.size + 1) b pb x qb v) := s4_keep hS BC.out; clear b1)
      | (go_at_call 24; refine (ds_at (a := a) (b := b) ds (by omega) (by first | exact HTW.out.below BC.out | exact HTW.out.below BC.out.drew) HD.out).mono ?_; rintro e v ⟨rfl, b1⟩; have BN : Hid (Below W4.heap.size W4 v) := (by first | exact q_trans BC.out b1 | exact q_trans BC.out.drew b1); clear BC; have BC := BN; clear BN; have HSc : Hid (S4 w.heap.size a (w.heap.size + 1) b pb x qb v) := s4_keep hS BC.out; clear b1)
      | (go_at_call 25; refine (rds_any ao n cap t a b _ (by omega) (by first | exact HTW.out.below BC.out | exact HTW.out.below BC.out.drew)).mono ?_; rintro e v ⟨rfl, b1⟩; rw [HD.out]; have BN : Hid (Below W4.heap.size W4 v) := (by first | exact q_trans BC.out b1 | exact q_trans BC.out.drew b1); clear BC; have BC := BN; clear BN; have HSc : Hid (S4 w.heap.size a (w.heap.size + 1) b pb x qb v) := s4_keep hS BC.out; clear b1)
      | (go_at_call 9; refine (live_any _).mono ?_; rintro e v ⟨rfl, b1⟩; have BN : Hid (Below W4.heap.size W4 v) := (by first | exact q_trans BC.out b1 | exact q_trans BC.out.drew b1); clear BC; have BC := BN; clear BN; have HSc : Hid (S4 w.heap.size a (w.heap.size + 1) b pb x qb v) := s4_keep hS BC.out; clear b1)
      | fail)
  all_goals
    have BZ := hid (q_trans B4.out BC.out)
    go_wp2_with fail
    go_ret
    exact ⟨rfl, by first | exact BZ.out | exact BZ.out.drew⟩
/-- TREETELLS. -/
theorem tells_any (ao : Option Addr) (n cap : Nat) (t : List Br) (a b : P) (w : World) (HT : HasB w ao n cap t) :
    Calls Try.prog 4 #[.slice ao n cap, (.agg #[.int .i64 a.1, .int .i64 a.2]), (.agg #[.int .i64 b.1, .int .i64 b.2])] w fun e w' => e = .returned (.bool true) ∧ Below w.heap.size w w' := by
  rcases Nat.lt_or_ge 60 n with q | q
  · exact tells_long ao n cap a b w q
  · exact tells_in ao n cap t a b w q HT
end Go.Proofs.Ytdaakigofpehjaa.Tr
