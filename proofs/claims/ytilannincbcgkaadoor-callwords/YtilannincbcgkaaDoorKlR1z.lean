/- What the document's Is does. -/
import Derived.Test.YtilannincbcgkaaDoorKlW5
namespace Go.Proofs.YtilannincbcgkaaDoor.Kl
open Go.RowKit
open Ad (q_trans q_alloc q_set ret_int ret_bool hid)

theorem eqd (k a b r g t s v k' a' b' r' g' t' s' v' : Int) (q : Bool) (h : (k == k' && (a == a' && (b == b' && (r == r' && (g == g' && (t == t' && (s == s' && v == v'))))))) = q) (w : World) : (Op.equalIn 10000 24 (.agg #[.int .i64 k, .int .u64 a, .int .u64 b, .int .i64 r, .int .i64 g, .int .i64 t, .int .i64 s, .int .i64 v]) (.agg #[.int .i64 k', .int .u64 a', .int .u64 b', .int .i64 r', .int .i64 g', .int .i64 t', .int .i64 s', .int .i64 v'])).run Tryd.prog w = .ok q w :=
  h ▸ eq8 ⟨k, a, b, r, g, t, s, v⟩ ⟨k', a', b', r', g', t', s', v'⟩ w
set_option maxHeartbeats 400000 in
theorem ris2_any (r : Int) (w : World) :
    Calls Tryd.prog 29 #[.int .i64 r] w fun e w' => e = .returned (.bool (Rt.isR r)) ∧ w' = w := by
  by_cases h1 : 0 ≤ r
  · by_cases h2 : r ≤ 15
    · have H : Hid (Rt.isR r = true) := Rt.isR_iff.2 ⟨h1, h2⟩
      go_enter Tryd.func29, Tryd.ntmps29
      go_wp2
      go_ret
      exact ⟨ret_bool H.out.symm, rfl⟩
    · have H : Hid (Rt.isR r = false) := Rt.isR_not.2 (by omega)
      go_enter Tryd.func29, Tryd.ntmps29
      go_wp2
      go_ret
      exact ⟨ret_bool H.out.symm, rfl⟩
  · have H : Hid (Rt.isR r = false) := Rt.isR_not.2 (by omega)
    go_enter Tryd.func29, Tryd.ntmps29
    go_wp2
    go_ret
    exact ⟨ret_bool H.out.symm, rfl⟩
abbrev S3 (n : Nat) (i j k : Nat) (x y z : Value) (w : World) : Prop := w.cell? ⟨n, i, none⟩ = some x ∧ w.cell? ⟨n, j, none⟩ = some y ∧ w.cell? ⟨n, k, none⟩ = some z
theorem s3_drew {n i j k : Nat} {x y z : Value} {w : World} (h : S3 n i j k x y z w) : S3 n i j k x y z w.drew := h
theorem s3_set {n i j k b m : Nat} {x y z v : Value} {w : World} (h : S3 n i j k x y z w) (h1 : n ≠ b) : S3 n i j k x y z (w.setCell ⟨b, m, none⟩ v) :=
  ⟨cell_far (p := ⟨n, i, none⟩) h.1 h1, cell_far (p := ⟨n, j, none⟩) h.2.1 h1, cell_far (p := ⟨n, k, none⟩) h.2.2 h1⟩
theorem In.far {w : World} {b b' k : Nat} {c : C} {v : Value} (h : In w b c) (hne : b ≠ b') : In (w.setCell ⟨b', k, none⟩ v) b c := by
  obtain ⟨h0, h1, h2, h3, h4, h5, h6, h7⟩ := h
  exact ⟨cell_far h0 hne, cell_far h1 hne, cell_far h2 hne, cell_far h3 hne, cell_far h4 hne, cell_far h5 hne, cell_far h6 hne, cell_far h7 hne⟩
theorem own_mint {w : World} {n : Nat} {c : C} (h : Own w n c) (b r g : Int) : Own (((w.setCell ⟨n, 2, none⟩ (.int .u64 b)).setCell ⟨n, 3, none⟩ (.int .i64 r)).setCell ⟨n, 4, none⟩ (.int .i64 g)) n ⟨c.k, c.a, b, r, g, c.t, c.s, c.v⟩ := by
  obtain ⟨⟨h0, h1, h2, h3, h4, h5, h6, h7⟩, f⟩ := h
  exact ⟨⟨cell_set (cell_set (cell_set h0)), cell_set (cell_set (cell_set h1)), cell_set (cell_set (cell_set h2)), cell_set (cell_set (cell_set h3)), cell_set (cell_set (cell_set h4)), cell_set (cell_set (cell_set h5)), cell_set (cell_set (cell_set h6)), cell_set (cell_set (cell_set h7))⟩, fun j => by simpa using f j⟩
theorem own_rety {w : World} {n : Nat} {c : C} (h : Own w n c) (b t s : Int) : Own (((w.setCell ⟨n, 2, none⟩ (.int .u64 b)).setCell ⟨n, 5, none⟩ (.int .i64 t)).setCell ⟨n, 6, none⟩ (.int .i64 s)) n ⟨c.k, c.a, b, c.r, c.g, t, s, c.v⟩ := by
  obtain ⟨⟨h0, h1, h2, h3, h4, h5, h6, h7⟩, f⟩ := h
  exact ⟨⟨cell_set (cell_set (cell_set h0)), cell_set (cell_set (cell_set h1)), cell_set (cell_set (cell_set h2)), cell_set (cell_set (cell_set h3)), cell_set (cell_set (cell_set h4)), cell_set (cell_set (cell_set h5)), cell_set (cell_set (cell_set h6)), cell_set (cell_set (cell_set h7))⟩, fun j => by simpa using f j⟩
theorem own_send {w : World} {n : Nat} {c : C} (h : Own w n c) (v b : Int) : Own ((w.setCell ⟨n, 7, none⟩ (.int .i64 v)).setCell ⟨n, 2, none⟩ (.int .u64 b)) n ⟨c.k, c.a, b, c.r, c.g, c.t, c.s, v⟩ := by
  obtain ⟨⟨h0, h1, h2, h3, h4, h5, h6, h7⟩, f⟩ := h
  exact ⟨⟨cell_set (cell_set h0), cell_set (cell_set h1), cell_set (cell_set h2), cell_set (cell_set h3), cell_set (cell_set h4), cell_set (cell_set h5), cell_set (cell_set h6), cell_set (cell_set h7)⟩, fun j => by simpa using f j⟩
end Go.Proofs.YtilannincbcgkaaDoor.Kl
