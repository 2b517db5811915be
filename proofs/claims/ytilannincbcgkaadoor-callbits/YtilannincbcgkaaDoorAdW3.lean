/- What the program's Parse does. -/
import Derived.Test.YtilannincbcgkaaDoorAdW2
import Derived.Test.YtilannincbcgkaaDoorAdMake
namespace Go.Proofs.YtilannincbcgkaaDoor.Ad
open Go.RowKit

/-- One field got: as the walk meets it. -/
theorem get_at (x a : Nat) (w : World) (hx : x < 18446744073709551616) (ha : a ≤ 60) (b : Int) (hb : b = a) :
    Calls Tryd.prog 22 #[.int .u64 (x : Nat), .int .i64 b, .int .i64 3] w fun e w' => e = .returned (.int .u64 (getN x a 3 : Nat)) ∧ w' = w := by
  subst hb
  exact get_yes x a 3 w hx (by omega) (by omega)
/-- The first k steps are read, the others are not. -/
def fil (x n k : Nat) : List P := dec k (x / 8) ++ List.replicate (n - k) (0, 0)
theorem fil_len {x n k : Nat} (h : k ≤ n) : (fil x n k).length = n := by simp [fil, dec_len]; omega
theorem fil_set {x n k : Nat} (h : k < n) : (fil x n k).set k ((getN x (3 + 6 * k) 3 : Int), (getN x (6 + 6 * k) 3 : Int)) = fil x n (k + 1) := by
  unfold fil
  rw [par_more, List.set_append_right _ _ (by rw [dec_len]; exact Nat.le_refl _), dec_len, Nat.sub_self, show n - k = n - (k + 1) + 1 by omega, List.replicate_succ]
  simp
theorem fil_all {x n : Nat} : fil x n n = dec n (x / 8) := by simp [fil]
theorem par_legs (x : Nat) : (parB x = true ∧ parL x = dec (x % 8) (x / 8) ∧ putA (dec (x % 8) (x / 8)) = x ∧ chkA (dec (x % 8) (x / 8)) = 0) ∨ (parB x = false ∧ chkA (dec (x % 8) (x / 8)) = 120) ∨ (parB x = false ∧ chkA (dec (x % 8) (x / 8)) = 0 ∧ ((putA (dec (x % 8) (x / 8)) : Int) != (x : Int)) = true) := by
  rcases Nat.lt_or_ge 4 (x % 8) with h4 | h4
  · right; left
    refine ⟨?_, by simp [chkA, okA_len (l := dec (x % 8) (x / 8)) (by rw [dec_len]; omega)]⟩
    cases hb : parB x with
    | false => rfl
    | true =>
      simp only [parB, Bool.and_eq_true, beq_iff_eq] at hb
      have h1 := wrd_enc hb.1
      have h2 : (parL x).length = 4 := by unfold parL; rw [dec_len]; omega
      rw [hb.2, h2] at h1
      omega
  · have e : parL x = dec (x % 8) (x / 8) := by unfold parL; rw [Nat.min_eq_left h4]
    rw [← e]
    cases hb : parB x with
    | true => exact .inl ⟨rfl, rfl, (par_ok hb).1, (par_ok hb).2⟩
    | false =>
      rcases par_bad hb with h | h
      · exact .inr (.inl ⟨rfl, h⟩)
      · exact .inr (.inr ⟨rfl, h⟩)
set_option maxRecDepth 100000 in
set_option maxHeartbeats 1000000 in
theorem pParse_any (x : Nat) (w : World) (hx : x < 18446744073709551616) :
    Calls Tryd.prog 35 #[.int .u64 (x : Nat)] w fun e w' => ∃ ao n cap, e = .returned (.tuple #[.slice ao n cap, .int .i64 (parE x)]) ∧ HasP w' ao n cap (parA x) ∧ Below w.heap.size w w' := by
  have HX := hid hx
  go_enter Tryd.func35, Tryd.ntmps35
  go_wp2_with fail
  refine (get_at x 0 _ HX.out (by omega) 0 rfl).mono ?_
  rintro e w1 ⟨rfl, hw⟩
  rw [hw]; clear hw w1
  have HG : Hid (getN x 0 3 = x % 8) := by unfold Hid getN; simp
  rw [HG.out]
  obtain ⟨n, hn⟩ : ∃ n, x % 8 = n := ⟨_, rfl⟩
  have HN := hid hn
  have hn7 : n ≤ 7 := by omega
  rw [hn]
  obtain ⟨C, hC, mk⟩ := make_steps n hn7
  have HC := hid hC
  clear hn HG hC
  go_wp2_with fail
  go_loopw [13] (fun i wr => ∃ k : Nat, k ≤ n ∧ i = .int .i64 k ∧ Hid (wr.ownsRow w.heap.size 70 2 (.slice (some ⟨w.heap.size, 0, none⟩) n n) n (prs (fil x n k))) ∧ Hid (Below w.heap.size w wr)) (fun i _ => n - (intOf i).toNat)
  case atStart =>
    refine ⟨0, Nat.zero_le _, rfl, own_made (by omega) (Nat.le_refl _) (by rw [HC.out]; simp [fil, dec]) (by rw [len_prs, fil_len (Nat.zero_le _)]) (last_block _ _), alloc_below _ _⟩
  case round =>
    obtain ⟨k, hk, rfl, HO, HB⟩ := hrel
    clear mk
    by_cases hlt : k < n
    · have i1 : (0 : Int) ≤ (k : Int) := by omega
      have i2 : (k : Int) < (n : Int) := by omega
      have lg := get_le x (3 + 6 * k)
      have lj := get_le x (6 + 6 * k)
      have f0 : ∀ j, wr.frozen? ⟨w.heap.size, j, none⟩ = false := fun j => own_frozen HO.out
      have c0 := own_cell HO.out (prs_at (fil x n k) k 0 (by omega) (by rw [fil_len hk]; exact hlt))
      have c1 := own_cell HO.out (prs_at (fil x n k) k 1 (by omega) (by rw [fil_len hk]; exact hlt))
      simp only [Nat.add_zero] at c0
      have HF := hid (fil_set (x := x) hlt)
      go_wp2_with fail
      refine (guardAt_at k (by omega) _).mono ?_
      rintro e w1 ⟨rfl, hw⟩
      rw [hw]; clear hw w1
      go_wp2_with fail
      refine (get_at x (3 + 6 * k) _ HX.out (by omega) _ rfl).mono ?_
      rintro e w1 ⟨rfl, hw⟩
      rw [hw]; clear hw w1
      generalize getN x (3 + 6 * k) 3 = g at lg HF ⊢
      go_wp2_with fail
      refine (indexAt_at k (by omega) _).mono ?_
      rintro e w1 ⟨rfl, hw⟩
      rw [hw]; clear hw w1
      go_wp2_with fail
      refine (get_at x (6 + 6 * k) _ HX.out (by omega) _ rfl).mono ?_
      rintro e w1 ⟨rfl, hw⟩
      rw [hw]; clear hw w1
      generalize getN x (6 + 6 * k) 3 = h at lj HF ⊢
      go_wp2_with fail
      refine ⟨⟨k + 1, by omega, rfl, ?_, q_set (q_set HB.out (Nat.le_refl _) _) (Nat.le_refl _) _⟩, by simp [intOf]; omega⟩
      rw [← HF.out, ← set_prs]
      exact own_setS _ (own_setS _ HO.out)
    · obtain rfl : k = n := by omega
      have HL : Hid (HasP wr (some ⟨w.heap.size, 0, none⟩) k k (dec k (x / 8))) := by
        have := HO.out
        rw [fil_all] at this
        exact own_hasP this (dec_len _ _).symm
      have HPt : Hid (Calls Tryd.prog 40 #[.slice (some ⟨w.heap.size, 0, none⟩) k k] wr fun e w' => e = .returned (.tuple #[.int .u64 (putA (dec k (x / 8)) : Nat), .int .i64 (chkA (dec k (x / 8)))]) ∧ Below wr.heap.size wr w') := pPut_any _ _ _ _ _ HL.out
      have hL := par_legs x
      rw [HN.out] at hL
      go_wp2_with fail
      refine HPt.out.mono ?_
      rintro e w2 ⟨rfl, b2⟩
      have HL2 := hid (HL.out.below b2)
      have HB2 := hid (q_trans HB.out b2)
      clear HPt HL HO HB b2
      rcases hL with ⟨hb, e1, e2, e3⟩ | ⟨hb, e3⟩ | ⟨hb, e3, e2⟩
      · have HY := hid (par_yes hb)
        have HE := hid e1
        rw [e2, e3]
        clear e1 e2 e3 hb
        go_wp2_with fail
        refine bodyPost_ret (v := .tuple #[.slice (some ⟨w.heap.size, 0, none⟩) k k, .int .i64 0]) (by simp [results, Tryd.results35, go_sem]) rfl ⟨_, k, k, by rw [HY.out.2], ?_, HB2.out⟩
        rw [HY.out.1, HE.out]
        exact HL2.out
      · have HY := hid (par_no hb)
        have hq : (chkA (dec k (x / 8)) != 0) = true := by rw [e3]; rfl
        clear e3 hb
        generalize chkA (dec k (x / 8)) = q at hq ⊢
        go_wp2_with fail
        refine bodyPost_ret (v := .tuple #[.slice none 0 0, .int .i64 120]) (by simp [results, Tryd.results35, go_sem]) rfl ⟨none, 0, 0, by rw [HY.out.2], by rw [HY.out.1]; exact hasP_nil _, HB2.out⟩
      · have HY := hid (par_no hb)
        rw [e3]
        clear e3 hb
        generalize (putA (dec k (x / 8)) : Int) = q at e2 ⊢
        go_wp2_with fail
        refine bodyPost_ret (v := .tuple #[.slice none 0 0, .int .i64 120]) (by simp [results, Tryd.results35, go_sem]) rfl ⟨none, 0, 0, by rw [HY.out.2], by rw [HY.out.1]; exact hasP_nil _, HB2.out⟩
end Go.Proofs.YtilannincbcgkaaDoor.Ad
