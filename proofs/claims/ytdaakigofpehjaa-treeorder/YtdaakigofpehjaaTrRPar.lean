/- What the document's Parent does. -/
import Derived.Test.YtdaakigofpehjaaTrRCnt
import Derived.Test.YtdaakigofpehjaaTrKeep
import Derived.Test.YtdaakigofpehjaaTrBox
namespace Go.Proofs.Ytdaakigofpehjaa.Tr
open Go.RowKit

theorem pr_of {t : List Br} {k : P} {i : Nat} (h : fd k t = some i) : pr t k = pl t (D t i) i := by simp [pr, h]
theorem pr_yes {t : List Br} {k : P} {i p : Nat} (h : fd k t = some i) (hp : p < i) (hd : D t p < D t i) (hm : ∀ m, p < m → m < i → ¬ D t m < D t i) : prB t k = true ∧ prK t k = Ky t p := by
  have e : pr t k = some p := by rw [pr_of h]; exact pl_some.2 ⟨hp, hd, hm⟩
  simp [prB, prK, e]
theorem pr_no {t : List Br} {k : P} {i : Nat} (h : fd k t = some i) (hm : ∀ m, m < i → ¬ D t m < D t i) : prB t k = false ∧ prK t k = (0, 0) := by
  have e : pr t k = none := by rw [pr_of h]; exact pl_none.2 hm
  simp [prB, prK, e]
theorem pr_nk {t : List Br} {k : P} (h : hasK t k = false) : prB t k = false ∧ prK t k = (0, 0) := by
  have e : pr t k = none := by simp [pr, has_no h]
  simp [prB, prK, e]
set_option maxRecDepth 100000 in
set_option maxHeartbeats 2000000 in
theorem rpa_any (ao : Option Addr) (n cap : Nat) (t : List Br) (k : P) (w : World) (hs : n ≤ 1000) (HH : Hid (HasB w ao n cap t)) :
    Calls Try.prog 20 #[.slice ao n cap, (.agg #[.int .i64 k.1, .int .i64 k.2])] w fun e w' => e = .returned (.tuple #[(.agg #[.int .i64 (prK t k).1, .int .i64 (prK t k).2]), .bool (prB t k)]) ∧ Below w.heap.size w w' := by
  have HN := hid HH.out.len
  go_enter Try.func20, Try.ntmps20
  go_wp2_with fail
  have B0 := hid (q_alloc (alloc_below w (.cells #[.int .i64 k.1, .int .i64 k.2] 24)) (.cells #[.int .i64 0, .int .i64 0] 24))
  have A0 : Hid (Bp ((w.alloc (.cells #[.int .i64 k.1, .int .i64 k.2] 24)).alloc (.cells #[.int .i64 0, .int .i64 0] 24)) (w.heap.size + 1) (0, 0)) := bp_two w _ (0, 0) 24
  refine (rfind_any ao n cap t k _ (by omega) (HH.out.below B0.out)).mono ?_
  rintro e w1 ⟨rfl, b1⟩
  have A1 := hid (A0.out.below b1)
  have B1 := hid (q_trans B0.out b1)
  clear b1 B0 A0
  cases h3 : hasK t k with
  | false =>
    have HE := hid (pr_nk h3)
    clear h3
    obtain ⟨p0, p1, p2, p3⟩ := A1.out
    have Z := bp_put A1.out (0, 0)
    have z0 := Z.c0
    have z1 := Z.c1
    go_wp2_with fail
    refine bodyPost_ret (v := .tuple #[.agg #[.int .i64 0, .int .i64 0], .bool false]) (by simp [results, Try.results20, go_sem, *]) rfl ⟨by rw [HE.out.1, HE.out.2], ?_⟩
    exact q_set (q_set B1.out (Nat.le_succ _) _) (Nat.le_succ _) _
  | true =>
    obtain ⟨i, hi⟩ := has_fd h3
    have HF := hid hi
    have hin : i < n := by have := (fd_some.1 hi).1; have := HN.out; omega
    have hi1 : (i : Int) ≤ 1000 := by omega
    have hi0 : (i : Int) < (n : Int) := by omega
    have hi2 : (0 : Int) ≤ (i : Int) := by omega
    rw [plc_of hi]
    clear h3 hi
    go_wp2_with fail
    go_loopw [8] (fun x wr => ∃ q : Nat, q ≤ i ∧ x = .int .i64 ((q : Int) - 1) ∧ Hid (∀ m, q ≤ m → m < i → ¬ D t m < D t i) ∧ Hid (Bp wr (w.heap.size + 1) (0, 0)) ∧ Hid (Below w.heap.size w wr)) (fun x _ => (intOf x + 1).toNat)
    case atStart => exact ⟨i, Nat.le_refl _, rfl, fun m h1 h2 => by omega, A1, B1⟩
    case round =>
      obtain ⟨q, hq, rfl, HU, HP, HB⟩ := hrel
      clear A1 B1
      rcases Nat.eq_zero_or_pos q with hz | hz
      · subst hz
        have HE := hid (pr_no HF.out (fun m hm => HU.out m (Nat.zero_le _) hm))
        obtain ⟨p0, p1, p2, p3⟩ := HP.out
        have Z := bp_put HP.out (0, 0)
        have z0 := Z.c0
        have z1 := Z.c1
        have hg : ¬ ((0 : Nat) : Int) - 1 ≥ 0 := by omega
        go_wp2_with fail
        refine bodyPost_ret (v := .tuple #[.agg #[.int .i64 0, .int .i64 0], .bool false]) (by simp [results, Try.results20, go_sem, *]) rfl ⟨by rw [HE.out.1, HE.out.2], ?_⟩
        exact q_set (q_set HB.out (Nat.le_succ _) _) (Nat.le_succ _) _
      · obtain ⟨p, rfl⟩ : ∃ p, q = p + 1 := ⟨q - 1, by omega⟩
        have hpe : ((p + 1 : Nat) : Int) - 1 = (p : Int) := by omega
        rw [hpe]
        clear hpe hz
        have hp0 : (0 : Int) ≤ (p : Int) := by omega
        have hp1 : (p : Int) < (n : Int) := by omega
        have hp2 : (p : Int) ≤ 1000 := by omega
        obtain ⟨a, rfl, ca⟩ := (HH.out.below HB.out).at i hin
        obtain ⟨a2, ea, cb⟩ := (HH.out.below HB.out).at p (by omega)
        cases ea
        obtain ⟨x, hx⟩ : ∃ b, D t i = b := ⟨_, rfl⟩
        obtain ⟨y, hy⟩ : ∃ b, D t p = b := ⟨_, rfl⟩
        obtain ⟨z, hz⟩ : ∃ b, Ky t p = b := ⟨_, rfl⟩
        have HX := hid hx
        have HY := hid hy
        have HZ := hid hz
        obtain ⟨_, _, g2, _⟩ := ca.always
        obtain ⟨_, _, g3, _⟩ := cb.always
        have cb' := cb
        rw [show (t.getD i zB).2.1 = x from hx] at g2
        rw [show (t.getD p zB).2.1 = y from hy] at g3
        have hne : Nonempty (Later wr) := ⟨⟨_, Below.refl _ _⟩⟩
        have HCB := hid cb
        clear ca cb cb' hx hy hz
        by_cases hd : y < x
        · have HE := hid (pr_yes HF.out (p := p) (by omega) (by rw [HX.out, HY.out]; exact hd) (fun m h1 h2 => HU.out m (by omega) h2))
          go_wp2_with fail
          have hd2 : y < x := by omega
          refine wp_region_later (by kernel_rfl) (by kernel_rfl) ?_
          repeat (go_big_quiet_step (fail))
          refine wpQuiet_nil ?_
          rintro w9 ⟨⟨_, b9⟩, rfl⟩
          have HB9 := hid (q_trans HB.out b9)
          have HP9 := hid (HP.out.below b9)
          have c9 := HCB.out.below b9
          obtain ⟨k0, k1, _, _⟩ := c9
          rw [show (t.getD p zB).1 = z from HZ.out] at k0 k1
          obtain ⟨p0, p1, p2, p3⟩ := HP9.out
          have Z := bp_put HP9.out z
          have z0 := Z.c0
          have z1 := Z.c1
          clear b9 g2 g3 hne
          go_wp2_with fail
          refine bodyPost_ret (v := .tuple #[.agg #[.int .i64 z.1, .int .i64 z.2], .bool true]) (by simp [results, Try.results20, go_sem, *]) rfl ⟨by rw [HE.out.1, HE.out.2, HZ.out], ?_⟩
          exact q_set (q_set HB9.out (Nat.le_succ _) _) (Nat.le_succ _) _
        · have HE := hid hd
          go_wp2_with fail
          have hd2 : ¬ y < x := by omega
          refine wp_region_later (by kernel_rfl) (by kernel_rfl) ?_
          repeat (go_big_quiet_step (fail))
          refine wpQuiet_nil ?_
          rintro w9 ⟨⟨_, b9⟩, rfl⟩
          have HB9 := hid (q_trans HB.out b9)
          have HP9 := hid (HP.out.below b9)
          clear b9 g2 g3 hne
          go_wp2_with fail
          go_roundw
          case rel =>
            refine ⟨p, by omega, by go_num, fun m h1 h2 => ?_, HP9, HB9⟩
            rcases Nat.eq_or_lt_of_le h1 with rfl | h
            · rw [HX.out, HY.out]; have := HE.out; omega
            · have := HU.out m h h2; omega
          case measure => simp [intOf]
end Go.Proofs.Ytdaakigofpehjaa.Tr
