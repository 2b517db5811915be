/- What the document's in and Is do. -/
import Derived.Test.YtnagpedkmfmniaaArW6
namespace Go.Proofs.Ytnagpedkmfmniaa.Ar
open Go.RowKit Go.Proofs.Ytnagpedkmfmniaa.Ha

theorem upto_cnt {fr : List (List Int)} {c k : Nat} (p : Int) (hk : k < (fr.getD c []).length) : (upto fr c (k + 1)).count p = (upto fr c k).count p + (if (fr.getD c []).getD k 0 = p then 1 else 0) := by
  rw [upto_succ hk, List.count_append, List.count_singleton]
  simp only [beq_iff_eq]
theorem upto_le {fr : List (List Int)} {c k : Nat} (hm : ∀ i, (fr.getD i []).length ≤ 1000) (p : Int) : (upto fr c k).count p ≤ 1000 * (c + 1) := by
  refine Nat.le_trans List.count_le_length ?_
  unfold upto
  rw [List.length_append, List.length_take]
  have h2 := hm c
  have h1 : ∀ c, (fr.take c).flatten.length ≤ 1000 * c := by
    intro c
    induction c with
    | zero => simp
    | succ c ih =>
      rw [List.take_add_one, List.flatten_append, List.length_append]
      by_cases hc : c < fr.length
      · rw [List.getElem?_eq_getElem hc]
        have := hm c
        rw [show fr.getD c [] = fr[c] by simp [List.getD, hc]] at this
        simp only [Option.toList_some, List.flatten_cons, List.flatten_nil, List.append_nil]
        omega
      · rw [List.getElem?_eq_none (by omega)]
        simp only [Option.toList_none, List.flatten_nil, List.length_nil]
        omega
  have := h1 c
  omega
set_option maxRecDepth 100000 in
set_option maxHeartbeats 2000000 in
/-- How often a place is in the lists. -/
theorem rin_any (x : Wh) (a : Ar) (p : Int) (w : World) (HS : Hid (Sm a)) (HH : Hid (HasA w x a)) :
    Calls Try.prog 34 #[(.agg #[.slice x.t.o x.t.n x.t.c, .slice x.f.o x.f.n x.f.c]), .int .i64 p] w fun e w' => e = .returned (.int .i64 (cnt a.fr p : Nat)) ∧ Below w.heap.size w w' := by
  obtain ⟨⟨xo, tn, tc⟩, ⟨fo, fn, fc⟩⟩ := x
  have HFN : Hid (fn = a.fr.length) := HH.out.fn
  have hfn : fn ≤ 1000 := by rw [HFN.out]; exact HS.out.f
  have HB := hid (bx_new w ⟨⟨xo, tn, tc⟩, ⟨fo, fn, fc⟩⟩)
  go_enter Try.func34, Try.ntmps34
  go_wp2
  generalize w.alloc _ = W at HB ⊢
  obtain ⟨c0, c1, cf⟩ := HB.out.box
  go_loop [5, 6] (fun s5 s6 => ∃ (c N : Nat), c ≤ fn ∧ s6 = .int .i64 c ∧ s5 = .int .i64 (N : Nat) ∧ N ≤ 1000 * (c + 1) ∧ Hid (N = (upto a.fr c 0).count p)) (fun _ s6 => fn - (intOf s6).toNat)
  case atStart => exact ⟨0, 0, Nat.zero_le _, rfl, rfl, by omega, by simp [Hid, upto]⟩
  case round =>
    obtain ⟨c, N, hc, rfl, rfl, hN, HN⟩ := hrel
    by_cases hlt : c < fn
    · have i1 : (0 : Int) ≤ (c : Int) := by omega
      have i2 : (c : Int) < (fn : Int) := by omega
      have HC : Hid (c < a.fr.length) := by have := HFN.out; exact (by omega : c < a.fr.length)
      obtain ⟨fa, o1, m1, x1, e, ca, hL⟩ := (HH.out.below HB.out.low).list c HC.out
      have e : fo = some fa := e
      subst e
      have HL := hid hL
      have HM := hid hL.len
      have hm1 : m1 ≤ 1000 := by have := HM.out; have := HS.out.e c; omega
      clear hL
      go_wp2
      go_loop [5, 7] (fun s5 s7 => ∃ (k N : Nat), k ≤ m1 ∧ s7 = .int .i64 k ∧ s5 = .int .i64 (N : Nat) ∧ N ≤ 1000 * (c + 1) ∧ Hid (N = (upto a.fr c k).count p)) (fun _ s7 => m1 - (intOf s7).toNat)
      case atStart => exact ⟨0, N, Nat.zero_le _, rfl, rfl, hN, HN⟩
      case round =>
        clear HN hN
        obtain ⟨k, N, hk, rfl, rfl, hN, HN⟩ := hrel
        by_cases hlt2 : k < m1
        · have j1 : (0 : Int) ≤ (k : Int) := by omega
          have j2 : (k : Int) < (m1 : Int) := by omega
          have HK : Hid (k < (a.fr.getD c []).length) := by have := HM.out; exact (by omega : k < (a.fr.getD c []).length)
          obtain ⟨la, rfl, cl⟩ := HL.out.cell k hlt2
          obtain ⟨q, hq⟩ : ∃ q, (a.fr.getD c []).getD k 0 = q := ⟨_, rfl⟩
          rw [hq] at cl
          have HU := hid (upto_cnt p HK.out)
          have HUL : Hid ((upto a.fr c (k + 1)).count p ≤ 1000 * (c + 1)) := upto_le HS.out.e p
          rw [hq] at HU
          clear hq
          by_cases he : q = p
          · have e1 := beq_of he
            have HN2 : Hid (N + 1 = (upto a.fr c (k + 1)).count p) := by rw [HU.out, if_pos he, ← HN.out]; exact hid rfl
            have hN2 : N + 1 ≤ 1000 * (c + 1) := by rw [HN2.out]; exact HUL.out
            clear he
            go_wp2
            go_round
            case rel => exact ⟨k + 1, N + 1, by omega, by go_num, by go_num, hN2, HN2⟩
            case measure => simp [intOf]; omega
          · have e1 := bne_of he
            have HN2 : Hid (N = (upto a.fr c (k + 1)).count p) := by rw [HU.out, if_neg he, ← HN.out]; exact hid rfl
            clear he
            go_wp2
            go_round
            case rel => exact ⟨k + 1, N, by omega, by go_num, rfl, hN, HN2⟩
            case measure => simp [intOf]; omega
        · obtain rfl : k = m1 := by omega
          have HN2 : Hid (N = (upto a.fr (c + 1) 0).count p) := by
            have := HN.out
            rw [HM.out, upto_full HC.out, ← upto_zero] at this
            exact this
          go_wp2
          go_round
          case rel => exact ⟨c + 1, N, by omega, by go_num, rfl, by omega, HN2⟩
          case measure => simp [intOf]; omega
    · obtain rfl : c = fn := by omega
      have HR : Hid (N = cnt a.fr p) := by
        have := HN.out
        rw [upto_zero, List.take_of_length_le (by have := HFN.out; omega)] at this
        exact this
      go_wp2
      go_ret
      exact ⟨ret_int (congrArg _ HR.out), HB.out.low⟩
end Go.Proofs.Ytnagpedkmfmniaa.Ar
