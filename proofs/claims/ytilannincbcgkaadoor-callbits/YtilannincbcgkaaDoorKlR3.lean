/- What the document's Words and Name do. -/
import Derived.Test.YtilannincbcgkaaDoorKlW5
namespace Go.Proofs.YtilannincbcgkaaDoor.Kl
open Go.RowKit
open Ad (q_trans q_alloc q_set ret_int ret_bool hid Later wp_region_later later_call)

theorem same_of {l k : List Int} (h : l.length = k.length) (e : ∀ j, j < l.length → l.getD j 0 = k.getD j 0) : l = k := by
  refine List.ext_getElem h fun j h1 h2 => ?_
  have := e j h1
  simpa [List.getD, h1, h2] using this
set_option maxRecDepth 100000 in
set_option maxHeartbeats 1000000 in
theorem words_any (ao bo : Option Addr) (n m cn cm : Nat) (l k : List Int) (w : World) (hl : HasU w ao n cn l) (hk : HasU w bo m cm k) (h20 : n ≤ 1000) (h21 : m ≤ 1000) (q : Bool) (hq : Hid (decide (l = k) = q)) :
    Calls Tryd.prog 16 #[.slice ao n cn, .slice bo m cm] w fun e w' => e = .returned (.bool q) ∧ Below w.heap.size w w' := by
  by_cases hn : n = m
  · subst hn
    have HL := hid hl
    have HK := hid hk
    have hd : ((n : Int) != (n : Int)) = false := by simp
    clear hl hk h21
    go_enter Tryd.func16, Tryd.ntmps16
    go_wp2_with fail
    go_loopw [5] (fun i wr => ∃ j : Nat, j ≤ n ∧ i = .int .i64 j ∧ Hid (∀ x, x < j → l.getD x 0 = k.getD x 0) ∧ Hid (Below w.heap.size w wr)) (fun i _ => n - (intOf i).toNat)
    case atStart => exact ⟨0, Nat.zero_le _, rfl, fun x h => absurd h (by omega), Below.refl _ _⟩
    case round =>
      obtain ⟨j, hj, rfl, HS, HB⟩ := hrel
      by_cases hlt : j < n
      · obtain ⟨a, ea, ca⟩ := (HL.out.below HB.out).cell j hlt
        obtain ⟨b, eb, cb⟩ := (HK.out.below HB.out).cell j hlt
        subst ea; subst eb
        have i1 : (0 : Int) ≤ (j : Int) := by omega
        have i2 : (j : Int) < (n : Int) := by omega
        have hne : Nonempty (Later wr) := ⟨⟨wr, Below.refl _ _⟩⟩
        have qa : ∀ g : Later wr, g.now.cell? (a.add j) = some (.int .u64 (l.getD j 0)) := fun g => g.cell ca
        have qb : ∀ g : Later wr, g.now.cell? (b.add j) = some (.int .u64 (k.getD j 0)) := fun g => g.cell cb
        by_cases he : l.getD j 0 = k.getD j 0
        · rw [← he] at qb
          have HE := hid he
          generalize l.getD j 0 = x at qa qb
          clear ca cb he
          go_wp2_with fail
          refine wp_region_later (by kernel_rfl) (by kernel_rfl) ?_
          repeat (go_big_quiet_step (fail))
          refine wpQuiet_nil ?_
          rintro w3 ⟨⟨_, b3⟩, rfl⟩
          go_wp2_with fail
          refine ⟨⟨j + 1, by omega, by go_num, fun x hx => ?_, q_trans HB.out b3⟩, by simp [intOf]; omega⟩
          by_cases hx2 : x < j
          · exact HS.out x hx2
          · obtain rfl : x = j := by omega
            exact HE.out
        · have hne2 : (l.getD j 0 != k.getD j 0) = true := by simpa using he
          have HF : Hid (q = false) := by
            show q = false
            rw [← hq.out, decide_eq_false_iff_not]
            rintro rfl
            exact he rfl
          generalize l.getD j 0 = x at qa hne2
          generalize k.getD j 0 = y at qb hne2
          clear ca cb he
          go_wp2_with fail
          refine wp_region_later (by kernel_rfl) (by kernel_rfl) ?_
          repeat (go_big_quiet_step (fail))
          refine wpQuiet_nil ?_
          rintro w3 ⟨⟨_, b3⟩, rfl⟩
          go_wp2_with fail
          go_ret
          exact ⟨ret_bool HF.out.symm, q_trans HB.out b3⟩
      · obtain rfl : j = n := by omega
        have HF : Hid (q = true) := by
          show q = true
          rw [← hq.out, decide_eq_true_iff]
          exact same_of (by rw [← HL.out.len, ← HK.out.len]) (fun x hx => HS.out x (by rw [HL.out.len]; exact hx))
        go_wp2_with fail
        go_ret
        exact ⟨ret_bool HF.out.symm, HB.out⟩
  · have HF : Hid (q = false) := by
      show q = false
      rw [← hq.out, decide_eq_false_iff_not]
      rintro rfl
      exact hn (by rw [hl.len, hk.len])
    have hd : ((n : Int) != (m : Int)) = true := by simp; omega
    clear hl hk hn
    go_enter Tryd.func16, Tryd.ntmps16
    go_wp2_with fail
    go_ret
    exact ⟨ret_bool HF.out.symm, Below.refl _ _⟩
end Go.Proofs.YtilannincbcgkaaDoor.Kl
