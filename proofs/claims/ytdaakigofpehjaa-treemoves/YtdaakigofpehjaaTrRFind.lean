/- What the document's Find, Same do. -/
import Derived.Test.YtdaakigofpehjaaTrMem
import Derived.Test.YtdaakigofpehjaaTrOps
namespace Go.Proofs.Ytdaakigofpehjaa.Tr
open Go.RowKit

theorem fd_go {t : List Br} {k : P} {j : Nat} (hj : j < t.length) (hk : Ky t j = k) (h : ∀ m, m < j → Ky t m ≠ k) : fd k t = some j := fd_some.2 ⟨hj, hk, h⟩
set_option maxRecDepth 100000 in
set_option maxHeartbeats 1000000 in
theorem rfind_any (ao : Option Addr) (n cap : Nat) (t : List Br) (k : P) (w : World) (hs : n ≤ 9223372036854775806) (HH : Hid (HasB w ao n cap t)) :
    Calls Try.prog 18 #[.slice ao n cap, (.agg #[.int .i64 k.1, .int .i64 k.2])] w fun e w' => e = .returned (.tuple #[.int .i64 (plc t k : Nat), .bool (hasK t k)]) ∧ Below w.heap.size w w' := by
  have HN := hid HH.out.len
  go_enter Try.func18, Try.ntmps18
  go_wp2_with fail
  have HK0 := hid (at_new w k 24)
  have HB0 := hid (alloc_below w (.cells #[.int .i64 k.1, .int .i64 k.2] 24))
  generalize hw0 : w.alloc (.cells #[.int .i64 k.1, .int .i64 k.2] 24) = W0 at HK0 HB0 ⊢
  clear hw0
  go_loopw [6] (fun i wr => ∃ q : Nat, q ≤ n ∧ i = .int .i64 q ∧ Hid (∀ m, m < q → Ky t m ≠ k) ∧ Hid (AtP wr ⟨w.heap.size, 0, none⟩ k) ∧ Hid (Below w.heap.size w wr)) (fun i _ => n - (intOf i).toNat)
  case atStart => exact ⟨0, Nat.zero_le _, rfl, fun c hc => absurd hc (by omega), HK0, HB0⟩
  case round =>
    obtain ⟨q, hq, rfl, HU, HK, HB⟩ := hrel
    clear HK0 HB0
    by_cases hlt : q < n
    · have i1 : (0 : Int) ≤ (q : Int) := by omega
      have i2 : (q : Int) < (n : Int) := by omega
      obtain ⟨a, rfl, ca⟩ := (HH.out.below HB.out).at q hlt
      obtain ⟨x, hx⟩ : ∃ x, (t.getD q zB).1 = x := ⟨_, rfl⟩
      have HX := hid hx
      obtain ⟨f0, f1, _, _⟩ := ca.always
      rw [hx] at f0 f1
      obtain ⟨k0, k1⟩ := HK.out.always
      have hne : Nonempty (Later wr) := ⟨⟨_, Below.refl _ _⟩⟩
      clear ca hx
      by_cases e : x = k
      · have HE : Hid (fd k t = some q) := fd_go (by have := HN.out; omega) (by rw [← e]; exact HX.out) HU.out
        have ee := eqk_yes e
        clear e
        go_wp2_with fail
        refine wp_region_later (by kernel_rfl) (by kernel_rfl) ?_
        repeat (go_big_quiet_step (fail))
        refine wpQuiet_nil ?_
        rintro w9 ⟨⟨_, b9⟩, rfl⟩
        have HB9 := hid (q_trans HB.out b9)
        clear b9 f0 f1 k0 k1 hne ee
        go_wp2_with fail
        go_ret2
        exact ⟨by simp [plc, hasK, HE.out], HB9.out⟩
      · have HE := hid e
        have ee := eqk_no e
        clear e
        go_wp2_with fail
        refine wp_region_later (by kernel_rfl) (by kernel_rfl) ?_
        repeat (go_big_quiet_step (fail))
        refine wpQuiet_nil ?_
        rintro w9 ⟨⟨_, b9⟩, rfl⟩
        have HB9 := hid (q_trans HB.out b9)
        have HK9 := hid (HK.out.below b9)
        clear b9 f0 f1 k0 k1 hne ee
        go_wp2_with fail
        go_roundw
        case rel =>
          refine ⟨q + 1, by omega, by go_num, fun m hm => ?_, HK9, HB9⟩
          rcases Nat.lt_or_ge m q with y | y
          · exact HU.out m y
          · obtain rfl : m = q := by omega
            unfold Ky
            rw [HX.out]
            exact HE.out
        case measure => simp [intOf]; omega
    · obtain rfl : q = n := by omega
      have HE : Hid (fd k t = none) := fd_none.2 fun j hj => HU.out j (by have := HN.out; omega)
      go_wp2_with fail
      go_ret2
      exact ⟨by simp [plc, hasK, HE.out], HB.out⟩
end Go.Proofs.Ytdaakigofpehjaa.Tr
