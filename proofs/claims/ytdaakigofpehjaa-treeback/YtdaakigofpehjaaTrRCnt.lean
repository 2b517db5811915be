/- What the document's Is of whatever list, count, put, out do. -/
import Derived.Test.YtdaakigofpehjaaTrRIs
import Derived.Test.YtdaakigofpehjaaTrCount
namespace Go.Proofs.Ytdaakigofpehjaa.Tr
open Go.RowKit

set_option maxHeartbeats 400000 in
theorem ris_long (ao : Option Addr) (n cap : Nat) (w : World) (h : 512 < n) : Calls Try.prog 15 #[.slice ao n cap] w fun e w' => e = .returned (.bool false) ∧ w' = w := by
  have i1 : (n : Int) > 512 := by omega
  clear h
  go_enter Try.func15, Try.ntmps15
  go_wp2
  go_ret
  exact ⟨rfl, rfl⟩
/-- IS, OF WHATEVER LIST. -/
theorem ris_any (ao : Option Addr) (n cap : Nat) (t : List Br) (w : World) (h : HasB w ao n cap t) :
    Calls Try.prog 15 #[.slice ao n cap] w fun e w' => e = .returned (.bool (isB t)) ∧ Below w.heap.size w w' := by
  rcases Nat.lt_or_ge 512 n with q | q
  · rw [isB_not.2 fun g => by have := g.len; have := h.len; omega]
    refine (ris_long ao n cap w q).mono ?_
    rintro e w' ⟨rfl, rfl⟩
    exact ⟨rfl, Below.refl _ _⟩
  · exact ris_in ao n cap t w q h
theorem ct_more {t : List Br} {i c : Nat} (h : ∀ m, m < c → D t i < D t (i + 1 + m)) (hl : i + 1 + c < t.length) (hd : D t i < D t (i + 1 + c)) : ∀ m, m < c + 1 → D t i < D t (i + 1 + m) := fun m hm => by
  rcases Nat.lt_or_ge m c with q | q
  · exact h m q
  · obtain rfl : m = c := by omega
    exact hd
theorem ct_is {t : List Br} {i c : Nat} (hi : i < t.length) (hl : i + 1 + c ≤ t.length) (h : ∀ m, m < c → D t i < D t (i + 1 + m)) (he : i + 1 + c < t.length → ¬ D t i < D t (i + 1 + c)) : ct t i = c := by
  have hc := ct_in hi
  rcases Nat.lt_trichotomy (ct t i) c with q | q | q
  · exfalso
    have : Ds t i (i + 1 + ct t i) := ⟨by omega, by omega, fun m a b => by
      have := h (m - i - 1) (by omega)
      rwa [show i + 1 + (m - i - 1) = m by omega] at this⟩
    have := (ds_ct.1 this).2
    omega
  · exact q
  · exfalso
    have : Ds t i (i + 1 + c) := ds_ct.2 ⟨by omega, by omega⟩
    exact he (by omega) (this.2.2 _ this.1 (Nat.le_refl _))
set_option maxRecDepth 100000 in
set_option maxHeartbeats 1000000 in
theorem rcnt_any (ao : Option Addr) (n cap i : Nat) (t : List Br) (w : World) (hi : i < n) (hs : n ≤ 1000) (HH : Hid (HasB w ao n cap t)) :
    Calls Try.prog 43 #[.slice ao n cap, .int .i64 i] w fun e w' => e = .returned (.int .i64 (ct t i : Nat)) ∧ Below w.heap.size w w' := by
  have HN := hid HH.out.len
  go_enter Try.func43, Try.ntmps43
  go_wp2_with fail
  go_loopw [5] (fun x wr => ∃ c : Nat, i + 1 + c ≤ n ∧ x = .int .i64 c ∧ Hid (∀ m, m < c → D t i < D t (i + 1 + m)) ∧ Hid (Below w.heap.size w wr)) (fun x _ => n - (intOf x).toNat)
  case atStart => exact ⟨0, by omega, rfl, fun c hc => absurd hc (by omega), Below.refl _ _⟩
  case round =>
    obtain ⟨c, hc, rfl, HU, HB⟩ := hrel
    obtain ⟨p, hp⟩ : ∃ p, p = i + 1 + c := ⟨_, rfl⟩
    have HPp := hid hp
    have hkp : (i : Int) + 1 + (c : Int) = (p : Int) := by omega
    have hp0 : (0 : Int) ≤ (p : Int) := by omega
    have hc0 : (c : Int) ≤ 1000 := by omega
    have hi0 : (i : Int) < (n : Int) := by omega
    have hi1 : (i : Int) ≤ 1000 := by omega
    have HC := hid hc
    have HLn := hid HH.out.len
    by_cases hlt : p < n
    · have i3 : (p : Int) < (n : Int) := by omega
      obtain ⟨a, rfl, ca⟩ := (HH.out.below HB.out).at i hi
      obtain ⟨a2, ea, cb⟩ := (HH.out.below HB.out).at p hlt
      cases ea
      obtain ⟨x, hx⟩ : ∃ b, D t i = b := ⟨_, rfl⟩
      obtain ⟨y, hy⟩ : ∃ b, D t p = b := ⟨_, rfl⟩
      have HX := hid hx
      have HY := hid hy
      obtain ⟨_, _, g2, _⟩ := ca.always
      obtain ⟨_, _, g3, _⟩ := cb.always
      rw [show (t.getD i zB).2.1 = x from hx] at g2
      rw [show (t.getD p zB).2.1 = y from hy] at g3
      have hne : Nonempty (Later wr) := ⟨⟨_, Below.refl _ _⟩⟩
      clear ca cb hx hy hp hc
      by_cases hd : x < y
      · have HD := hid hd
        go_wp2_with fail
        have hd2 : y > x := by omega
        refine wp_region_later (by kernel_rfl) (by kernel_rfl) ?_
        repeat (go_big_quiet_step (fail))
        refine wpQuiet_nil ?_
        rintro w9 ⟨⟨_, b9⟩, rfl⟩
        have HB9 := hid (q_trans HB.out b9)
        clear b9 g2 g3 hne hkp
        go_wp2_with fail
        go_roundw
        case rel =>
          have h1 := HPp.out
          have h2 := HLn.out
          exact ⟨c + 1, by omega, by go_num, ct_more HU.out (by omega) (by rw [← h1, HX.out, HY.out]; exact HD.out), HB9⟩
        case measure => have h1 := HPp.out; simp [intOf]; omega
      · have HE : Hid (ct t i = c) := by
          have h1 := HPp.out
          have h2 := HLn.out
          exact ct_is (by omega) (by omega) HU.out (fun _ => by rw [← h1, HX.out, HY.out]; exact hd)
        go_wp2_with fail
        have hd2 : ¬ y > x := by omega
        refine wp_region_later (by kernel_rfl) (by kernel_rfl) ?_
        repeat (go_big_quiet_step (fail))
        refine wpQuiet_nil ?_
        rintro w9 ⟨⟨_, b9⟩, rfl⟩
        have HB9 := hid (q_trans HB.out b9)
        clear b9 g2 g3 hne hkp
        go_wp2_with fail
        go_ret
        exact ⟨ret_int (by rw [HE.out]), HB9.out⟩
    · have HE : Hid (ct t i = c) := by
        have h2 := HLn.out
        exact ct_is (by omega) (by omega) HU.out (fun h => by omega)
      have hne : Nonempty (Later wr) := ⟨⟨_, Below.refl _ _⟩⟩
      clear hp hc
      go_wp2_with fail
      have hl2 : ¬ (p : Int) < (n : Int) := by omega
      refine wp_region_later (by kernel_rfl) (by kernel_rfl) ?_
      repeat (go_big_quiet_step (fail))
      refine wpQuiet_nil ?_
      rintro w9 ⟨⟨_, b9⟩, rfl⟩
      have HB9 := hid (q_trans HB.out b9)
      clear b9 hne hkp
      go_wp2_with fail
      go_ret
      exact ⟨ret_int (by rw [HE.out]), HB9.out⟩
end Go.Proofs.Ytdaakigofpehjaa.Tr
