/- What the document's Parse does. -/
import Derived.Test.YtaooijjppdfnfaaDoorScParse
namespace Go.Proofs.YtaooijjppdfnfaaDoor.Sc
open Go.RowKit

theorem idx_at (S : ByteArray) (k c : Nat) (hk : k < S.size) (hc : (S.data.toList.getD k 0).toNat = c) (W : World) : (Instr.index 9 (.string S) (.int .i64 k)).run Tryd.prog W = .ok (.int .u8 c) W := by
  rw [run_index_string _ _ _ _ _ Tryd.underlying9, dif_pos ⟨by omega, by omega⟩, ← hc]
  have hk' : k < S.data.toList.length := hk
  simp only [List.getD, List.getElem?_eq_getElem hk', Option.getD_some]
  rfl
theorem drop_at (S : ByteArray) (k : Nat) (hk : k < S.size) : S.data.toList.drop k = S.data.toList.getD k 0 :: S.data.toList.drop (k + 1) := by
  have hk' : k < S.data.toList.length := hk
  rw [List.drop_eq_getElem_cons hk']
  simp only [List.getD, List.getElem?_eq_getElem hk', Option.getD_some]
/-- What is still to be scanned, from k on. -/
def Sc1 (S : ByteArray) (k : Nat) (x : Int) (any : Bool) (ls : List Int) (R : Option (List Int)) : Prop := (k ≤ S.size ∧ rscan (S.data.toList.drop k) x any ls = R) ∨ (k = S.size + 1 ∧ R = some ls)
theorem u8_32 {c : UInt8} : c = 32 ↔ c.toNat = 32 := ⟨fun h => by rw [h]; rfl, fun h => UInt8.toNat_inj.1 h⟩
theorem u8_lo {c : UInt8} : c < 48 ↔ c.toNat < 48 := Iff.rfl
theorem u8_hi {c : UInt8} : 57 < c ↔ 57 < c.toNat := Iff.rfl
theorem sc_end {S : ByteArray} {x : Int} {any : Bool} {ls : List Int} {R : Option (List Int)} (h : Sc1 S S.size x any ls R) : R = if any then some (ls ++ [x]) else none := by
  rcases h with ⟨_, h⟩ | ⟨h, _⟩
  · rw [← h, List.drop_eq_nil_of_le (show S.data.toList.length ≤ S.size from Nat.le_refl _)]; rfl
  · omega
theorem sc_step {S : ByteArray} {k : Nat} {x : Int} {any : Bool} {ls : List Int} {R : Option (List Int)} (h : Sc1 S k x any ls R) (hk : k < S.size) :
    rscan (S.data.toList.getD k 0 :: S.data.toList.drop (k + 1)) x any ls = R := by
  rcases h with ⟨_, h⟩ | ⟨h, _⟩
  · rw [← h, drop_at S k hk]
  · omega

set_option maxRecDepth 100000 in
set_option maxHeartbeats 2000000 in
theorem rparse_core (S : ByteArray) (R : Option (List Int)) (w : World) (hS : S.size ≤ 100000) (hne : S.toList.isEmpty = false) (HR : Hid (rscan S.data.toList 0 false [] = R)) :
    Calls Tryd.prog 11 #[.string S] w fun e w' => (∃ ls ao cap, R = some ls ∧ putT ls = S.data.toList ∧ e = .returned (.tuple #[.slice ao ls.length cap, .int .i64 0]) ∧ Mine w' w.heap.size ao cap ls ∧ Below w.heap.size w w') ∨ ((R = none ∨ ∃ ls, R = some ls ∧ ¬ putT ls = S.data.toList) ∧ e = .returned (.tuple #[.slice none 0 0, .int .i64 2]) ∧ Below w.heap.size w w') := by
  go_enter Tryd.func11, Tryd.ntmps11
  go_wp2_with fail
  go_loopw [4, 5, 6, 7] (fun l x y i wr => ∃ (k xn : Nat) (any : Bool) (ls : List Int) (ao : Option Addr) (cap : Nat), k ≤ S.size + 1 ∧ xn ≤ 1009 ∧ i = .int .i64 k ∧ x = .int .i64 xn ∧ y = .bool any ∧ l = .slice ao ls.length cap ∧ ls.length ≤ k ∧ Hid (Mine wr w.heap.size ao cap ls) ∧ Hid (Below w.heap.size w wr) ∧ Hid (Sc1 S k xn any ls R)) (fun _ _ _ i _ => S.size + 1 - (intOf i).toNat)
  case atStart => exact ⟨0, 0, false, [], none, 0, by omega, by omega, rfl, rfl, rfl, rfl, by simp, mine_nil _ _, Below.refl _ _, .inl ⟨by omega, HR.out⟩⟩
  case round =>
    obtain ⟨k, xn, any, ls, ao, cap, hk, hx, rfl, rfl, rfl, rfl, hll, HM, HB, HC⟩ := hrel
    obtain ⟨i0, hi, hz0, hz1, hz2⟩ := info_parts infoI
    by_cases hle : k ≤ S.size
    · by_cases hlt : k < S.size
      · have hst := sc_step HC.out hlt
        obtain ⟨c8, hc8⟩ : ∃ c8, S.data.toList.getD k 0 = c8 := ⟨_, rfl⟩
        rw [hc8] at hst
        obtain ⟨c, hc⟩ : ∃ c, c8.toNat = c := ⟨_, rfl⟩
        have hid1 := idx_at S k c hlt (by rw [hc8, hc])
        have hc256 : c < 256 := by rw [← hc]; exact UInt8.toNat_lt c8
        by_cases h32 : c = 32
        · subst h32
          rw [rscan, if_pos (u8_32.2 hc)] at hst
          cases any with
          | false =>
            rw [if_neg (by simp)] at hst
            have HN : Hid (R = none) := hst.symm
            clear hst
            go_wp2_with fail
            go_ret2
            exact .inr ⟨.inl HN.out, rfl, HB.out⟩
          | true =>
            rw [if_pos rfl] at hst
            have HS := hid hst
            clear hst
            go_wp2_with (at_builtin; refine wpList_append_row _ rfl _ _ 22 3 _ 1 8 rfl Tryd.underlying22 infoI rfl (by decide) (by decide) w.heap.size _ _ _ rfl (World.ownsRow.alloc HM.out _) (some ⟨wr.heap.size, 0, none⟩) 1 1 [.int .i64 xn] rfl rfl (fun h => by cases h) (row_new _ _ _) (one_num _) (by omega) (by have := HB.out.size; simp; omega) ?_; intro ao1 cap1 w1 hown1 hgrow1; apply Hid.out)
            obtain ⟨hm1, hb1⟩ := Mine.app (m := [(xn : Int)]) HM.out HB.out.size hown1 hgrow1
            have HM1 := hid hm1
            have HB1 := hid (HB.out.trans hb1)
            clear hm1 hb1 hown1 hgrow1
            unfold Hid
            go_wp2_with fail
            go_roundw
            case rel => exact ⟨k + 1, 0, false, ls ++ [(xn : Int)], ao1, cap1, by omega, by omega, by go_num, rfl, rfl, by simp, by simp; omega, HM1, HB1, .inl ⟨by omega, HS.out⟩⟩
            case measure => simp [intOf]; omega
        · have h32b : ((c : Int) == 32) = false := by simp; omega
          rw [rscan, if_neg (fun e => h32 (by rw [← hc]; exact u8_32.1 e))] at hst
          by_cases hlo : c < 48
          · rw [if_pos (.inl (u8_lo.2 (by omega)))] at hst
            have HN : Hid (R = none) := hst.symm
            have hlo' : (c : Int) < 48 := by omega
            clear hst
            go_wp2_with fail
            go_ret2
            exact .inr ⟨.inl HN.out, rfl, HB.out⟩
          · by_cases hhi : 57 < c
            · rw [if_pos (.inr (.inl (u8_hi.2 (by omega))))] at hst
              have HN : Hid (R = none) := hst.symm
              have hlo' : ¬ (c : Int) < 48 := by omega
              have hhi' : (57 : Int) < c := by omega
              clear hst
              go_wp2_with fail
              go_ret2
              exact .inr ⟨.inl HN.out, rfl, HB.out⟩
            · by_cases hxn : 100 < xn
              · rw [if_pos (.inr (.inr (by omega)))] at hst
                have HN : Hid (R = none) := hst.symm
                have hlo' : ¬ (c : Int) < 48 := by omega
                have hhi' : ¬ (57 : Int) < c := by omega
                have hxn' : (100 : Int) < xn := by omega
                clear hst
                go_wp2_with fail
                go_ret2
                exact .inr ⟨.inl HN.out, rfl, HB.out⟩
              · rw [if_neg (not3 (fun e => by have := u8_lo.1 e; omega) (fun e => by have := u8_hi.1 e; omega) (by omega)), hc] at hst
                have HS := hid hst
                have hlo' : ¬ (c : Int) < 48 := by omega
                have hhi' : ¬ (57 : Int) < c := by omega
                have hxn' : ¬ (100 : Int) < xn := by omega
                have hw8 : IntKind.u8.wrap ((c : Int) - 48) = (c : Int) - 48 := by simp [IntKind.wrap, IntKind.bits]; omega
                clear hst
                go_wp2_with fail
                go_roundw
                case rel => exact ⟨k + 1, 10 * xn + (c - 48), true, ls, ao, cap, by omega, by omega, by go_num, congrArg (Value.int .i64) (by omega), rfl, rfl, by omega, HM, HB, .inl ⟨by omega, by rw [show ((10 * xn + (c - 48) : Nat) : Int) = 10 * (xn : Int) + ((c : Int) - 48) by omega]; exact HS.out⟩⟩
                case measure => simp [intOf]; omega
      · obtain rfl : k = S.size := by omega
        have hse := sc_end HC.out
        cases any with
        | false =>
          have HN : Hid (R = none) := hse
          clear hse
          go_wp2_with fail
          go_ret2
          exact .inr ⟨.inl HN.out, rfl, HB.out⟩
        | true =>
          have HN : Hid (R = some (ls ++ [(xn : Int)])) := hse
          clear hse
          go_wp2_with (at_builtin; refine wpList_append_row _ rfl _ _ 22 3 _ 1 8 rfl Tryd.underlying22 infoI rfl (by decide) (by decide) w.heap.size _ _ _ rfl (World.ownsRow.alloc HM.out _) (some ⟨wr.heap.size, 0, none⟩) 1 1 [.int .i64 xn] rfl rfl (fun h => by cases h) (row_new _ _ _) (one_num _) (by omega) (by have := HB.out.size; simp; omega) ?_; intro ao1 cap1 w1 hown1 hgrow1; apply Hid.out)
          obtain ⟨hm1, hb1⟩ := Mine.app (m := [(xn : Int)]) HM.out HB.out.size hown1 hgrow1
          have HM1 := hid hm1
          have HB1 := hid (HB.out.trans hb1)
          clear hm1 hb1 hown1 hgrow1
          unfold Hid
          go_wp2_with fail
          go_roundw
          case rel => exact ⟨S.size + 1, 0, false, ls ++ [(xn : Int)], ao1, cap1, by omega, by omega, by go_num, rfl, rfl, by simp, by simp; omega, HM1, HB1, .inr ⟨rfl, HN.out⟩⟩
          case measure => simp [intOf]
    · have HN : Hid (R = some ls) := by
        rcases HC.out with ⟨h, _⟩ | ⟨_, h⟩
        · omega
        · exact h
      by_cases hp : putT ls = S.data.toList
      · go_wp2_with (go_at_call 16; refine (rput_any ao ls ls.length cap _ rfl (by omega) (Mine.row HM.out)).mono ?_; rintro e w1 ⟨rfl, hw⟩; rw [hw]; clear hw w1)
        go_ret2
        exact .inl ⟨ls, ao, cap, HN.out, hp, rfl, HM.out, HB.out⟩
      · have hpb : (putT ls == S.toList) = false := by rw [ByteArray.toList_eq]; simpa using hp
        go_wp2_with (go_at_call 16; refine (rput_any ao ls ls.length cap _ rfl (by omega) (Mine.row HM.out)).mono ?_; rintro e w1 ⟨rfl, hw⟩; rw [hw]; clear hw w1)
        go_ret2
        exact .inr ⟨.inr ⟨ls, HN.out, hp⟩, rfl, HB.out⟩

set_option maxRecDepth 100000 in
set_option maxHeartbeats 1000000 in
theorem rparse_none (w : World) :
    Calls Tryd.prog 11 #[.string ⟨#[]⟩] w fun e w' => e = .returned (.tuple #[.slice none 0 0, .int .i64 0]) ∧ w' = w := by
  go_enter Tryd.func11, Tryd.ntmps11
  go_wp2
  go_ret2
  exact ⟨rfl, rfl⟩
/-- THE DOCUMENT'S PARSE: AS THE PROGRAM'S. -/
theorem rparse_any (S : ByteArray) (w : World) (hS : S.size ≤ 100000) :
    Calls Tryd.prog 11 #[.string S] w fun e w' => (∃ ls ao cap, parP S.data.toList = some ls ∧ e = .returned (.tuple #[.slice ao ls.length cap, .int .i64 0]) ∧ Mine w' w.heap.size ao cap ls ∧ Below w.heap.size w w') ∨ (parP S.data.toList = none ∧ e = .returned (.tuple #[.slice none 0 0, .int .i64 2]) ∧ Below w.heap.size w w') := by
  rw [← par_same]
  by_cases h0 : S.data.toList = []
  · obtain ⟨⟨d⟩⟩ := S
    simp only at h0
    subst h0
    refine (rparse_none w).mono ?_
    rintro e w' ⟨rfl, rfl⟩
    exact .inl ⟨[], none, 0, rfl, rfl, mine_nil _ _, Below.refl _ _⟩
  · have hne : S.toList.isEmpty = false := by
      rw [ByteArray.toList_eq]
      cases h : S.data.toList with
      | nil => exact absurd h h0
      | cons c r => rfl
    refine (rparse_core S _ w hS hne rfl).mono ?_
    rintro e w' (⟨ls, ao, cap, h1, h2, rfl, h3, h4⟩ | ⟨h1, rfl, h2⟩)
    · exact .inl ⟨ls, ao, cap, by simp [parR, h0, h1, h2], rfl, h3, h4⟩
    · refine .inr ⟨?_, rfl, h2⟩
      rcases h1 with h1 | ⟨ls, h1, h3⟩
      · simp [parR, h0, h1]
      · simp [parR, h0, h1, h3]
end Go.Proofs.YtaooijjppdfnfaaDoor.Sc
