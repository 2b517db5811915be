/- OrderSorts holds. -/
import Derived.Test.YthonibklaijejaaOrMerges
namespace Go.Proofs.Ythonibklaijejaa.Or
open Go.RowKit

theorem rsort_yes {ao : Option Addr} {n cap : Nat} {l : List K} {w : World} (hs : n ≤ 1000) (h : Has w ao n cap l) (ha : allOk l = true) :
    Calls Try.prog 20 #[.slice ao n cap] w fun e w' => ∃ ao' cap', e = .returned (.tuple #[.slice ao' (srt l).length cap', .int .i64 0]) ∧ Has w' ao' (srt l).length cap' (srt l) ∧ Below w.heap.size w w' := by
  have := rsort_any ao n cap l w hs h
  rwa [show srtL l = srt l by simp [srtL, ha], show srtE l = 0 by simp [srtE, ha]] at this
theorem rsort_no {ao : Option Addr} {n cap : Nat} {l : List K} {w : World} (hs : n ≤ 1000) (h : Has w ao n cap l) (ha : allOk l = false) :
    Calls Try.prog 20 #[.slice ao n cap] w fun e w' => ∃ ao' cap', e = .returned (.tuple #[.slice ao' 0 cap', .int .i64 2]) ∧ Has w' ao' 0 cap' [] ∧ Below w.heap.size w w' := by
  refine (rsort_any ao n cap l w hs h).mono ?_
  rintro e w' ⟨ao', cap', he, hh, hb⟩
  rw [show srtL l = [] by simp [srtL, ha], show srtE l = 2 by simp [srtE, ha]] at he
  rw [show srtL l = [] by simp [srtL, ha]] at hh
  exact ⟨ao', cap', he, hh, hb⟩
theorem sort_none {ao : Option Addr} {n cap : Nat} {l : List K} {w : World} (hs : n ≤ 1000) (h : Has w ao n cap l) (ha : allOk l = false) :
    Calls Try.prog 19 #[.slice ao n cap] w fun e w' => ∃ ao' cap', e = .returned (.tuple #[.slice ao' 0 cap', .int .i64 2]) ∧ Has w' ao' 0 cap' [] ∧ Below w.heap.size w w' := by
  refine (sort_any ao n cap l w hs h).mono ?_
  rintro e w' ⟨ao', cap', he, hh, hb⟩
  rw [show srtL l = [] by simp [srtL, ha], show srtE l = 2 by simp [srtE, ha]] at he
  rw [show srtL l = [] by simp [srtL, ha]] at hh
  exact ⟨ao', cap', he, hh, hb⟩
theorem rmerge_is {aa ab : Option Addr} {na nb ca cb : Nat} {la lb z : List K} {w : World} (hz : srt (la ++ lb) = z) (hna : na ≤ 400) (hnb : nb ≤ 400) (hA : Has w aa na ca la) (hB : Has w ab nb cb lb) :
    Calls Try.prog 27 #[.slice aa na ca, .slice ab nb cb] w fun e w' => ∃ ao' cap', e = .returned (.slice ao' z.length cap') ∧ Has w' ao' z.length cap' z ∧ Below w.heap.size w w' := by
  rw [← hz]
  exact rmerge_any aa ab na nb ca cb la lb w hna hnb hA hB
section
variable {w : World} {ao : Option Addr} {n cap : Nat} {l : List K} {x : K} {r : Bool}
theorem is_rising (hs : n ≤ 1000) (h : Has w ao n cap l) (hr : riseB l = r) : Calls Try.prog 22 #[.slice ao n cap] w fun e w' => e = .returned (.bool r) ∧ Below w.heap.size w w' := hr ▸ rising_any ao n cap l w (by omega) h
theorem is_rrising (hs : n ≤ 1000) (h : Has w ao n cap l) (hr : riseB l = r) : Calls Try.prog 23 #[.slice ao n cap] w fun e w' => e = .returned (.bool r) ∧ Below w.heap.size w w' := hr ▸ rrising_any ao n cap l w (by omega) h
theorem is_has (hs : n ≤ 1000) (h : Has w ao n cap l) (hr : hasB l x = r) : Calls Try.prog 24 #[.slice ao n cap, (.agg #[.int .i64 x.1, .int .i64 x.2])] w fun e w' => e = .returned (.bool r) ∧ Below w.heap.size w w' := hr ▸ has_any ao n cap l x w (by omega) h
theorem is_rhas (hs : n ≤ 1000) (h : Has w ao n cap l) (hr : hasB l x = r) : Calls Try.prog 25 #[.slice ao n cap, (.agg #[.int .i64 x.1, .int .i64 x.2])] w fun e w' => e = .returned (.bool r) ∧ Below w.heap.size w w' := hr ▸ rhas_any ao n cap l x w (by omega) h
end
theorem Has.later {W : World} {ao : Option Addr} {n cap : Nat} {l : List K} (h : Has W ao n cap l) (g : Later W) : Has g.now ao n cap l := h.below g.low
set_option maxRecDepth 100000 in
set_option maxHeartbeats 400000 in
theorem sorts_long (a0 a1 : Option Addr) (n0 n1 c0 c1 : Nat) (x : K) (w : World) (hn0 : n0 ≤ 9223372036854775807) (hn1 : n1 ≤ 9223372036854775807) (h : 100 < n0 ∨ (n0 ≤ 100 ∧ 100 < n1)) :
    Calls Try.prog 4 #[.slice a0 n0 c0, .slice a1 n1 c1, (.agg #[.int .i64 x.1, .int .i64 x.2])] w fun e w' => e = .returned (.bool true) ∧ Below w.heap.size w w' := by
  rcases h with h | ⟨h, h'⟩
  all_goals
    go_enter Try.func4, Try.ntmps4
    go_wp2_with (go_at_call 18; refine (live_any _).mono ?_; rintro e w9 ⟨rfl, b9⟩)
    go_ret
    exact ⟨rfl, q_trans (alloc_below w _) b9⟩
set_option maxRecDepth 100000 in
set_option maxHeartbeats 2000000 in
theorem sorts_short (a0 a1 : Option Addr) (l m : List K) (n0 n1 c0 c1 : Nat) (x : K) (w : World) (h0 : n0 ≤ 100) (h1 : n1 ≤ 100) (H0 : Hid (Has w a0 n0 c0 l)) (H1 : Hid (Has w a1 n1 c1 m)) :
    Calls Try.prog 4 #[.slice a0 n0 c0, .slice a1 n1 c1, (.agg #[.int .i64 x.1, .int .i64 x.2])] w fun e w' => e = .returned (.bool true) ∧ Below w.heap.size w w' := by
  have KL : Hid ((keys l).length = n0 * 2) := by rw [len_keys, H0.out.len]; exact rfl
  obtain ⟨r, hr⟩ : ∃ r, riseB l = r := ⟨_, rfl⟩
  obtain ⟨s, hs⟩ : ∃ s, hasB l x = s := ⟨_, rfl⟩
  have HR := hid hr
  have HS := hid hs
  have Z1 : Hid ((srt l).length ≤ 100) := Nat.le_trans (len_srt l) (by have := H0.out.len; omega)
  have Z2 : Hid ((srt m).length ≤ 100) := Nat.le_trans (len_srt m) (by have := H1.out.len; omega)
  clear hr hs
  cases ha : allOk l
  case false =>
    cases hb : allOk m
    case false =>
      have HA := hid ha
      have HB := hid hb
      clear ha hb
      go_enter Try.func4, Try.ntmps4
      go_wp2_with (at_builtin; go_loud (refine wpList_append_row _ rfl (.tmp 23) (.tmp 24) 36 23 _ 2 16 rfl Try.underlying36 infoK rfl (by decide) (by decide) (w.heap.size + 1) _ 0 [] rfl (by have h := own0 (w.alloc (.cells #[.int .i64 x.1, .int .i64 x.2] 23)) 23 2; rw [show (w.alloc (.cells #[.int .i64 x.1, .int .i64 x.2] 23)).heap.size = w.heap.size + 1 by simp] at h; exact h) a0 n0 c0 (keys l) rfl KL.out H0.out.nil ((H0.out.row.below (alloc_below _ _)).below (alloc_below _ _)) (keys_one _) (by omega) (by simp) ?_; intro ao3 cap3 w3 own3 grow3; apply Hid.out))
      have HX3 : Hid (AtK w3 ⟨w.heap.size, 0, none⟩ x ∧ Below w.heap.size w w3 ∧ Has w3 ao3 n0 cap3 l) := by
        have hb := (Below.refl (w.heap.size + 1) ((w.alloc (.cells #[.int .i64 x.1, .int .i64 x.2] 23)).alloc (.cells #[] 23))).grown grow3 (by simp) (fun k e => by cases e; exact Nat.le_refl _)
        have hb2 : Below (w.alloc (.cells #[.int .i64 x.1, .int .i64 x.2] 23)).heap.size (w.alloc (.cells #[.int .i64 x.1, .int .i64 x.2] 23)) w3 := by
          rw [show (w.alloc (.cells #[.int .i64 x.1, .int .i64 x.2] 23)).heap.size = w.heap.size + 1 by simp]
          have h := alloc_below (w.alloc (.cells #[.int .i64 x.1, .int .i64 x.2] 23)) (.cells #[] 23)
          rw [show (w.alloc (.cells #[.int .i64 x.1, .int .i64 x.2] 23)).heap.size = w.heap.size + 1 by simp] at h
          exact h.trans hb
        refine ⟨(at_new w x 23).below hb2, q_trans (alloc_below w _) hb2, Mine.has (B := w.heap.size + 1) ⟨H0.out.len, ?_⟩⟩
        rw [List.nil_append, Nat.zero_add] at own3
        exact own3
      clear own3 grow3
      unfold Hid
      go_wp2_with fail
      refine (sort_none (by omega) HX3.out.2.2 HA.out).mono ?_
      rintro e w4 ⟨ao4, cap4, rfl, s4, b4⟩
      have S4 := hid s4
      have A4 := hid (HX3.out.1.below b4)
      have L4 := hid (q_trans HX3.out.2.1 b4)
      clear s4 b4 HX3
      go_wp2_with fail
      refine (rsort_no (by omega) (H0.out.below L4.out) HA.out).mono ?_
      rintro e w5 ⟨ao5, cap5, rfl, s5, b5⟩
      have S5 := hid s5
      have S4b := hid (S4.out.below b5)
      have A5 := hid (A4.out.below b5)
      have L5 := hid (q_trans L4.out b5)
      clear s5 b5 S4 A4 L4
      go_wp2_with fail
      obtain ⟨f0, f1⟩ := A5.out.always
      have hne : Nonempty (Later w5) := ⟨⟨w5, Below.refl _ _⟩⟩
      have G0 := hid (H0.out.below L5.out)
      refine wp_region_later (by kernel_rfl) (by kernel_rfl) ?_
      repeat (go_big_quiet_step ((first | (go_at_call 21; exact later_call (same_yes (by have := Z1.out; omega) (S4b.out.later _) (S5.out.later _))) | (go_at_call 11; exact later_num _) | (go_at_call 22; exact later_call (is_rising (by omega) (G0.out.later _) HR.out)) | (go_at_call 23; exact later_call (is_rrising (by omega) (G0.out.later _) HR.out)) | (go_at_call 24; exact later_call (is_has (by omega) (G0.out.later _) HS.out)) | (go_at_call 25; exact later_call (is_rhas (by omega) (G0.out.later _) HS.out)))))
      refine wpQuiet_nil ?_
      rintro w6 ⟨⟨_, b6⟩, rfl⟩
      have S6 := hid (S5.out.below b6)
      have L6 := hid (q_trans L5.out b6)
      clear b6 f0 f1 hne G0 S5 S4b A5 L5
      go_wp2_with fail
      refine (rsort_no (by omega) (H1.out.below L6.out) HB.out).mono ?_
      rintro e w7 ⟨ao7, cap7, rfl, s7, b7⟩
      have S7 := hid s7
      have S6b := hid (S6.out.below b7)
      have L7 := hid (q_trans L6.out b7)
      clear s7 b7 S6 L6
      go_wp2_with (go_at_call 18; refine (live_any _).mono ?_; rintro e w9 ⟨rfl, b9⟩)
      go_ret
      exact ⟨rfl, q_trans L7.out b9⟩
    case true =>
      have HA := hid ha
      have HB := hid hb
      clear ha hb
      go_enter Try.func4, Try.ntmps4
      go_wp2_with (at_builtin; go_loud (refine wpList_append_row _ rfl (.tmp 23) (.tmp 24) 36 23 _ 2 16 rfl Try.underlying36 infoK rfl (by decide) (by decide) (w.heap.size + 1) _ 0 [] rfl (by have h := own0 (w.alloc (.cells #[.int .i64 x.1, .int .i64 x.2] 23)) 23 2; rw [show (w.alloc (.cells #[.int .i64 x.1, .int .i64 x.2] 23)).heap.size = w.heap.size + 1 by simp] at h; exact h) a0 n0 c0 (keys l) rfl KL.out H0.out.nil ((H0.out.row.below (alloc_below _ _)).below (alloc_below _ _)) (keys_one _) (by omega) (by simp) ?_; intro ao3 cap3 w3 own3 grow3; apply Hid.out))
      have HX3 : Hid (AtK w3 ⟨w.heap.size, 0, none⟩ x ∧ Below w.heap.size w w3 ∧ Has w3 ao3 n0 cap3 l) := by
        have hb := (Below.refl (w.heap.size + 1) ((w.alloc (.cells #[.int .i64 x.1, .int .i64 x.2] 23)).alloc (.cells #[] 23))).grown grow3 (by simp) (fun k e => by cases e; exact Nat.le_refl _)
        have hb2 : Below (w.alloc (.cells #[.int .i64 x.1, .int .i64 x.2] 23)).heap.size (w.alloc (.cells #[.int .i64 x.1, .int .i64 x.2] 23)) w3 := by
          rw [show (w.alloc (.cells #[.int .i64 x.1, .int .i64 x.2] 23)).heap.size = w.heap.size + 1 by simp]
          have h := alloc_below (w.alloc (.cells #[.int .i64 x.1, .int .i64 x.2] 23)) (.cells #[] 23)
          rw [show (w.alloc (.cells #[.int .i64 x.1, .int .i64 x.2] 23)).heap.size = w.heap.size + 1 by simp] at h
          exact h.trans hb
        refine ⟨(at_new w x 23).below hb2, q_trans (alloc_below w _) hb2, Mine.has (B := w.heap.size + 1) ⟨H0.out.len, ?_⟩⟩
        rw [List.nil_append, Nat.zero_add] at own3
        exact own3
      clear own3 grow3
      unfold Hid
      go_wp2_with fail
      refine (sort_none (by omega) HX3.out.2.2 HA.out).mono ?_
      rintro e w4 ⟨ao4, cap4, rfl, s4, b4⟩
      have S4 := hid s4
      have A4 := hid (HX3.out.1.below b4)
      have L4 := hid (q_trans HX3.out.2.1 b4)
      clear s4 b4 HX3
      go_wp2_with fail
      refine (rsort_no (by omega) (H0.out.below L4.out) HA.out).mono ?_
      rintro e w5 ⟨ao5, cap5, rfl, s5, b5⟩
      have S5 := hid s5
      have S4b := hid (S4.out.below b5)
      have A5 := hid (A4.out.below b5)
      have L5 := hid (q_trans L4.out b5)
      clear s5 b5 S4 A4 L4
      go_wp2_with fail
      obtain ⟨f0, f1⟩ := A5.out.always
      have hne : Nonempty (Later w5) := ⟨⟨w5, Below.refl _ _⟩⟩
      have G0 := hid (H0.out.below L5.out)
      refine wp_region_later (by kernel_rfl) (by kernel_rfl) ?_
      repeat (go_big_quiet_step ((first | (go_at_call 21; exact later_call (same_yes (by have := Z1.out; omega) (S4b.out.later _) (S5.out.later _))) | (go_at_call 11; exact later_num _) | (go_at_call 22; exact later_call (is_rising (by omega) (G0.out.later _) HR.out)) | (go_at_call 23; exact later_call (is_rrising (by omega) (G0.out.later _) HR.out)) | (go_at_call 24; exact later_call (is_has (by omega) (G0.out.later _) HS.out)) | (go_at_call 25; exact later_call (is_rhas (by omega) (G0.out.later _) HS.out)))))
      refine wpQuiet_nil ?_
      rintro w6 ⟨⟨_, b6⟩, rfl⟩
      have S6 := hid (S5.out.below b6)
      have L6 := hid (q_trans L5.out b6)
      clear b6 f0 f1 hne G0 S5 S4b A5 L5
      go_wp2_with fail
      refine (rsort_yes (by omega) (H1.out.below L6.out) HB.out).mono ?_
      rintro e w7 ⟨ao7, cap7, rfl, s7, b7⟩
      have S7 := hid s7
      have S6b := hid (S6.out.below b7)
      have L7 := hid (q_trans L6.out b7)
      clear s7 b7 S6 L6
      go_wp2_with (go_at_call 18; refine (live_any _).mono ?_; rintro e w9 ⟨rfl, b9⟩)
      go_ret
      exact ⟨rfl, q_trans L7.out b9⟩
  case true =>
    cases hb : allOk m
    case false =>
      have HA := hid ha
      have HB := hid hb
      clear ha hb
      go_enter Try.func4, Try.ntmps4
      go_wp2_with (at_builtin; go_loud (refine wpList_append_row _ rfl (.tmp 23) (.tmp 24) 36 23 _ 2 16 rfl Try.underlying36 infoK rfl (by decide) (by decide) (w.heap.size + 1) _ 0 [] rfl (by have h := own0 (w.alloc (.cells #[.int .i64 x.1, .int .i64 x.2] 23)) 23 2; rw [show (w.alloc (.cells #[.int .i64 x.1, .int .i64 x.2] 23)).heap.size = w.heap.size + 1 by simp] at h; exact h) a0 n0 c0 (keys l) rfl KL.out H0.out.nil ((H0.out.row.below (alloc_below _ _)).below (alloc_below _ _)) (keys_one _) (by omega) (by simp) ?_; intro ao3 cap3 w3 own3 grow3; apply Hid.out))
      have HX3 : Hid (AtK w3 ⟨w.heap.size, 0, none⟩ x ∧ Below w.heap.size w w3 ∧ Has w3 ao3 n0 cap3 l) := by
        have hb := (Below.refl (w.heap.size + 1) ((w.alloc (.cells #[.int .i64 x.1, .int .i64 x.2] 23)).alloc (.cells #[] 23))).grown grow3 (by simp) (fun k e => by cases e; exact Nat.le_refl _)
        have hb2 : Below (w.alloc (.cells #[.int .i64 x.1, .int .i64 x.2] 23)).heap.size (w.alloc (.cells #[.int .i64 x.1, .int .i64 x.2] 23)) w3 := by
          rw [show (w.alloc (.cells #[.int .i64 x.1, .int .i64 x.2] 23)).heap.size = w.heap.size + 1 by simp]
          have h := alloc_below (w.alloc (.cells #[.int .i64 x.1, .int .i64 x.2] 23)) (.cells #[] 23)
          rw [show (w.alloc (.cells #[.int .i64 x.1, .int .i64 x.2] 23)).heap.size = w.heap.size + 1 by simp] at h
          exact h.trans hb
        refine ⟨(at_new w x 23).below hb2, q_trans (alloc_below w _) hb2, Mine.has (B := w.heap.size + 1) ⟨H0.out.len, ?_⟩⟩
        rw [List.nil_append, Nat.zero_add] at own3
        exact own3
      clear own3 grow3
      unfold Hid
      go_wp2_with fail
      refine (sort_yes (by omega) HX3.out.2.2 HA.out).mono ?_
      rintro e w4 ⟨ao4, cap4, rfl, s4, b4⟩
      have S4 := hid s4
      have A4 := hid (HX3.out.1.below b4)
      have L4 := hid (q_trans HX3.out.2.1 b4)
      clear s4 b4 HX3
      go_wp2_with fail
      refine (rsort_yes (by omega) (H0.out.below L4.out) HA.out).mono ?_
      rintro e w5 ⟨ao5, cap5, rfl, s5, b5⟩
      have S5 := hid s5
      have S4b := hid (S4.out.below b5)
      have A5 := hid (A4.out.below b5)
      have L5 := hid (q_trans L4.out b5)
      clear s5 b5 S4 A4 L4
      go_wp2_with fail
      obtain ⟨f0, f1⟩ := A5.out.always
      have hne : Nonempty (Later w5) := ⟨⟨w5, Below.refl _ _⟩⟩
      have G0 := hid (H0.out.below L5.out)
      refine wp_region_later (by kernel_rfl) (by kernel_rfl) ?_
      repeat (go_big_quiet_step ((first | (go_at_call 21; exact later_call (same_yes (by have := Z1.out; omega) (S4b.out.later _) (S5.out.later _))) | (go_at_call 11; exact later_num _) | (go_at_call 22; exact later_call (is_rising (by omega) (G0.out.later _) HR.out)) | (go_at_call 23; exact later_call (is_rrising (by omega) (G0.out.later _) HR.out)) | (go_at_call 24; exact later_call (is_has (by omega) (G0.out.later _) HS.out)) | (go_at_call 25; exact later_call (is_rhas (by omega) (G0.out.later _) HS.out)))))
      refine wpQuiet_nil ?_
      rintro w6 ⟨⟨_, b6⟩, rfl⟩
      have S6 := hid (S5.out.below b6)
      have L6 := hid (q_trans L5.out b6)
      clear b6 f0 f1 hne G0 S5 S4b A5 L5
      go_wp2_with fail
      refine (rsort_no (by omega) (H1.out.below L6.out) HB.out).mono ?_
      rintro e w7 ⟨ao7, cap7, rfl, s7, b7⟩
      have S7 := hid s7
      have S6b := hid (S6.out.below b7)
      have L7 := hid (q_trans L6.out b7)
      clear s7 b7 S6 L6
      go_wp2_with (go_at_call 18; refine (live_any _).mono ?_; rintro e w9 ⟨rfl, b9⟩)
      go_ret
      exact ⟨rfl, q_trans L7.out b9⟩
    case true =>
      have HA := hid ha
      have HB := hid hb
      clear ha hb
      go_enter Try.func4, Try.ntmps4
      go_wp2_with (at_builtin; go_loud (refine wpList_append_row _ rfl (.tmp 23) (.tmp 24) 36 23 _ 2 16 rfl Try.underlying36 infoK rfl (by decide) (by decide) (w.heap.size + 1) _ 0 [] rfl (by have h := own0 (w.alloc (.cells #[.int .i64 x.1, .int .i64 x.2] 23)) 23 2; rw [show (w.alloc (.cells #[.int .i64 x.1, .int .i64 x.2] 23)).heap.size = w.heap.size + 1 by simp] at h; exact h) a0 n0 c0 (keys l) rfl KL.out H0.out.nil ((H0.out.row.below (alloc_below _ _)).below (alloc_below _ _)) (keys_one _) (by omega) (by simp) ?_; intro ao3 cap3 w3 own3 grow3; apply Hid.out))
      have HX3 : Hid (AtK w3 ⟨w.heap.size, 0, none⟩ x ∧ Below w.heap.size w w3 ∧ Has w3 ao3 n0 cap3 l) := by
        have hb := (Below.refl (w.heap.size + 1) ((w.alloc (.cells #[.int .i64 x.1, .int .i64 x.2] 23)).alloc (.cells #[] 23))).grown grow3 (by simp) (fun k e => by cases e; exact Nat.le_refl _)
        have hb2 : Below (w.alloc (.cells #[.int .i64 x.1, .int .i64 x.2] 23)).heap.size (w.alloc (.cells #[.int .i64 x.1, .int .i64 x.2] 23)) w3 := by
          rw [show (w.alloc (.cells #[.int .i64 x.1, .int .i64 x.2] 23)).heap.size = w.heap.size + 1 by simp]
          have h := alloc_below (w.alloc (.cells #[.int .i64 x.1, .int .i64 x.2] 23)) (.cells #[] 23)
          rw [show (w.alloc (.cells #[.int .i64 x.1, .int .i64 x.2] 23)).heap.size = w.heap.size + 1 by simp] at h
          exact h.trans hb
        refine ⟨(at_new w x 23).below hb2, q_trans (alloc_below w _) hb2, Mine.has (B := w.heap.size + 1) ⟨H0.out.len, ?_⟩⟩
        rw [List.nil_append, Nat.zero_add] at own3
        exact own3
      clear own3 grow3
      unfold Hid
      go_wp2_with fail
      refine (sort_yes (by omega) HX3.out.2.2 HA.out).mono ?_
      rintro e w4 ⟨ao4, cap4, rfl, s4, b4⟩
      have S4 := hid s4
      have A4 := hid (HX3.out.1.below b4)
      have L4 := hid (q_trans HX3.out.2.1 b4)
      clear s4 b4 HX3
      go_wp2_with fail
      refine (rsort_yes (by omega) (H0.out.below L4.out) HA.out).mono ?_
      rintro e w5 ⟨ao5, cap5, rfl, s5, b5⟩
      have S5 := hid s5
      have S4b := hid (S4.out.below b5)
      have A5 := hid (A4.out.below b5)
      have L5 := hid (q_trans L4.out b5)
      clear s5 b5 S4 A4 L4
      go_wp2_with fail
      obtain ⟨f0, f1⟩ := A5.out.always
      have hne : Nonempty (Later w5) := ⟨⟨w5, Below.refl _ _⟩⟩
      have G0 := hid (H0.out.below L5.out)
      refine wp_region_later (by kernel_rfl) (by kernel_rfl) ?_
      repeat (go_big_quiet_step ((first | (go_at_call 21; exact later_call (same_yes (by have := Z1.out; omega) (S4b.out.later _) (S5.out.later _))) | (go_at_call 11; exact later_num _) | (go_at_call 22; exact later_call (is_rising (by omega) (G0.out.later _) HR.out)) | (go_at_call 23; exact later_call (is_rrising (by omega) (G0.out.later _) HR.out)) | (go_at_call 24; exact later_call (is_has (by omega) (G0.out.later _) HS.out)) | (go_at_call 25; exact later_call (is_rhas (by omega) (G0.out.later _) HS.out)))))
      refine wpQuiet_nil ?_
      rintro w6 ⟨⟨_, b6⟩, rfl⟩
      have S6 := hid (S5.out.below b6)
      have L6 := hid (q_trans L5.out b6)
      clear b6 f0 f1 hne G0 S5 S4b A5 L5
      go_wp2_with fail
      refine (rsort_yes (by omega) (H1.out.below L6.out) HB.out).mono ?_
      rintro e w7 ⟨ao7, cap7, rfl, s7, b7⟩
      have S7 := hid s7
      have S6b := hid (S6.out.below b7)
      have L7 := hid (q_trans L6.out b7)
      clear s7 b7 S6 L6
      have K1 : Hid ((keys (srt l)).length = (srt l).length * 2) := len_keys _
      have K2 : Hid ((keys (srt m)).length = (srt m).length * 2) := len_keys _
      go_wp2_with (at_builtin; go_loud (refine wpList_append_row _ rfl (.tmp 72) (.tmp 73) 36 23 _ 2 16 rfl Try.underlying36 infoK rfl (by decide) (by decide) w7.heap.size _ 0 [] rfl (own0 w7 23 2) ao5 (srt l).length cap5 (keys (srt l)) rfl K1.out S6b.out.nil (S6b.out.row.below (alloc_below _ _)) (keys_one _) (by have := Z1.out; omega) (alloc_below w7 _).size ?_; intro ao8 cap8 w8 own8 grow8; apply Hid.out))
      obtain ⟨m8, l8⟩ := Mine.append (mine0 w7) (alloc_below w7 _).size (k := srt l) rfl own8 grow8
      rw [List.nil_append, Nat.zero_add] at m8
      have N8 := hid ((alloc_below w7 _).trans l8)
      have M8 := hid m8.has
      have S8 := hid (S6b.out.below N8.out)
      have U8 := hid (S7.out.below N8.out)
      have L8 := hid (q_trans L7.out N8.out)
      clear own8 grow8 m8 l8 S6b S7 L7 N8
      unfold Hid
      go_wp2_with (at_builtin; go_loud (refine wpList_append_row _ rfl (.tmp 75) (.tmp 76) 36 23 _ 2 16 rfl Try.underlying36 infoK rfl (by decide) (by decide) w8.heap.size _ 0 [] rfl (own0 w8 23 2) ao7 (srt m).length cap7 (keys (srt m)) rfl K2.out U8.out.nil (U8.out.row.below (alloc_below _ _)) (keys_one _) (by have := Z2.out; omega) (alloc_below w8 _).size ?_; intro ao10 cap10 w10 own10 grow10; apply Hid.out))
      obtain ⟨m10, l10⟩ := Mine.append (mine0 w8) (alloc_below w8 _).size (k := srt m) rfl own10 grow10
      rw [List.nil_append, Nat.zero_add] at m10
      have N10 := hid ((alloc_below w8 _).trans l10)
      have M10 := hid m10.has
      have M8b := hid (M8.out.below N10.out)
      have S10 := hid (S8.out.below N10.out)
      have U10 := hid (U8.out.below N10.out)
      have L10 := hid (q_trans L8.out N10.out)
      clear own10 grow10 m10 l10 S8 U8 L8 N10 M8
      unfold Hid
      go_wp2_with fail
      refine (merge_is (srt_both l m) (by have := Z1.out; omega) (by have := Z2.out; omega) M8b.out M10.out (rise_srt _) (rise_srt _)).mono ?_
      rintro e w11 ⟨ao11, cap11, rfl, t11, b11⟩
      have T11 := hid t11
      have S11 := hid (S10.out.below b11)
      have U11 := hid (U10.out.below b11)
      have L11 := hid (q_trans L10.out b11)
      clear b11 t11 M8b M10 S10 U10 L10
      go_wp2_with fail
      refine (rmerge_is (srt_both l m) (by have := Z1.out; omega) (by have := Z2.out; omega) S11.out U11.out).mono ?_
      rintro e w12 ⟨ao12, cap12, rfl, t12, b12⟩
      have T12 := hid t12
      have T11b := hid (T11.out.below b12)
      have L12 := hid (q_trans L11.out b12)
      have Z3 : Hid ((srt (l ++ m)).length ≤ 200) := Nat.le_trans (len_srt (l ++ m)) (by have := H0.out.len; have := H1.out.len; simp; omega)
      clear b12 t12 S11 U11 L11 T11
      go_wp2_with fail
      refine (same_yes (by have := Z3.out; omega) T11b.out T12.out).mono ?_
      rintro e w13 ⟨rfl, b13⟩
      have L13 := hid (q_trans L12.out b13)
      clear b13 T11b T12 L12
      go_wp2_with (go_at_call 18; refine (live_any _).mono ?_; rintro e w9 ⟨rfl, b9⟩)
      go_ret
      exact ⟨rfl, q_trans L13.out b9⟩
/-- OrderSorts ANSWERS true. -/
theorem sorts_any (a0 : Option Addr) (l : List K) (n0 c0 : Nat) (a1 : Option Addr) (m : List K) (n1 c1 : Nat) (x : K) (w : World) (hn0 : n0 ≤ 9223372036854775807) (H0 : Has w a0 n0 c0 l) (hn1 : n1 ≤ 9223372036854775807) (H1 : Has w a1 n1 c1 m) :
    Calls Try.prog 4 #[.slice a0 n0 c0, .slice a1 n1 c1, (.agg #[.int .i64 x.1, .int .i64 x.2])] w fun e w' => e = .returned (.bool true) ∧ Below w.heap.size w w' := by
  by_cases h : n0 ≤ 100 ∧ n1 ≤ 100
  · exact sorts_short a0 a1 l m n0 n1 c0 c1 x w h.1 h.2 H0 H1
  · exact sorts_long a0 a1 n0 n1 c0 c1 x w hn0 hn1 (by omega)
end Go.Proofs.Ythonibklaijejaa.Or
