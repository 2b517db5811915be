/- OrderMerges holds. -/
import Derived.Test.YthonibklaijejaaOrSay
namespace Go.Proofs.Ythonibklaijejaa.Or
open Go.RowKit

theorem srt_both (l m : List K) : srt (srt l ++ srt m) = srt (l ++ m) := srt_same (fun x => by simp [mem_srt])
theorem srt_swap (l m : List K) : srt (srt m ++ srt l) = srt (l ++ m) := srt_same (fun x => by simp [mem_srt, or_comm])
theorem srt_self (l : List K) : srt (srt l ++ srt l) = srt l := srt_same (fun x => by simp [mem_srt])
/-- What Sort says of a list whose keys all may be, of one with a key that may not. -/
theorem sort_yes {ao : Option Addr} {n cap : Nat} {l : List K} {w : World} (hs : n ≤ 1000) (h : Has w ao n cap l) (ha : allOk l = true) :
    Calls Try.prog 19 #[.slice ao n cap] w fun e w' => ∃ ao' cap', e = .returned (.tuple #[.slice ao' (srt l).length cap', .int .i64 0]) ∧ Has w' ao' (srt l).length cap' (srt l) ∧ Below w.heap.size w w' := by
  have := sort_any ao n cap l w hs h
  rwa [show srtL l = srt l by simp [srtL, ha], show srtE l = 0 by simp [srtE, ha]] at this
theorem sort_no {ao : Option Addr} {n cap : Nat} {l : List K} {w : World} (hs : n ≤ 1000) (h : Has w ao n cap l) (ha : allOk l = false) :
    Calls Try.prog 19 #[.slice ao n cap] w fun e w' => ∃ ao' cap', e = .returned (.tuple #[.slice ao' 0 cap', .int .i64 2]) ∧ Below w.heap.size w w' := by
  refine (sort_any ao n cap l w hs h).mono ?_
  rintro e w' ⟨ao', cap', he, _, hb⟩
  rw [show srtL l = [] by simp [srtL, ha], show srtE l = 2 by simp [srtE, ha]] at he
  exact ⟨ao', cap', he, hb⟩
theorem merge_is {aa ab : Option Addr} {na nb ca cb : Nat} {la lb z : List K} {w : World} (hz : srt (la ++ lb) = z) (hna : na ≤ 1000) (hnb : nb ≤ 1000) (hA : Has w aa na ca la) (hB : Has w ab nb cb lb) (ra : Rise la) (rb : Rise lb) :
    Calls Try.prog 26 #[.slice aa na ca, .slice ab nb cb] w fun e w' => ∃ ao' cap', e = .returned (.slice ao' z.length cap') ∧ Has w' ao' z.length cap' z ∧ Below w.heap.size w w' := by
  rw [← hz]
  exact merge_any aa ab na nb ca cb la lb w hna hnb hA hB ra rb
set_option maxRecDepth 100000 in
set_option maxHeartbeats 400000 in
theorem merges_long (a0 a1 : Option Addr) (n0 n1 c0 c1 : Nat) (w : World) (hn0 : n0 ≤ 9223372036854775807) (hn1 : n1 ≤ 9223372036854775807) (h : 100 < n0 ∨ (n0 ≤ 100 ∧ 100 < n1)) :
    Calls Try.prog 8 #[.slice a0 n0 c0, .slice a1 n1 c1] w fun e w' => e = .returned (.bool true) ∧ Below w.heap.size w w' := by
  rcases h with h | ⟨h, h'⟩
  all_goals
    go_enter Try.func8, Try.ntmps8
    go_wp2_with (go_at_call 18; refine (live_any _).mono ?_; rintro e w9 ⟨rfl, b9⟩)
    go_ret
    exact ⟨rfl, b9⟩
/-- append([]api.Key{}, ..) in a walk. -/
theorem mine0 (w : World) : Mine (w.alloc (.cells #[] 23)) w.heap.size (some ⟨w.heap.size, 0, none⟩) 0 0 [] := ⟨rfl, own0 w 23 2⟩
set_option maxRecDepth 100000 in
set_option maxHeartbeats 2000000 in
theorem merges_short (a0 a1 : Option Addr) (l m : List K) (n0 n1 c0 c1 : Nat) (w : World) (h0 : n0 ≤ 100) (h1 : n1 ≤ 100) (H0 : Hid (Has w a0 n0 c0 l)) (H1 : Hid (Has w a1 n1 c1 m)) :
    Calls Try.prog 8 #[.slice a0 n0 c0, .slice a1 n1 c1] w fun e w' => e = .returned (.bool true) ∧ Below w.heap.size w w' := by
  have KL : Hid ((keys l).length = n0 * 2) := by rw [len_keys, H0.out.len]; exact rfl
  have KM : Hid ((keys m).length = n1 * 2) := by rw [len_keys, H1.out.len]; exact rfl
  have LL : Hid (n0 + n1 = (l ++ m).length) := by unfold Hid; rw [H0.out.len, H1.out.len]; simp
  cases ha : allOk l
  case false =>
    cases hb : allOk m
    case false =>
      have HAB : Hid (allOk (l ++ m) = false) := by simp only [allOk] at ha hb; simp [Hid, allOk, ha, hb]
      have HA := hid ha
      have HB := hid hb
      clear ha hb
      go_enter Try.func8, Try.ntmps8
      go_wp2_with fail
      refine (sort_no (by omega) H0.out HA.out).mono ?_
      rintro e w1 ⟨ao1, cap1, rfl, b1⟩
      have L1 := hid b1
      clear b1
      go_wp2_with fail
      refine (sort_no (by omega) (H1.out.below L1.out) HB.out).mono ?_
      rintro e w2 ⟨ao2, cap2, rfl, b2⟩
      have L2 := hid (q_trans L1.out b2)
      clear b2 L1
      go_wp2_with (at_builtin; go_loud (refine wpList_append_row _ rfl (.tmp 31) (.tmp 32) 36 23 _ 2 16 rfl Try.underlying36 infoK rfl (by decide) (by decide) w2.heap.size _ 0 [] rfl (own0 w2 23 2) a0 n0 c0 (keys l) rfl KL.out H0.out.nil ((H0.out.row.below L2.out).below (alloc_below _ _)) (keys_one _) (by omega) (alloc_below w2 _).size ?_; intro ao3 cap3 w3 own3 grow3; apply Hid.out))
      obtain ⟨m3, l3⟩ := Mine.append (mine0 w2) (alloc_below w2 _).size (k := l) H0.out.len own3 grow3
      rw [List.nil_append] at m3
      have M3 := hid m3
      have L3 := hid (q_trans L2.out ((alloc_below w2 _).trans l3))
      have B3 := hid ((alloc_below w2 _).trans l3).size
      clear own3 grow3 m3 l3
      unfold Hid
      go_wp2_with (at_builtin; go_loud (refine wpList_append_row _ rfl (.tmp 33) (.tmp 34) 36 23 _ 2 16 rfl Try.underlying36 infoK rfl (by decide) (by decide) w2.heap.size _ n0 (keys l) rfl (by have h := M3.out.2; rw [Nat.zero_add] at h; exact h) a1 n1 c1 (keys m) rfl KM.out H1.out.nil (H1.out.row.below L3.out) (keys_one _) (by omega) B3.out ?_; intro ao4 cap4 w4 own4 grow4; apply Hid.out))
      obtain ⟨m4, l4⟩ := Mine.append (l := l) (k := m) (n := n0) ⟨H0.out.len, by have h := M3.out.2; rw [Nat.zero_add] at h; exact h⟩ B3.out H1.out.len own4 grow4
      have H4 := hid m4.has
      have L4 := hid (L3.out.trans (l4.mono L2.out.size))
      clear own4 grow4 m4 l4
      unfold Hid
      go_wp2_with fail
      refine (sort_no (by omega) H4.out HAB.out).mono ?_
      rintro e w5 ⟨ao5, cap5, rfl, b5⟩
      have L5 := hid (q_trans L4.out b5)
      clear b5
      go_wp2_with (first | (go_at_call 18; refine (live_any _).mono ?_; rintro e w9 ⟨rfl, b9⟩) | (go_at_call 11; refine (num_any _ _).mono ?_; rintro e w' ⟨rfl, rfl⟩))
      go_ret
      exact ⟨rfl, q_trans L5.out b9⟩
    case true =>
      have HAB : Hid (allOk (l ++ m) = false) := by simp only [allOk] at ha hb; simp [Hid, allOk, ha, hb]
      have HA := hid ha
      have HB := hid hb
      clear ha hb
      go_enter Try.func8, Try.ntmps8
      go_wp2_with fail
      refine (sort_no (by omega) H0.out HA.out).mono ?_
      rintro e w1 ⟨ao1, cap1, rfl, b1⟩
      have L1 := hid b1
      clear b1
      go_wp2_with fail
      refine (sort_yes (by omega) (H1.out.below L1.out) HB.out).mono ?_
      rintro e w2 ⟨ao2, cap2, rfl, s2, b2⟩
      have S2 := hid s2
      clear s2
      have L2 := hid (q_trans L1.out b2)
      clear b2 L1
      go_wp2_with (at_builtin; go_loud (refine wpList_append_row _ rfl (.tmp 31) (.tmp 32) 36 23 _ 2 16 rfl Try.underlying36 infoK rfl (by decide) (by decide) w2.heap.size _ 0 [] rfl (own0 w2 23 2) a0 n0 c0 (keys l) rfl KL.out H0.out.nil ((H0.out.row.below L2.out).below (alloc_below _ _)) (keys_one _) (by omega) (alloc_below w2 _).size ?_; intro ao3 cap3 w3 own3 grow3; apply Hid.out))
      obtain ⟨m3, l3⟩ := Mine.append (mine0 w2) (alloc_below w2 _).size (k := l) H0.out.len own3 grow3
      rw [List.nil_append] at m3
      have M3 := hid m3
      have L3 := hid (q_trans L2.out ((alloc_below w2 _).trans l3))
      have B3 := hid ((alloc_below w2 _).trans l3).size
      clear own3 grow3 m3 l3
      unfold Hid
      go_wp2_with (at_builtin; go_loud (refine wpList_append_row _ rfl (.tmp 33) (.tmp 34) 36 23 _ 2 16 rfl Try.underlying36 infoK rfl (by decide) (by decide) w2.heap.size _ n0 (keys l) rfl (by have h := M3.out.2; rw [Nat.zero_add] at h; exact h) a1 n1 c1 (keys m) rfl KM.out H1.out.nil (H1.out.row.below L3.out) (keys_one _) (by omega) B3.out ?_; intro ao4 cap4 w4 own4 grow4; apply Hid.out))
      obtain ⟨m4, l4⟩ := Mine.append (l := l) (k := m) (n := n0) ⟨H0.out.len, by have h := M3.out.2; rw [Nat.zero_add] at h; exact h⟩ B3.out H1.out.len own4 grow4
      have H4 := hid m4.has
      have L4 := hid (L3.out.trans (l4.mono L2.out.size))
      clear own4 grow4 m4 l4
      unfold Hid
      go_wp2_with fail
      refine (sort_no (by omega) H4.out HAB.out).mono ?_
      rintro e w5 ⟨ao5, cap5, rfl, b5⟩
      have L5 := hid (q_trans L4.out b5)
      clear b5
      go_wp2_with (first | (go_at_call 18; refine (live_any _).mono ?_; rintro e w9 ⟨rfl, b9⟩) | (go_at_call 11; refine (num_any _ _).mono ?_; rintro e w' ⟨rfl, rfl⟩))
      go_ret
      exact ⟨rfl, q_trans L5.out b9⟩
  case true =>
    cases hb : allOk m
    case false =>
      have HAB : Hid (allOk (l ++ m) = false) := by simp only [allOk] at ha hb; simp [Hid, allOk, ha, hb]
      have HA := hid ha
      have HB := hid hb
      clear ha hb
      go_enter Try.func8, Try.ntmps8
      go_wp2_with fail
      refine (sort_yes (by omega) H0.out HA.out).mono ?_
      rintro e w1 ⟨ao1, cap1, rfl, s1, b1⟩
      have S1 := hid s1
      clear s1
      have L1 := hid b1
      clear b1
      go_wp2_with fail
      refine (sort_no (by omega) (H1.out.below L1.out) HB.out).mono ?_
      rintro e w2 ⟨ao2, cap2, rfl, b2⟩
      have S1b := hid (S1.out.below b2)
      clear S1
      have L2 := hid (q_trans L1.out b2)
      clear b2 L1
      go_wp2_with (at_builtin; go_loud (refine wpList_append_row _ rfl (.tmp 31) (.tmp 32) 36 23 _ 2 16 rfl Try.underlying36 infoK rfl (by decide) (by decide) w2.heap.size _ 0 [] rfl (own0 w2 23 2) a0 n0 c0 (keys l) rfl KL.out H0.out.nil ((H0.out.row.below L2.out).below (alloc_below _ _)) (keys_one _) (by omega) (alloc_below w2 _).size ?_; intro ao3 cap3 w3 own3 grow3; apply Hid.out))
      obtain ⟨m3, l3⟩ := Mine.append (mine0 w2) (alloc_below w2 _).size (k := l) H0.out.len own3 grow3
      rw [List.nil_append] at m3
      have M3 := hid m3
      have L3 := hid (q_trans L2.out ((alloc_below w2 _).trans l3))
      have B3 := hid ((alloc_below w2 _).trans l3).size
      clear own3 grow3 m3 l3
      unfold Hid
      go_wp2_with (at_builtin; go_loud (refine wpList_append_row _ rfl (.tmp 33) (.tmp 34) 36 23 _ 2 16 rfl Try.underlying36 infoK rfl (by decide) (by decide) w2.heap.size _ n0 (keys l) rfl (by have h := M3.out.2; rw [Nat.zero_add] at h; exact h) a1 n1 c1 (keys m) rfl KM.out H1.out.nil (H1.out.row.below L3.out) (keys_one _) (by omega) B3.out ?_; intro ao4 cap4 w4 own4 grow4; apply Hid.out))
      obtain ⟨m4, l4⟩ := Mine.append (l := l) (k := m) (n := n0) ⟨H0.out.len, by have h := M3.out.2; rw [Nat.zero_add] at h; exact h⟩ B3.out H1.out.len own4 grow4
      have H4 := hid m4.has
      have L4 := hid (L3.out.trans (l4.mono L2.out.size))
      clear own4 grow4 m4 l4
      unfold Hid
      go_wp2_with fail
      refine (sort_no (by omega) H4.out HAB.out).mono ?_
      rintro e w5 ⟨ao5, cap5, rfl, b5⟩
      have L5 := hid (q_trans L4.out b5)
      clear b5
      go_wp2_with (first | (go_at_call 18; refine (live_any _).mono ?_; rintro e w9 ⟨rfl, b9⟩) | (go_at_call 11; refine (num_any _ _).mono ?_; rintro e w' ⟨rfl, rfl⟩))
      go_ret
      exact ⟨rfl, q_trans L5.out b9⟩
    case true =>
      have HAB : Hid (allOk (l ++ m) = true) := by simp only [allOk] at ha hb; simp [Hid, allOk, ha, hb]
      have HA := hid ha
      have HB := hid hb
      clear ha hb
      go_enter Try.func8, Try.ntmps8
      go_wp2_with fail
      refine (sort_yes (by omega) H0.out HA.out).mono ?_
      rintro e w1 ⟨ao1, cap1, rfl, s1, b1⟩
      have S1 := hid s1
      clear s1
      have L1 := hid b1
      clear b1
      go_wp2_with fail
      refine (sort_yes (by omega) (H1.out.below L1.out) HB.out).mono ?_
      rintro e w2 ⟨ao2, cap2, rfl, s2, b2⟩
      have S2 := hid s2
      clear s2
      have S1b := hid (S1.out.below b2)
      clear S1
      have L2 := hid (q_trans L1.out b2)
      clear b2 L1
      go_wp2_with (at_builtin; go_loud (refine wpList_append_row _ rfl (.tmp 31) (.tmp 32) 36 23 _ 2 16 rfl Try.underlying36 infoK rfl (by decide) (by decide) w2.heap.size _ 0 [] rfl (own0 w2 23 2) a0 n0 c0 (keys l) rfl KL.out H0.out.nil ((H0.out.row.below L2.out).below (alloc_below _ _)) (keys_one _) (by omega) (alloc_below w2 _).size ?_; intro ao3 cap3 w3 own3 grow3; apply Hid.out))
      obtain ⟨m3, l3⟩ := Mine.append (mine0 w2) (alloc_below w2 _).size (k := l) H0.out.len own3 grow3
      rw [List.nil_append] at m3
      have M3 := hid m3
      have L3 := hid (q_trans L2.out ((alloc_below w2 _).trans l3))
      have C3 := hid ((alloc_below w2 _).trans l3)
      have B3 := hid ((alloc_below w2 _).trans l3).size
      clear own3 grow3 m3 l3
      unfold Hid
      go_wp2_with (at_builtin; go_loud (refine wpList_append_row _ rfl (.tmp 33) (.tmp 34) 36 23 _ 2 16 rfl Try.underlying36 infoK rfl (by decide) (by decide) w2.heap.size _ n0 (keys l) rfl (by have h := M3.out.2; rw [Nat.zero_add] at h; exact h) a1 n1 c1 (keys m) rfl KM.out H1.out.nil (H1.out.row.below L3.out) (keys_one _) (by omega) B3.out ?_; intro ao4 cap4 w4 own4 grow4; apply Hid.out))
      obtain ⟨m4, l4⟩ := Mine.append (l := l) (k := m) (n := n0) ⟨H0.out.len, by have h := M3.out.2; rw [Nat.zero_add] at h; exact h⟩ B3.out H1.out.len own4 grow4
      have H4 := hid m4.has
      have N4 := hid (C3.out.trans l4)
      have L4 := hid (L3.out.trans (l4.mono L2.out.size))
      clear own4 grow4 m4 l4
      unfold Hid
      go_wp2_with fail
      refine (sort_yes (by omega) H4.out HAB.out).mono ?_
      rintro e w5 ⟨ao5, cap5, rfl, s5, b5⟩
      have Z1 : Hid ((srt l).length ≤ 100) := Nat.le_trans (len_srt l) (by have := H0.out.len; omega)
      have Z2 : Hid ((srt m).length ≤ 100) := Nat.le_trans (len_srt m) (by have := H1.out.len; omega)
      have Z3 : Hid ((srt (l ++ m)).length ≤ 200) := Nat.le_trans (len_srt (l ++ m)) (by have := H0.out.len; have := H1.out.len; simp; omega)
      have P5 := hid ((S1b.out.below N4.out).below b5)
      have Q5 := hid ((S2.out.below N4.out).below b5)
      have R5 := hid s5
      have L5 := hid (q_trans L4.out b5)
      clear b5 s5 S1b S2 L4 N4 H4 M3 L3 B3
      go_wp2_with (go_at_call 11; refine (num_any _ _).mono ?_; rintro e w' ⟨rfl, rfl⟩)
      refine (merge_is (srt_both l m) (by have := Z1.out; omega) (by have := Z2.out; omega) P5.out Q5.out (rise_srt _) (rise_srt _)).mono ?_
      rintro e w6 ⟨ao6, cap6, rfl, t6, b6⟩
      have T6 := hid t6
      have P6 := hid (P5.out.below b6)
      have Q6 := hid (Q5.out.below b6)
      have R6 := hid (R5.out.below b6)
      have L6 := hid (q_trans L5.out b6)
      clear b6 t6 P5 Q5 R5 L5
      go_wp2_with fail
      refine (same_yes (by have := Z3.out; omega) T6.out R6.out).mono ?_
      rintro e w7 ⟨rfl, b7⟩
      have P7 := hid (P6.out.below b7)
      have Q7 := hid (Q6.out.below b7)
      have R7 := hid (R6.out.below b7)
      have L7 := hid (q_trans L6.out b7)
      clear b7 P6 Q6 R6 L6 T6
      go_wp2_with fail
      refine (merge_is (srt_swap l m) (by have := Z2.out; omega) (by have := Z1.out; omega) Q7.out P7.out (rise_srt _) (rise_srt _)).mono ?_
      rintro e w8 ⟨ao8, cap8, rfl, t8, b8⟩
      have T8 := hid t8
      have P8 := hid (P7.out.below b8)
      have R8 := hid (R7.out.below b8)
      have L8 := hid (q_trans L7.out b8)
      clear b8 t8 P7 Q7 R7 L7
      go_wp2_with fail
      refine (same_yes (by have := Z3.out; omega) T8.out R8.out).mono ?_
      rintro e w10 ⟨rfl, b10⟩
      have P10 := hid (P8.out.below b10)
      have L10 := hid (q_trans L8.out b10)
      clear b10 P8 R8 L8 T8
      go_wp2_with fail
      refine (merge_is (srt_self l) (by have := Z1.out; omega) (by have := Z1.out; omega) P10.out P10.out (rise_srt _) (rise_srt _)).mono ?_
      rintro e w11 ⟨ao11, cap11, rfl, t11, b11⟩
      have T11 := hid t11
      have P11 := hid (P10.out.below b11)
      have L11 := hid (q_trans L10.out b11)
      clear b11 t11 P10 L10
      go_wp2_with fail
      refine (same_yes (by have := Z1.out; omega) T11.out P11.out).mono ?_
      rintro e w12 ⟨rfl, b12⟩
      have L12 := hid (q_trans L11.out b12)
      clear b12 T11 P11 L11
      go_wp2_with (go_at_call 18; refine (live_any _).mono ?_; rintro e w9 ⟨rfl, b9⟩)
      go_ret
      exact ⟨rfl, q_trans L12.out b9⟩
/-- OrderMerges ANSWERS true. -/
theorem merges_any (a0 : Option Addr) (l : List K) (n0 c0 : Nat) (a1 : Option Addr) (m : List K) (n1 c1 : Nat) (w : World) (hn0 : n0 ≤ 9223372036854775807) (H0 : Has w a0 n0 c0 l) (hn1 : n1 ≤ 9223372036854775807) (H1 : Has w a1 n1 c1 m) :
    Calls Try.prog 8 #[.slice a0 n0 c0, .slice a1 n1 c1] w fun e w' => e = .returned (.bool true) ∧ Below w.heap.size w w' := by
  by_cases h : n0 ≤ 100 ∧ n1 ≤ 100
  · exact merges_short a0 a1 l m n0 n1 c0 c1 w h.1 h.2 H0 H1
  · exact merges_long a0 a1 n0 n1 c0 c1 w hn0 hn1 (by omega)
end Go.Proofs.Ythonibklaijejaa.Or
