/- What Merge does. -/
import Derived.Test.YthonibklaijejaaOrList
import Derived.Test.YthonibklaijejaaOrCut
namespace Go.Proofs.Ythonibklaijejaa.Or
open Go.RowKit

theorem Has.head {w : World} {ao : Option Addr} {n cap : Nat} {x : K} {l : List K} (h : Has w ao n cap (x :: l)) : ∃ a, ao = some a ∧ AtK w a x := by
  obtain ⟨a, e, h0⟩ := atK_of h.row 0 (by simp)
  refine ⟨a, e, ?_⟩
  simpa [Addr.add] using h0
theorem Has.zero {w : World} {ao : Option Addr} {cap : Nat} {l : List K} (h : Has w ao 0 cap l) : l = [] := List.eq_nil_of_length_eq_zero h.len.symm
theorem Has.pos {w : World} {ao : Option Addr} {n cap : Nat} {l : List K} (h : Has w ao n cap l) (hn : 0 < n) : ∃ x r, l = x :: r := by
  have := h.len
  cases l with
  | nil => simp at this; omega
  | cons x r => exact ⟨x, r, rfl⟩

theorem set_same {w : World} {a : Addr} {u : Value} (v : Value) (h : w.cell? a = some u) : (w.setCell a v).cell? a = some v := World.cell?_setCell_same' w a v (by rw [h]; rfl)
theorem set_other {w : World} {g i j : Nat} (v : Value) (h : i ≠ j) : (w.setCell ⟨g, i, none⟩ v).cell? ⟨g, j, none⟩ = w.cell? ⟨g, j, none⟩ := World.cell?_setCell_other w _ _ v (by intro e; exact h (congrArg Addr.off e))
theorem set_far {w : World} {g i : Nat} {p : Addr} (v : Value) (h : g ≠ p.block) : (w.setCell ⟨g, i, none⟩ v).cell? p = w.cell? p := World.cell?_setCell_other w _ _ v (fun e => h (congrArg Addr.block e))
set_option maxRecDepth 100000 in
set_option maxHeartbeats 1000000 in
/-- MERGE: OF TWO RISING LISTS ALL KEYS, RISING. -/
theorem merge_any (aa ab : Option Addr) (na nb ca cb : Nat) (la lb : List K) (w : World) (hna : na ≤ 1000) (hnb : nb ≤ 1000) (HA : Hid (Has w aa na ca la)) (HB : Hid (Has w ab nb cb lb)) (RA : Hid (Rise la)) (RB : Hid (Rise lb)) :
    Calls Try.prog 26 #[.slice aa na ca, .slice ab nb cb] w fun e w' => ∃ ao' cap', e = .returned (.slice ao' (srt (la ++ lb)).length cap') ∧ Has w' ao' (srt (la ++ lb)).length cap' (srt (la ++ lb)) ∧ Below w.heap.size w w' := by
  obtain ⟨i0, hi, hz0, hz1, hz2⟩ := info_of infoK
  obtain ⟨wm, hmk, hown, hgr⟩ := run_make_own w w.heap.size 36 23 i0 _ 2 Try.underlying36 hi hz0 hz1 .i64 .i64 (na + nb) (by rw [hz2]; omega) (by unfold maxLen; omega) (Nat.le_refl _)
  rw [Int.natCast_add] at hmk
  have HM : Hid (Mine wm w.heap.size (some ⟨w.heap.size, 0, none⟩) 0 (na + nb) []) := ⟨rfl, hown⟩
  have HL : Hid (Below w.heap.size w wm) := (Below.refl _ w).grown hgr (Nat.le_refl _) (fun i e => by cases e)
  clear hown hgr hi hz0 hz1 hz2
  go_enter Try.func26, Try.ntmps26
  go_wp2_with fail
  go_loopw [0, 1, 5] (fun sa sb so wr => ∃ (xa xb xo : Option Addr) (ma mb mo da db dd : Nat) (l k o : List K), sa = .slice xa ma da ∧ sb = .slice xb mb db ∧ so = .slice xo mo dd ∧ ma ≤ na ∧ mb ≤ nb ∧ mo + (ma + mb) ≤ na + nb ∧ Hid (Has w xa ma da l) ∧ Hid (Has w xb mb db k) ∧ Hid (Mine wr w.heap.size xo mo dd o) ∧ Hid (MInv la lb o l k) ∧ Hid (Below w.heap.size w wr))
    (fun sa sb _ _ => (match sa with | .slice _ n _ => n | _ => 0) + (match sb with | .slice _ n _ => n | _ => 0))
  case atStart => exact ⟨aa, ab, _, na, nb, 0, ca, cb, na + nb, la, lb, [], rfl, rfl, rfl, Nat.le_refl _, Nat.le_refl _, by omega, HA, HB, HM, minv_start RA.out RB.out, HL⟩
  case round =>
    obtain ⟨xa, xb, xo, ma, mb, mo, da, db, dd, l, k, o, rfl, rfl, rfl, h1, h2, h3, HA1, HB1, HM1, HI, HL1⟩ := hrel
    by_cases hma : 0 < ma
    · by_cases hmb : 0 < mb
      · obtain ⟨x, l, rfl⟩ := HA1.out.pos hma
        obtain ⟨y, k, rfl⟩ := HB1.out.pos hmb
        obtain ⟨a, rfl, Aa⟩ := HA1.out.head
        obtain ⟨b, rfl, Ab⟩ := HB1.out.head
        obtain ⟨a0, a1⟩ := Aa.below HL1.out
        have hla := Aa.lt
        have hlb := Ab.lt
        go_wp2_with fail
        generalize hW : wr.alloc _ = W
        have AX : Hid (AtK W ⟨wr.heap.size, 0, none⟩ x) := by rw [← hW]; exact at_new wr x _
        have AA : Hid (AtK W a x) := by rw [← hW]; exact (Aa.below HL1.out).below (alloc_below _ _)
        have AB : Hid (AtK W b y) := by rw [← hW]; exact (Ab.below HL1.out).below (alloc_below _ _)
        have MW : Hid (Mine W w.heap.size xo mo dd o) := by rw [← hW]; exact HM1.out.below (alloc_below _ _)
        have LW : Hid (Below w.heap.size w W) := by rw [← hW]; exact q_alloc HL1.out _
        have g0 : W.frozen? ⟨wr.heap.size, 0, none⟩ = false := by rw [← hW]; simp
        have g1 : W.frozen? ⟨wr.heap.size, 1, none⟩ = false := by rw [← hW]; simp
        have hsw : wr.heap.size < W.heap.size := by rw [← hW]; simp
        have hbox : w.heap.size ≤ wr.heap.size := HL1.out.size
        have HXO : Hid (∀ i, (Value.slice xo mo dd).ownBlock = some i → ¬ i = wr.heap.size) := fun i e => by have := (World.ownsRow.lt HM1.out.2 i e).2; omega
        clear hW a0 a1 Aa Ab HM1 HL1
        obtain ⟨f0, f1⟩ := AX.out.always
        obtain ⟨f2, f3⟩ := AB.out.always
        have hne : Nonempty (Later W) := ⟨⟨W, Below.refl _ _⟩⟩
        cases hyx : ltK y x with
        | true =>
          have hl := fun W => less_is hyx W
          have hyx2 := hyx
          clear hyx
          refine wp_region_later (by kernel_rfl) (by kernel_rfl) ?_
          repeat (go_big_quiet_step ((go_at_call 14; exact later_call (hl _))))
          refine wpQuiet_nil ?_
          rintro w9 ⟨⟨_, b9⟩, rfl⟩
          have p0 := (AX.out.below b9).c0
          have p1 : w9.cell? ⟨wr.heap.size, 1, none⟩ = some (.int .i64 x.2) := (AX.out.below b9).c1
          obtain ⟨p2, p3⟩ := AA.out.below b9
          obtain ⟨p4, p5⟩ := AB.out.below b9
          have q0 : w9.frozen? ⟨wr.heap.size, 0, none⟩ = false := (b9.frozen hsw).trans g0
          have q1 : w9.frozen? ⟨wr.heap.size, 1, none⟩ = false := (b9.frozen hsw).trans g1
          have M9 := hid (MW.out.below b9)
          have L9 := hid (q_trans LW.out b9)
          have hs9 : wr.heap.size < w9.heap.size := Nat.lt_of_lt_of_le hsw b9.size
          clear f0 f1 f2 f3 hne b9 hl AX AA AB MW LW g0 g1 hsw
          go_wp2_with fail
          generalize hW5 : World.setCell _ _ _ = W5
          have hba : wr.heap.size ≠ a.block := by omega
          have hbb : wr.heap.size ≠ b.block := by omega
          have E5 : Hid (W5.cell? ⟨wr.heap.size, 0, none⟩ = some (.int .i64 y.1) ∧ W5.cell? ⟨wr.heap.size, 1, none⟩ = some (.int .i64 y.2)) := by
            rw [← hW5]
            exact ⟨by rw [set_other _ (by omega)]; exact set_same _ p0, set_same _ ((set_other _ (by omega)).trans p1)⟩
          have A5 : Hid (AtK W5 a x) := by rw [← hW5]; exact ⟨by rw [set_far _ hba, set_far _ hba]; exact p2, by rw [set_far (p := ⟨a.block, a.off + 1, none⟩) _ hba, set_far (p := ⟨a.block, a.off + 1, none⟩) _ hba]; exact p3⟩
          have B5 : Hid (AtK W5 b y) := by rw [← hW5]; exact ⟨by rw [set_far _ hbb, set_far _ hbb]; exact p4, by rw [set_far (p := ⟨b.block, b.off + 1, none⟩) _ hbb, set_far (p := ⟨b.block, b.off + 1, none⟩) _ hbb]; exact p5⟩
          have M5 : Hid (Mine W5 w.heap.size xo mo dd o) := by
            rw [← hW5]
            exact ⟨M9.out.1, own_kept (S := fun i => i = wr.heap.size) M9.out.2 (((Kept.refl (fun i => i = wr.heap.size) w9).setCell _ _ (fun _ => rfl)).setCell _ _ (fun _ => rfl)) HXO.out⟩
          have L5 : Hid (Below w.heap.size w W5) := by rw [← hW5]; exact q_set (q_set L9.out hbox _) hbox _
          have hs5 : wr.heap.size < W5.heap.size := by rw [← hW5]; simpa using hs9
          clear hW5 p0 p1 p2 p3 p4 p5 q0 q1 M9 L9 hs9
          obtain ⟨p0, p1⟩ := E5.out
          obtain ⟨p2, p3⟩ := A5.out
          obtain ⟨p4, p5⟩ := B5.out
          have hxy : ¬ x = y := fun e => by rw [e, lt_irr] at hyx2; cases hyx2
          have he1 := eq_no hxy
          have he2 := eq_yes (rfl : y = y)
          have HLT := hid hyx2
          clear hxy hyx2
          obtain ⟨xb', tb, hsb⟩ := cut_tail HB1.out
          have TB := hid tb
          clear tb
          go_quiet (fail)
          go_wp2_with fail
          go_quiet (fail)
          go_wp2_with (at_builtin; go_loud (refine wpList_append_row _ rfl (.tmp 46) (.tmp 48) 36 23 _ 2 16 rfl Try.underlying36 infoK rfl (by decide) (by decide) w.heap.size _ mo (keys o) rfl (((M5.out.below (drewN_below _ _)).below (alloc_below _ _)).2) (some ⟨_, 0, none⟩) 1 1 (keys [y]) rfl rfl (fun h => by cases h) (one_key _ y 23) (keys_one _) (by omega) (q_alloc (q_drewN L5.out _) _).size ?_; intro ao1 cap1 w2 own2 grow2; apply Hid.out))
          obtain ⟨m2, l2⟩ := Mine.append ((M5.out.below (drewN_below _ _)).below (alloc_below _ _)) (q_alloc (q_drewN L5.out _) _).size (k := [y]) rfl own2 grow2
          have M2 := hid m2
          have L2 := hid ((q_alloc (q_drewN L5.out _) _).trans l2)
          clear own2 grow2 m2 l2
          unfold Hid
          go_wp2_with fail
          go_roundw
          case rel => exact ⟨some a, xb', ao1, ma, mb - 1, mo + 1, da, db - 1, cap1, (x :: l), k, o ++ [y], rfl, rfl, rfl, by omega, by omega, by omega, HA1, TB, M2, HI.out.right HLT.out, L2⟩
          case measure => simp only; omega
        | false =>
          have hl := fun W => less_is hyx W
          have hyx2 := hyx
          clear hyx
          refine wp_region_later (by kernel_rfl) (by kernel_rfl) ?_
          repeat (go_big_quiet_step ((go_at_call 14; exact later_call (hl _))))
          refine wpQuiet_nil ?_
          rintro W5 ⟨⟨_, b9⟩, rfl⟩
          have p0 := (AX.out.below b9).c0
          have p1 : W5.cell? ⟨wr.heap.size, 1, none⟩ = some (.int .i64 x.2) := (AX.out.below b9).c1
          obtain ⟨p2, p3⟩ := AA.out.below b9
          obtain ⟨p4, p5⟩ := AB.out.below b9
          have M5 := hid (MW.out.below b9)
          have L5 := hid (q_trans LW.out b9)
          have hs5 : wr.heap.size < W5.heap.size := Nat.lt_of_lt_of_le hsw b9.size
          clear f0 f1 f2 f3 hne b9 hl AX AA AB MW LW g0 g1 hsw
          by_cases hxy : x = y
          · have he1 := eq_yes (rfl : x = x)
            have he2 := eq_yes hxy.symm
            have HXY := hid hxy
            clear hxy hyx2
            go_wp2_with fail
            obtain ⟨xa', ta, hsa⟩ := cut_tail HA1.out
            have TA := hid ta
            clear ta
            obtain ⟨xb', tb, hsb⟩ := cut_tail HB1.out
            have TB := hid tb
            clear tb
            go_quiet (fail)
            go_wp2_with fail
            go_quiet (fail)
            go_wp2_with (at_builtin; go_loud (refine wpList_append_row _ rfl (.tmp 46) (.tmp 48) 36 23 _ 2 16 rfl Try.underlying36 infoK rfl (by decide) (by decide) w.heap.size _ mo (keys o) rfl (((M5.out.below (drewN_below _ _)).below (alloc_below _ _)).2) (some ⟨_, 0, none⟩) 1 1 (keys [x]) rfl rfl (fun h => by cases h) (one_key _ x 23) (keys_one _) (by omega) (q_alloc (q_drewN L5.out _) _).size ?_; intro ao1 cap1 w2 own2 grow2; apply Hid.out))
            obtain ⟨m2, l2⟩ := Mine.append ((M5.out.below (drewN_below _ _)).below (alloc_below _ _)) (q_alloc (q_drewN L5.out _) _).size (k := [x]) rfl own2 grow2
            have M2 := hid m2
            have L2 := hid ((q_alloc (q_drewN L5.out _) _).trans l2)
            clear own2 grow2 m2 l2
            unfold Hid
            go_wp2_with fail
            go_roundw
            case rel => exact ⟨xa', xb', ao1, ma - 1, mb - 1, mo + 1, da - 1, db - 1, cap1, l, k, o ++ [x], rfl, rfl, rfl, by omega, by omega, by omega, TA, TB, M2, (by have h := HI.out; rw [← HXY.out] at h; exact h.both), L2⟩
            case measure => simp only; omega
          · have he1 := eq_yes (rfl : x = x)
            have he2 := eq_no (fun e : y = x => hxy e.symm)
            have HLT : Hid (ltK x y = true) := by
              cases h : ltK x y with
              | true => rfl
              | false => exact absurd (lt_tot h hyx2) hxy
            clear hxy hyx2
            go_wp2_with fail
            obtain ⟨xa', ta, hsa⟩ := cut_tail HA1.out
            have TA := hid ta
            clear ta
            go_quiet (fail)
            go_wp2_with fail
            go_quiet (fail)
            go_wp2_with (at_builtin; go_loud (refine wpList_append_row _ rfl (.tmp 46) (.tmp 48) 36 23 _ 2 16 rfl Try.underlying36 infoK rfl (by decide) (by decide) w.heap.size _ mo (keys o) rfl (((M5.out.below (drewN_below _ _)).below (alloc_below _ _)).2) (some ⟨_, 0, none⟩) 1 1 (keys [x]) rfl rfl (fun h => by cases h) (one_key _ x 23) (keys_one _) (by omega) (q_alloc (q_drewN L5.out _) _).size ?_; intro ao1 cap1 w2 own2 grow2; apply Hid.out))
            obtain ⟨m2, l2⟩ := Mine.append ((M5.out.below (drewN_below _ _)).below (alloc_below _ _)) (q_alloc (q_drewN L5.out _) _).size (k := [x]) rfl own2 grow2
            have M2 := hid m2
            have L2 := hid ((q_alloc (q_drewN L5.out _) _).trans l2)
            clear own2 grow2 m2 l2
            unfold Hid
            go_wp2_with fail
            go_roundw
            case rel => exact ⟨xa', some b, ao1, ma - 1, mb, mo + 1, da - 1, db, cap1, l, (y :: k), o ++ [x], rfl, rfl, rfl, by omega, by omega, by omega, TA, HB1, M2, HI.out.left HLT.out, L2⟩
            case measure => simp only; omega
      · obtain rfl : mb = 0 := by omega
        have HD := hid (HI.out.done (.inr HB1.out.zero))
        have HL2 := hid (show mo + ma + 0 = (srt (la ++ lb)).length by rw [← HD.out, HM1.out.1, HA1.out.len, HB1.out.len]; simp [Nat.add_assoc])
        have KA : Hid ((keys l).length = ma * 2) := by rw [len_keys, HA1.out.len]; exact rfl
        have KB : Hid ((keys k).length = 0 * 2) := by rw [len_keys, HB1.out.len]; exact rfl
        go_wp2_with (at_builtin; go_loud (refine wpList_append_row _ rfl (.tmp 50) (.tmp 51) 36 23 _ 2 16 rfl Try.underlying36 infoK rfl (by decide) (by decide) w.heap.size _ mo (keys o) rfl HM1.out.2 xa ma da (keys l) rfl KA.out HA1.out.nil (HA1.out.row.below HL1.out) (keys_one _) (by omega) HL1.out.size ?_; intro ao1 cap1 w2 own2 grow2; apply Hid.out))
        obtain ⟨m2, l2⟩ := Mine.append HM1.out HL1.out.size (k := l) HA1.out.len own2 grow2
        have M2 := hid m2
        have L2 := hid (HL1.out.trans l2)
        clear own2 grow2 m2 l2
        unfold Hid
        go_wp2_with (at_builtin; go_loud (refine wpList_append_row _ rfl (.tmp 53) (.tmp 54) 36 23 _ 2 16 rfl Try.underlying36 infoK rfl (by decide) (by decide) w.heap.size _ (mo + ma) (keys (o ++ l)) rfl M2.out.2 xb 0 db (keys k) rfl KB.out HB1.out.nil (HB1.out.row.below L2.out) (keys_one _) (by omega) L2.out.size ?_; intro ao3 cap3 w3 own3 grow3; apply Hid.out))
        obtain ⟨m3, l3⟩ := Mine.append M2.out L2.out.size (k := k) HB1.out.len own3 grow3
        have M3 := hid m3
        have L3 := hid (L2.out.trans l3)
        clear own3 grow3 m3 l3
        unfold Hid
        go_wp2_with fail
        go_ret
        refine ⟨ao3, cap3, by rw [← HL2.out]; rfl, ?_, L3.out⟩
        have h := M3.out.has
        rw [HD.out, HL2.out] at h
        exact h
    · obtain rfl : ma = 0 := by omega
      have HD := hid (HI.out.done (.inl HA1.out.zero))
      have HL2 := hid (show mo + 0 + mb = (srt (la ++ lb)).length by rw [← HD.out, HM1.out.1, HA1.out.len, HB1.out.len]; simp [Nat.add_assoc])
      have KA : Hid ((keys l).length = 0 * 2) := by rw [len_keys, HA1.out.len]; exact rfl
      have KB : Hid ((keys k).length = mb * 2) := by rw [len_keys, HB1.out.len]; exact rfl
      go_wp2_with (at_builtin; go_loud (refine wpList_append_row _ rfl (.tmp 50) (.tmp 51) 36 23 _ 2 16 rfl Try.underlying36 infoK rfl (by decide) (by decide) w.heap.size _ mo (keys o) rfl HM1.out.2 xa 0 da (keys l) rfl KA.out HA1.out.nil (HA1.out.row.below HL1.out) (keys_one _) (by omega) HL1.out.size ?_; intro ao1 cap1 w2 own2 grow2; apply Hid.out))
      obtain ⟨m2, l2⟩ := Mine.append HM1.out HL1.out.size (k := l) HA1.out.len own2 grow2
      have M2 := hid m2
      have L2 := hid (HL1.out.trans l2)
      clear own2 grow2 m2 l2
      unfold Hid
      go_wp2_with (at_builtin; go_loud (refine wpList_append_row _ rfl (.tmp 53) (.tmp 54) 36 23 _ 2 16 rfl Try.underlying36 infoK rfl (by decide) (by decide) w.heap.size _ (mo + 0) (keys (o ++ l)) rfl M2.out.2 xb mb db (keys k) rfl KB.out HB1.out.nil (HB1.out.row.below L2.out) (keys_one _) (by omega) L2.out.size ?_; intro ao3 cap3 w3 own3 grow3; apply Hid.out))
      obtain ⟨m3, l3⟩ := Mine.append M2.out L2.out.size (k := k) HB1.out.len own3 grow3
      have M3 := hid m3
      have L3 := hid (L2.out.trans l3)
      clear own3 grow3 m3 l3
      unfold Hid
      go_wp2_with fail
      go_ret
      refine ⟨ao3, cap3, by rw [← HL2.out]; rfl, ?_, L3.out⟩
      have h := M3.out.has
      rw [HD.out, HL2.out] at h
      exact h
end Go.Proofs.Ythonibklaijejaa.Or
