/- What the document's insert does. -/
import Derived.Test.YthonibklaijejaaOrMerge
import Derived.Deep.RegionHeld3
namespace Go.Proofs.Ythonibklaijejaa.Or
open Go.RowKit

/-- append AT A STEP OF A REGION THAT DRAWS ITS ORDER. -/
theorem step_append_keys (w : World) {ops : Array Oper} {o : Oper} {a : Act} {C : Act → World → Prop} {Q : Exit → Act → World → Prop} {E : Prop} (hgd : o.guard = none) (s x : Operand)
    (ho : o.op = .call { callee := .builtin .append, args := #[s, x], argTypes := #[36, 36] })
    (base : Nat) (v : Value) (n : Nat) (xs : List K) (hs : a.eval s = v) (hown : w.ownsRow base 23 2 v n (keys xs))
    (ao : Option Addr) (m c : Nat) (ys : List K) (hx : a.eval x = .slice ao m c) (hm : m = ys.length) (hc : ao = none → c = 0) (hy : Row w ao (keys ys))
    (N : Nat) (hN : n + m = N) (Z : List K) (hZ : xs ++ ys = Z) (h63 : N ≤ 5000) (hbase : base ≤ w.heap.size)
    (h : ∀ ao' cap' w', w'.ownsRow base 23 2 (.slice ao' N cap') N (keys Z) → w.grownBy w' v.ownBlock → C (a.put o.dst (.slice ao' N cap')) w') :
    if Region.wanted o (yielded ops a.tmps) = true then Oper.wp Try.prog o a w C Q else E := by
  have hw : Region.wanted o (yielded ops a.tmps) = true := by simp [Region.wanted, hgd]
  rw [if_pos hw]
  subst hN hZ
  rw [keys_app] at h
  obtain ⟨i0, hi, hz0, hz1, hz2⟩ := info_of infoK
  have sl : ∀ {w' : World} {v' : Value} {k : Nat} {cs : List Value}, w'.ownsRow base 23 2 v' k cs → ∃ ao' cap', v' = .slice ao' k cap' := by
    intro w' v' k cs h
    rcases h.2 with ⟨rfl, rfl⟩ | ⟨g, cap, cur, rfl, _⟩
    · exact ⟨_, _, rfl⟩
    · exact ⟨_, _, rfl⟩
  cases ao with
  | none =>
    have h0 := row_none hy
    have hl := len_keys ys
    rw [h0] at hl
    have hm0 : m = 0 := by rw [hm]; simp at hl; omega
    subst hm0
    rw [hc rfl] at hx
    obtain ⟨ao', cap', rfl⟩ := sl hown
    have hrun := run_append_owned_none (P := Try.prog) (w := w) base 36 o.type 23 i0 2 Try.underlying36 hi _ n (keys xs) hown
    unfold Oper.wp
    simp [execOp, ho, resolve, invoke, builtin, hs, hx, hrun, Result.andThen]
    exact h ao' cap' w (by rw [h0]; simpa using hown) (World.grownBy.refl _ _)
  | some ad =>
    refine wp_append_own w s x 36 ho base 23 i0 _ 2 16 Try.underlying36 hi hz0 hz1 hz2 rfl (by decide) v n (keys xs) hs hown ad m c (keys ys) hx (by rw [len_keys, hm]) ?_ (keys_one _) (by unfold maxLen; omega) (by omega) hbase ?_
    · intro j u hu
      obtain ⟨a', e, hcell⟩ := hy.cell j u hu
      cases e
      exact hcell
    · intro v' w' h1 h2 _
      obtain ⟨ao', cap', rfl⟩ := sl h1
      exact h ao' cap' w' h1 h2
/-- A key's box is as it was. -/
theorem box_keep {W w' : World} {b : Nat} {k : K} (h : W.cell? ⟨b, 0, none⟩ = some (.int .i64 k.1) ∧ W.cell? ⟨b, 1, none⟩ = some (.int .i64 k.2)) (hb : Below W.heap.size W w') : w'.cell? ⟨b, 0, none⟩ = some (.int .i64 k.1) ∧ w'.cell? ⟨b, 1, none⟩ = some (.int .i64 k.2) :=
  ⟨(hb.cell (World.block_lt_of_cell? W _ h.1)).trans h.1, (hb.cell (World.block_lt_of_cell? W _ h.2)).trans h.2⟩

theorem own1 (x : K) (w : World) : ((w.alloc (.cells #[.int .i64 x.1, .int .i64 x.2] 23)).alloc (.cells #[] 23)).ownsRow w.heap.size 23 2 (.slice (some ⟨w.heap.size + 1, 0, none⟩) 0 0) 0 (keys []) := by
  have := World.ownsRow_made (base := w.heap.size) (e := 23) (size := 2) (w.alloc (.cells #[.int .i64 x.1, .int .i64 x.2] 23)) #[] 0 (by simp) (by decide) (by simp)
  rw [keys_nil]
  simpa using this
theorem row_grown {w w' : World} {b r n c : Nat} {cs : List Value} (h : Row w (some ⟨b, 0, none⟩) cs) (hg : w.grownBy w' (Value.ownBlock (.slice (some ⟨r, 0, none⟩) n c))) (hne : b ≠ r) : Row w' (some ⟨b, 0, none⟩) cs :=
  h.kept (kept_grown hg) (fun _ a e => by cases e; intro e2; exact hne (Option.some.inj e2))
theorem grow_below {w W w3 : World} {g n c : Nat} (hb : Below w.heap.size w W) (hg : W.grownBy w3 (Value.ownBlock (.slice (some ⟨g, 0, none⟩) n c))) (h : w.heap.size ≤ g) : Below w.heap.size w w3 :=
  hb.grown hg hb.size (fun k e => by cases e; exact h)
theorem key_at1 (x : K) (w : World) : Row ((w.alloc (.cells #[] 23)).alloc (.cells #[.int .i64 x.1, .int .i64 x.2] 23)) (some ⟨w.heap.size + 1, 0, none⟩) (keys [x]) := by
  have := one_key (w.alloc (.cells #[] 23)) x 23
  simpa using this
theorem own_has {w : World} {B n cap : Nat} {ao : Option Addr} {l : List K} (h : w.ownsRow B 23 2 (.slice ao n cap) n (keys l)) (hl : n = l.length) : Has w ao n cap l := Mine.has (B := B) ⟨hl, h⟩

set_option maxRecDepth 100000 in
set_option maxHeartbeats 1000000 in
theorem insert_any (ao : Option Addr) (n cap : Nat) (l : List K) (x : K) (w : World) (hs : n ≤ 1000) (HH : Hid (Has w ao n cap l)) :
    Calls Try.prog 33 #[.slice ao n cap, (.agg #[.int .i64 x.1, .int .i64 x.2])] w fun e w' => ∃ ao' cap', e = .returned (.slice ao' (ins l x).length cap') ∧ Has w' ao' (ins l x).length cap' (ins l x) ∧ Below w.heap.size w w' := by
  go_enter Try.func33, Try.ntmps33
  go_wp2
  generalize hW : w.alloc _ = W0
  have HX0 : Hid (W0.cell? ⟨w.heap.size, 0, none⟩ = some (.int .i64 x.1) ∧ W0.cell? ⟨w.heap.size, 1, none⟩ = some (.int .i64 x.2)) := by rw [← hW]; exact ⟨(at_new w x _).c0, (at_new w x _).c1⟩
  have HB0 : Hid (Below w.heap.size w W0) := by rw [← hW]; exact alloc_below _ _
  clear hW
  go_loopw [5] (fun i wr => ∃ k : Nat, k ≤ n ∧ i = .int .i64 k ∧ Hid (∀ j, j < k → ltK (l.getD j (0, 0)) x = true) ∧ Hid (Below W0.heap.size W0 wr)) (fun i _ => n - (intOf i).toNat)
  case atStart => exact ⟨0, Nat.zero_le _, rfl, fun j h => absurd h (by omega), Below.refl _ _⟩
  case round =>
    obtain ⟨k, hk, rfl, HS, HB1⟩ := hrel
    have HB := hid (q_trans HB0.out HB1.out)
    have HX := hid (box_keep HX0.out HB1.out)
    have hne : Nonempty (Later wr) := ⟨⟨wr, Below.refl _ _⟩⟩
    have f0 : ∀ g : Later wr, g.now.cell? ⟨w.heap.size, 0, none⟩ = some (.int .i64 x.1) := fun g => g.cell HX.out.1
    have f1 : ∀ g : Later wr, g.now.cell? ⟨w.heap.size, 1, none⟩ = some (.int .i64 x.2) := fun g => g.cell HX.out.2
    by_cases hlt : k < n
    · have i1 : (0 : Int) ≤ (k : Int) := by omega
      have i2 : (k : Int) < (n : Int) := by omega
      obtain ⟨a, rfl, ca⟩ := atK_of (HH.out.row.below HB.out) k (by have := HH.out.len; omega)
      obtain ⟨y, hy⟩ : ∃ y, l.getD k (0, 0) = y := ⟨_, rfl⟩
      rw [hy] at ca
      have HY := hid hy
      clear hy
      obtain ⟨g0, g1⟩ := ca.always
      cases hlt2 : ltK y x with
      | true =>
        have hl := fun W => rless_is hlt2 W
        have HL := hid hlt2
        clear hlt2 ca
        go_wp2_with fail
        refine wp_region_later (by kernel_rfl) (by kernel_rfl) ?_
        repeat (go_big_quiet_step ((go_at_call 15; exact later_call (hl _))))
        refine wpQuiet_nil ?_
        rintro w9 ⟨⟨_, b9⟩, rfl⟩
        have HBE := hid (q_trans HB1.out b9)
        clear f0 f1 g0 g1 hne b9 hl
        go_wp2_with fail
        go_roundw
        case rel =>
          refine ⟨k + 1, by omega, by go_num, fun j hj => ?_, HBE⟩
          by_cases e : j = k
          · subst e
            rw [HY.out]
            exact HL.out
          · exact HS.out j (by omega)
        case measure => simp [intOf]; omega
      | false =>
        have hl := fun W => rless_is hlt2 W
        have HI := hid (ins_at l x k (by have := HH.out.len; omega) HS.out (fun _ => by rw [HY.out]; exact hlt2))
        clear hlt2
        go_wp2_with fail
        refine wp_region_later (by kernel_rfl) (by kernel_rfl) ?_
        repeat (go_big_quiet_step ((go_at_call 15; exact later_call (hl _))))
        refine wpQuiet_nil ?_
        rintro w9 ⟨⟨_, b9⟩, rfl⟩
        have HBE := hid (q_trans HB.out b9)
        obtain ⟨c0, c1⟩ := ca.below b9
        obtain ⟨d0, d1⟩ := box_keep HX.out b9
        clear f0 f1 g0 g1 hne b9 hl ca
        by_cases hxy : y = x
        · have he := eq_yes hxy
          have HE : Hid (ins l x = l) := by
            unfold Hid
            rw [HI.out, if_pos ⟨by have := HH.out.len; omega, by rw [HY.out]; exact hxy⟩]
          clear hxy
          go_wp2_with fail
          go_quiet (fail)
          go_wp2_with fail
          go_ret
          refine ⟨some a, cap, by rw [HE.out, ← HH.out.len]; rfl, ?_, q_drewN HBE.out _⟩
          rw [HE.out, ← HH.out.len]
          exact HH.out.below (q_drewN HBE.out _)
        · have he := eq_no hxy
          have HE : Hid (ins l x = l.take k ++ (x :: l.drop k)) := by
            unfold Hid
            rw [HI.out, if_neg (fun e => hxy (by rw [← HY.out]; exact e.2))]
          clear hxy
          go_wp2_with fail
          go_quiet (fail)
          go_wp2_with fail
          generalize hW : World.drewN w9 _ = W
          have HBX : Hid (W.cell? ⟨w.heap.size, 0, none⟩ = some (.int .i64 x.1) ∧ W.cell? ⟨w.heap.size, 1, none⟩ = some (.int .i64 x.2)) := by rw [← hW]; exact ⟨d0, d1⟩
          have HBW : Hid (Below w.heap.size w W) := by rw [← hW]; exact q_drewN HBE.out _
          obtain ⟨ao2, hd, hfrom⟩ := cut_from HH.out k hk
          have hto := run_to (some a) k n cap (by have := HH.out.cap; omega)
          have HT := hid ((HH.out.take k hk).below HBW.out)
          have HD := hid (hd.below HBW.out)
          have HZ : Hid ((l.take k ++ [x]) ++ l.drop k = ins l x) := by unfold Hid; rw [HE.out]; simp
          have HLN : Hid (n + 1 = (ins l x).length) := by unfold Hid; rw [HE.out]; have := HH.out.len; simp; omega
          obtain ⟨e0, e1⟩ := HBX.out
          clear hW hd d0 d1 c0 c1 he
          go_region_held3 (fun w' => w'.cell? ⟨w.heap.size, 0, none⟩ = some (.int .i64 x.1) ∧ w'.cell? ⟨w.heap.size, 1, none⟩ = some (.int .i64 x.2)) (first | go_keep | exact box_keep HBX.out b3 | exact box_keep HBX.out b2 | exact box_keep HBX.out (q_alloc b1 _) | exact box_keep HBX.out b1)
            (first
              | (refine step_append_keys _ (by rfl) (.tmp 33) (.tmp 36) (by rfl) W.heap.size (.slice (some ⟨W.heap.size, 0, none⟩) 0 0) 0 [] (by rfl) ((own0 W 23 2).drew) (some a) k cap (l.take k) (by rfl) HT.out.len HT.out.nil (HT.out.row.below ((alloc_below W _).drew)) k (by omega) (l.take k) (by rfl) (by omega) (by simp) ?_; intro ao1 cap1 w1 own1' grow1; have b1 := grow_below ((alloc_below W _).drew) grow1 (Nat.le_refl _))
              | (refine step_append_keys _ (by rfl) (.tmp 33) (.tmp 36) (by rfl) W.heap.size (.slice (some ⟨W.heap.size, 0, none⟩) 0 0) 0 [] (by rfl) (((own0 W 23 2).alloc (.cells #[.int .i64 x.1, .int .i64 x.2] 23)).drew) (some a) k cap (l.take k) (by rfl) HT.out.len HT.out.nil (HT.out.row.below ((q_alloc (alloc_below W _) _).drew)) k (by omega) (l.take k) (by rfl) (by omega) (by simp; omega) ?_; intro ao1 cap1 w1 own1' grow1; have b1 := grow_below ((q_alloc (alloc_below W _) _).drew) grow1 (Nat.le_refl _); have HX3 := hid (row_grown ((key_at1 x W).below (Below.refl _ _).drew) grow1 (by omega)))
              | (refine step_append_keys _ (by rfl) (.tmp 33) (.tmp 36) (by rfl) W.heap.size (.slice (some ⟨W.heap.size + 1, 0, none⟩) 0 0) 0 [] (by rfl) ((own1 x W).drew) (some a) k cap (l.take k) (by rfl) HT.out.len HT.out.nil (HT.out.row.below ((q_alloc (alloc_below W _) _).drew)) k (by omega) (l.take k) (by rfl) (by omega) (by simp; omega) ?_; intro ao1 cap1 w1 own1' grow1; have b1 := grow_below ((q_alloc (alloc_below W _) _).drew) grow1 (by omega); have HX3 := hid (row_grown (((one_key W x 23).below (alloc_below _ _)).below (Below.refl _ _).drew) grow1 (by omega)))
              | (refine step_append_keys _ (by rfl) (.tmp 37) (.tmp 39) (by rfl) W.heap.size _ _ _ (by rfl) (own1'.alloc _) (some ⟨w1.heap.size, 0, none⟩) 1 1 [x] (by rfl) (by rfl) (fun h => by cases h) (one_key w1 x 23) (k + 1) (by omega) (l.take k ++ [x]) (by rfl) (by omega) (q_alloc b1 _).size ?_; intro ao2' cap2 w2 own2 grow2; have b2 := (q_alloc b1 _).grown grow2 (q_alloc b1 _).size (fun k e => (own1'.lt k e).1))
              | (refine step_append_keys _ (by rfl) (.tmp 37) (.tmp 39) (by rfl) W.heap.size _ _ _ (by rfl) own1' (some ⟨W.heap.size + 1, 0, none⟩) 1 1 [x] (by rfl) (by rfl) (fun h => by cases h) HX3.out (k + 1) (by omega) (l.take k ++ [x]) (by rfl) (by omega) b1.size ?_; intro ao2' cap2 w2 own2 grow2; have b2 := b1.grown grow2 b1.size (fun k e => (own1'.lt k e).1))
              | (refine step_append_keys _ (by rfl) (.tmp 37) (.tmp 39) (by rfl) W.heap.size _ _ _ (by rfl) own1' (some ⟨W.heap.size, 0, none⟩) 1 1 [x] (by rfl) (by rfl) (fun h => by cases h) HX3.out (k + 1) (by omega) (l.take k ++ [x]) (by rfl) (by omega) b1.size ?_; intro ao2' cap2 w2 own2 grow2; have b2 := b1.grown grow2 b1.size (fun k e => (own1'.lt k e).1))
              | (refine step_append_keys _ (by rfl) (.tmp 40) (.tmp 43) (by rfl) W.heap.size _ _ _ (by rfl) own2 ao2 (n - k) (cap - k) (l.drop k) (by rfl) HD.out.len HD.out.nil (HD.out.row.below b2) (n + 1) (by omega) (ins l x) HZ.out (by omega) b2.size ?_; intro ao3 cap3 w3 own3 grow3; have b3 := b2.grown grow3 b2.size (fun k e => (own2.lt k e).1)))
          all_goals
            have H3 := hid (own_has own3 HLN.out)
            have B3 := hid (q_trans HBW.out b3)
            clear own1' grow1 b1 own2 grow2 b2 own3 grow3 b3
            go_wp2_with fail
            go_ret
            refine ⟨ao3, cap3, by rw [← HLN.out]; rfl, ?_, B3.out⟩
            rw [← HLN.out]
            exact H3.out
    · have HE : Hid (ins l x = l.take k ++ (x :: l.drop k)) := by
        unfold Hid
        rw [ins_at l x k (by have := HH.out.len; omega) HS.out (fun h => absurd h (by have := HH.out.len; omega)), if_neg (fun e => by have := HH.out.len; have := e.1; omega)]
      go_wp2_with fail
      refine wp_region_later (by kernel_rfl) (by kernel_rfl) ?_
      repeat (go_big_quiet_step (fail))
      refine wpQuiet_nil ?_
      rintro w9 ⟨⟨_, b9⟩, rfl⟩
      have HBE := hid (q_trans HB.out b9)
      obtain ⟨d0, d1⟩ := box_keep HX.out b9
      clear f0 f1 hne b9
      go_wp2_with fail
      go_quiet (fail)
      go_wp2_with fail
      generalize hW : World.drewN w9 _ = W
      have HBX : Hid (W.cell? ⟨w.heap.size, 0, none⟩ = some (.int .i64 x.1) ∧ W.cell? ⟨w.heap.size, 1, none⟩ = some (.int .i64 x.2)) := by rw [← hW]; exact ⟨d0, d1⟩
      have HBW : Hid (Below w.heap.size w W) := by rw [← hW]; exact q_drewN HBE.out _
      obtain ⟨ao2, hd, hfrom⟩ := cut_from HH.out k hk
      have hto := run_to ao k n cap (by have := HH.out.cap; omega)
      have HT := hid ((HH.out.take k hk).below HBW.out)
      have HD := hid (hd.below HBW.out)
      have HZ : Hid ((l.take k ++ [x]) ++ l.drop k = ins l x) := by unfold Hid; rw [HE.out]; simp
      have HLN : Hid (n + 1 = (ins l x).length) := by unfold Hid; rw [HE.out]; have := HH.out.len; simp; omega
      obtain ⟨e0, e1⟩ := HBX.out
      clear hW hd d0 d1
      go_region_held3 (fun w' => w'.cell? ⟨w.heap.size, 0, none⟩ = some (.int .i64 x.1) ∧ w'.cell? ⟨w.heap.size, 1, none⟩ = some (.int .i64 x.2)) (first | go_keep | exact box_keep HBX.out b3 | exact box_keep HBX.out b2 | exact box_keep HBX.out (q_alloc b1 _) | exact box_keep HBX.out b1)
        (first
          | (refine step_append_keys _ (by rfl) (.tmp 33) (.tmp 36) (by rfl) W.heap.size (.slice (some ⟨W.heap.size, 0, none⟩) 0 0) 0 [] (by rfl) ((own0 W 23 2).drew) ao k cap (l.take k) (by rfl) HT.out.len HT.out.nil (HT.out.row.below ((alloc_below W _).drew)) k (by omega) (l.take k) (by rfl) (by omega) (by simp) ?_; intro ao1 cap1 w1 own1' grow1; have b1 := grow_below ((alloc_below W _).drew) grow1 (Nat.le_refl _))
          | (refine step_append_keys _ (by rfl) (.tmp 33) (.tmp 36) (by rfl) W.heap.size (.slice (some ⟨W.heap.size, 0, none⟩) 0 0) 0 [] (by rfl) (((own0 W 23 2).alloc (.cells #[.int .i64 x.1, .int .i64 x.2] 23)).drew) ao k cap (l.take k) (by rfl) HT.out.len HT.out.nil (HT.out.row.below ((q_alloc (alloc_below W _) _).drew)) k (by omega) (l.take k) (by rfl) (by omega) (by simp; omega) ?_; intro ao1 cap1 w1 own1' grow1; have b1 := grow_below ((q_alloc (alloc_below W _) _).drew) grow1 (Nat.le_refl _); have HX3 := hid (row_grown ((key_at1 x W).below (Below.refl _ _).drew) grow1 (by omega)))
          | (refine step_append_keys _ (by rfl) (.tmp 33) (.tmp 36) (by rfl) W.heap.size (.slice (some ⟨W.heap.size + 1, 0, none⟩) 0 0) 0 [] (by rfl) ((own1 x W).drew) ao k cap (l.take k) (by rfl) HT.out.len HT.out.nil (HT.out.row.below ((q_alloc (alloc_below W _) _).drew)) k (by omega) (l.take k) (by rfl) (by omega) (by simp; omega) ?_; intro ao1 cap1 w1 own1' grow1; have b1 := grow_below ((q_alloc (alloc_below W _) _).drew) grow1 (by omega); have HX3 := hid (row_grown (((one_key W x 23).below (alloc_below _ _)).below (Below.refl _ _).drew) grow1 (by omega)))
          | (refine step_append_keys _ (by rfl) (.tmp 37) (.tmp 39) (by rfl) W.heap.size _ _ _ (by rfl) (own1'.alloc _) (some ⟨w1.heap.size, 0, none⟩) 1 1 [x] (by rfl) (by rfl) (fun h => by cases h) (one_key w1 x 23) (k + 1) (by omega) (l.take k ++ [x]) (by rfl) (by omega) (q_alloc b1 _).size ?_; intro ao2' cap2 w2 own2 grow2; have b2 := (q_alloc b1 _).grown grow2 (q_alloc b1 _).size (fun k e => (own1'.lt k e).1))
          | (refine step_append_keys _ (by rfl) (.tmp 37) (.tmp 39) (by rfl) W.heap.size _ _ _ (by rfl) own1' (some ⟨W.heap.size + 1, 0, none⟩) 1 1 [x] (by rfl) (by rfl) (fun h => by cases h) HX3.out (k + 1) (by omega) (l.take k ++ [x]) (by rfl) (by omega) b1.size ?_; intro ao2' cap2 w2 own2 grow2; have b2 := b1.grown grow2 b1.size (fun k e => (own1'.lt k e).1))
          | (refine step_append_keys _ (by rfl) (.tmp 37) (.tmp 39) (by rfl) W.heap.size _ _ _ (by rfl) own1' (some ⟨W.heap.size, 0, none⟩) 1 1 [x] (by rfl) (by rfl) (fun h => by cases h) HX3.out (k + 1) (by omega) (l.take k ++ [x]) (by rfl) (by omega) b1.size ?_; intro ao2' cap2 w2 own2 grow2; have b2 := b1.grown grow2 b1.size (fun k e => (own1'.lt k e).1))
          | (refine step_append_keys _ (by rfl) (.tmp 40) (.tmp 43) (by rfl) W.heap.size _ _ _ (by rfl) own2 ao2 (n - k) (cap - k) (l.drop k) (by rfl) HD.out.len HD.out.nil (HD.out.row.below b2) (n + 1) (by omega) (ins l x) HZ.out (by omega) b2.size ?_; intro ao3 cap3 w3 own3 grow3; have b3 := b2.grown grow3 b2.size (fun k e => (own2.lt k e).1)))
      all_goals
        have H3 := hid (own_has own3 HLN.out)
        have B3 := hid (q_trans HBW.out b3)
        clear own1' grow1 b1 own2 grow2 b2 own3 grow3 b3
        go_wp2_with fail
        go_ret
        refine ⟨ao3, cap3, by rw [← HLN.out]; rfl, ?_, B3.out⟩
        rw [← HLN.out]
        exact H3.out
end Go.Proofs.Ythonibklaijejaa.Or
