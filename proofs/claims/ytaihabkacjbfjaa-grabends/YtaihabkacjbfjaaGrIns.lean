/- What the document's insert does. -/
import Derived.Test.YtaihabkacjbfjaaGrCut
import Derived.Deep.RegionHeld3
namespace Go.Proofs.Ytaihabkacjbfjaa.Gr
open Go.RowKit Go.Proofs.Ytaihabkacjbfjaa.Ce

/-- append AT A STEP OF A REGION THAT DRAWS ITS ORDER. -/
theorem step_append_ints (w : World) {ops : Array Oper} {o : Oper} {a : Act} {C : Act → World → Prop} {Q : Exit → Act → World → Prop} {E : Prop} (hgd : o.guard = none) (s x : Operand)
    (ho : o.op = .call { callee := .builtin .append, args := #[s, x], argTypes := #[22, 22] })
    (base : Nat) (v : Value) (n : Nat) (xs : List Int) (hs : a.eval s = v) (hown : w.ownsRow base 3 1 v n (vals xs))
    (ao : Option Addr) (m c : Nat) (ys : List Int) (hx : a.eval x = .slice ao m c) (hm : m = ys.length) (hc : ao = none → c = 0) (hy : Row w ao (vals ys))
    (N : Nat) (hN : n + m = N) (Z : List Int) (hZ : xs ++ ys = Z) (h63 : N ≤ 5000) (hbase : base ≤ w.heap.size)
    (h : ∀ ao' cap' w', w'.ownsRow base 3 1 (.slice ao' N cap') N (vals Z) → w.grownBy w' v.ownBlock → C (a.put o.dst (.slice ao' N cap')) w') :
    if Region.wanted o (yielded ops a.tmps) = true then Oper.wp Try.prog o a w C Q else E := by
  have hw : Region.wanted o (yielded ops a.tmps) = true := by simp [Region.wanted, hgd]
  rw [if_pos hw]
  subst hN hZ
  rw [show vals (xs ++ ys) = vals xs ++ vals ys by simp] at h
  obtain ⟨i0, hi, hz0, hz1, hz2⟩ := info_of infoN
  have sl : ∀ {w' : World} {v' : Value} {k : Nat} {cs : List Value}, w'.ownsRow base 3 1 v' k cs → ∃ ao' cap', v' = .slice ao' k cap' := by
    intro w' v' k cs h
    rcases h.2 with ⟨rfl, rfl⟩ | ⟨g, cap, cur, rfl, _⟩
    · exact ⟨_, _, rfl⟩
    · exact ⟨_, _, rfl⟩
  cases ao with
  | none =>
    have h0 := row_none hy
    have hl := len_vals ys
    rw [h0] at hl
    have hm0 : m = 0 := by rw [hm]; simp at hl; omega
    subst hm0
    rw [hc rfl] at hx
    obtain ⟨ao', cap', rfl⟩ := sl hown
    have hrun := run_append_owned_none (P := Try.prog) (w := w) base 22 o.type 3 i0 1 Try.underlying22 hi _ n (vals xs) hown
    unfold Oper.wp
    simp [execOp, ho, resolve, invoke, builtin, hs, hx, hrun, Result.andThen]
    exact h ao' cap' w (by rw [h0]; simpa using hown) (World.grownBy.refl _ _)
  | some ad =>
    refine wp_append_own w s x 22 ho base 3 i0 _ 1 8 Try.underlying22 hi hz0 hz1 hz2 rfl (by decide) v n (vals xs) hs hown ad m c (vals ys) hx (by rw [len_vals, hm]; omega) ?_ (vals_one _) (by unfold maxLen; omega) (by omega) hbase ?_
    · intro j u hu
      obtain ⟨a', e, hcell⟩ := hy.cell j u hu
      cases e
      exact hcell
    · intro v' w' h1 h2 _
      obtain ⟨ao', cap', rfl⟩ := sl h1
      exact h ao' cap' w' h1 h2
theorem one_val (w : World) (x : Int) (T : TypeId) : Row (w.alloc (.cells #[.int .i64 x] T)) (some ⟨w.heap.size, 0, none⟩) (vals [x]) := by
  refine ⟨fun j u hu => ⟨_, rfl, ?_⟩⟩
  match j, hu with
  | 0, hu => simp at hu; subst hu; simp [Addr.add]
  | j + 1, hu => simp at hu
theorem own1 (x : Int) (w : World) : ((w.alloc (.cells #[.int .i64 x] 3)).alloc (.cells #[] 3)).ownsRow w.heap.size 3 1 (.slice (some ⟨w.heap.size + 1, 0, none⟩) 0 0) 0 (vals []) := by
  have := World.ownsRow_made (base := w.heap.size) (e := 3) (size := 1) (w.alloc (.cells #[.int .i64 x] 3)) #[] 0 (by simp) (by decide) (by simp)
  simpa using this
theorem row_grown {w w' : World} {b r n c : Nat} {cs : List Value} (h : Row w (some ⟨b, 0, none⟩) cs) (hg : w.grownBy w' (Value.ownBlock (.slice (some ⟨r, 0, none⟩) n c))) (hne : b ≠ r) : Row w' (some ⟨b, 0, none⟩) cs :=
  h.kept (kept_grown hg) (fun _ a e => by cases e; intro e2; exact hne (Option.some.inj e2))
theorem grow_below {w W w3 : World} {g n c : Nat} (hb : Below w.heap.size w W) (hg : W.grownBy w3 (Value.ownBlock (.slice (some ⟨g, 0, none⟩) n c))) (h : w.heap.size ≤ g) : Below w.heap.size w w3 :=
  hb.grown hg hb.size (fun k e => by cases e; exact h)
theorem val_at1 (x : Int) (w : World) : Row ((w.alloc (.cells #[] 3)).alloc (.cells #[.int .i64 x] 3)) (some ⟨w.heap.size + 1, 0, none⟩) (vals [x]) := by
  have := one_val (w.alloc (.cells #[] 3)) x 3
  simpa using this
theorem own_has {w : World} {B n cap : Nat} {ao : Option Addr} {l : List Int} (h : w.ownsRow B 3 1 (.slice ao n cap) n (vals l)) : Has w ao n cap l := (own_mine h).has

set_option maxRecDepth 100000 in
set_option maxHeartbeats 1000000 in
theorem insert_any (B : Nat) (ao : Option Addr) (n cap : Nat) (l : List Int) (x : Int) (w : World) (hs : n ≤ 1000) (HM : Hid (Mine w B ao n cap l)) (hB : Hid (B ≤ w.heap.size)) :
    Calls Try.prog 29 #[.slice ao n cap, .int .i64 x] w fun e w' => ∃ ao' cap', e = .returned (.slice ao' (ins l x).length cap') ∧ Mine w' B ao' (ins l x).length cap' (ins l x) ∧ Below w.heap.size w w' := by
  have HH := hid HM.out.has
  go_enter Try.func29, Try.ntmps29
  go_wp2
  go_loop [5] (fun i => ∃ k : Nat, k ≤ n ∧ i = .int .i64 k ∧ Hid (∀ j, j < k → ltK (l.getD j 0) x = true)) (fun i => n - (intOf i).toNat)
  case atStart => exact ⟨0, Nat.zero_le _, rfl, fun j h => absurd h (by omega)⟩
  case round =>
    obtain ⟨k, hk, rfl, HS⟩ := hrel
    by_cases hlt : k < n
    · have i1 : (0 : Int) ≤ (k : Int) := by omega
      have i2 : (k : Int) < (n : Int) := by omega
      obtain ⟨a, rfl, ca⟩ := HH.out.cell k hlt
      obtain ⟨y, hy⟩ : ∃ y, l.getD k 0 = y := ⟨_, rfl⟩
      rw [hy] at ca
      have HY := hid hy
      clear hy
      by_cases hyx : y < x
      · have HL := hid (lt_iff.2 hyx)
        go_wp2_with fail
        go_round
        case rel =>
          refine ⟨k + 1, by omega, by go_num, fun j hj => ?_⟩
          by_cases e : j = k
          · subst e
            rw [HY.out]
            exact HL.out
          · exact HS.out j (by omega)
        case measure => simp [intOf]; omega
      · have HI := hid (ins_at l x k (by have := HH.out.len; omega) HS.out (fun _ => by rw [HY.out]; exact lt_not.2 hyx))
        by_cases hxy : y = x
        · have hb : (y == x) = true := by simpa using hxy
          have HE : Hid (ins l x = l) := by
            unfold Hid
            rw [HI.out, if_pos ⟨by have := HH.out.len; omega, by rw [HY.out]; exact hxy⟩]
          clear hxy
          go_wp2_with fail
          go_ret
          refine ⟨some a, cap, by rw [HE.out, ← HH.out.len]; rfl, ?_, Below.refl _ _⟩
          rw [HE.out, ← HH.out.len]
          exact HM.out
        · have hb : (y == x) = false := by simpa using hxy
          have HE : Hid (ins l x = l.take k ++ (x :: l.drop k)) := by
            unfold Hid
            rw [HI.out, if_neg (fun e => hxy (by rw [← HY.out]; exact e.2))]
          clear hxy
          go_wp2_with fail
          obtain ⟨ao2, hd, hfrom⟩ := cut_from HH.out k hk
          have hto := run_to (some a) k n cap (by have := HH.out.le; omega)
          have HT := hid (HH.out.take k hk)
          have HD := hid hd
          have HZ : Hid ((l.take k ++ [x]) ++ l.drop k = ins l x) := by unfold Hid; rw [HE.out]; simp
          have HLN : Hid (n + 1 = (ins l x).length) := by unfold Hid; rw [HE.out]; have := HH.out.len; simp; omega
          clear hd
          go_region_held3 (fun w' => True) (trivial)
            (first
              | (refine step_append_ints _ (by rfl) (.tmp 33) (.tmp 36) (by rfl) w.heap.size (.slice (some ⟨w.heap.size, 0, none⟩) 0 0) 0 [] (by rfl) ((own0 w 3 1).drew) (some a) k cap (l.take k) (by rfl) HT.out.len HT.out.nil (HT.out.row.below ((alloc_below w _).drew)) k (by omega) (l.take k) (by rfl) (by omega) (by simp) ?_; intro ao1 cap1 w1 own1' grow1; have b1 := grow_below ((alloc_below w _).drew) grow1 (Nat.le_refl _))
              | (refine step_append_ints _ (by rfl) (.tmp 33) (.tmp 36) (by rfl) w.heap.size (.slice (some ⟨w.heap.size, 0, none⟩) 0 0) 0 [] (by rfl) (((own0 w 3 1).alloc (.cells #[.int .i64 x] 3)).drew) (some a) k cap (l.take k) (by rfl) HT.out.len HT.out.nil (HT.out.row.below ((q_alloc (alloc_below w _) _).drew)) k (by omega) (l.take k) (by rfl) (by omega) (by simp; omega) ?_; intro ao1 cap1 w1 own1' grow1; have b1 := grow_below ((q_alloc (alloc_below w _) _).drew) grow1 (Nat.le_refl _); have HX3 := hid (row_grown ((val_at1 x w).below (Below.refl _ _).drew) grow1 (by omega)))
              | (refine step_append_ints _ (by rfl) (.tmp 33) (.tmp 36) (by rfl) w.heap.size (.slice (some ⟨w.heap.size + 1, 0, none⟩) 0 0) 0 [] (by rfl) ((own1 x w).drew) (some a) k cap (l.take k) (by rfl) HT.out.len HT.out.nil (HT.out.row.below ((q_alloc (alloc_below w _) _).drew)) k (by omega) (l.take k) (by rfl) (by omega) (by simp; omega) ?_; intro ao1 cap1 w1 own1' grow1; have b1 := grow_below ((q_alloc (alloc_below w _) _).drew) grow1 (by omega); have HX3 := hid (row_grown (((one_val w x 3).below (alloc_below _ _)).below (Below.refl _ _).drew) grow1 (by omega)))
              | (refine step_append_ints _ (by rfl) (.tmp 37) (.tmp 39) (by rfl) w.heap.size _ _ _ (by rfl) (own1'.alloc _) (some ⟨w1.heap.size, 0, none⟩) 1 1 [x] (by rfl) (by rfl) (fun h => by cases h) (one_val w1 x 3) (k + 1) (by omega) (l.take k ++ [x]) (by rfl) (by omega) (q_alloc b1 _).size ?_; intro ao2' cap2 w2 own2 grow2; have b2 := (q_alloc b1 _).grown grow2 (q_alloc b1 _).size (fun k e => (own1'.lt k e).1))
              | (refine step_append_ints _ (by rfl) (.tmp 37) (.tmp 39) (by rfl) w.heap.size _ _ _ (by rfl) own1' (some ⟨w.heap.size + 1, 0, none⟩) 1 1 [x] (by rfl) (by rfl) (fun h => by cases h) HX3.out (k + 1) (by omega) (l.take k ++ [x]) (by rfl) (by omega) b1.size ?_; intro ao2' cap2 w2 own2 grow2; have b2 := b1.grown grow2 b1.size (fun k e => (own1'.lt k e).1))
              | (refine step_append_ints _ (by rfl) (.tmp 37) (.tmp 39) (by rfl) w.heap.size _ _ _ (by rfl) own1' (some ⟨w.heap.size, 0, none⟩) 1 1 [x] (by rfl) (by rfl) (fun h => by cases h) HX3.out (k + 1) (by omega) (l.take k ++ [x]) (by rfl) (by omega) b1.size ?_; intro ao2' cap2 w2 own2 grow2; have b2 := b1.grown grow2 b1.size (fun k e => (own1'.lt k e).1))
              | (refine step_append_ints _ (by rfl) (.tmp 40) (.tmp 43) (by rfl) w.heap.size _ _ _ (by rfl) own2 ao2 (n - k) (cap - k) (l.drop k) (by rfl) HD.out.len HD.out.nil (HD.out.row.below b2) (n + 1) (by omega) (ins l x) HZ.out (by omega) b2.size ?_; intro ao3 cap3 w3 own3 grow3; have b3 := b2.grown grow3 b2.size (fun k e => (own2.lt k e).1)))
          all_goals
            have H3 := hid ((own_mine own3).base hB.out)
            have B3 := hid b3
            clear own1' grow1 b1 own2 grow2 b2 own3 grow3 b3
            go_wp2_with fail
            go_ret
            refine ⟨ao3, cap3, by rw [← HLN.out]; rfl, ?_, B3.out⟩
            rw [← HLN.out]
            exact H3.out
    · have HE : Hid (ins l x = l.take k ++ (x :: l.drop k)) := by
        unfold Hid
        rw [ins_at l x k (by have := HH.out.len; omega) HS.out (fun h => absurd h (by have := HH.out.len; omega)), if_neg (fun e => by have := HH.out.len; have := e.1; omega)]
      go_wp2_with fail
      obtain ⟨ao2, hd, hfrom⟩ := cut_from HH.out k hk
      have hto := run_to ao k n cap (by have := HH.out.le; omega)
      have HT := hid (HH.out.take k hk)
      have HD := hid hd
      have HZ : Hid ((l.take k ++ [x]) ++ l.drop k = ins l x) := by unfold Hid; rw [HE.out]; simp
      have HLN : Hid (n + 1 = (ins l x).length) := by unfold Hid; rw [HE.out]; have := HH.out.len; simp; omega
      clear hd
      go_region_held3 (fun w' => True) (trivial)
        (first
          | (refine step_append_ints _ (by rfl) (.tmp 33) (.tmp 36) (by rfl) w.heap.size (.slice (some ⟨w.heap.size, 0, none⟩) 0 0) 0 [] (by rfl) ((own0 w 3 1).drew) ao k cap (l.take k) (by rfl) HT.out.len HT.out.nil (HT.out.row.below ((alloc_below w _).drew)) k (by omega) (l.take k) (by rfl) (by omega) (by simp) ?_; intro ao1 cap1 w1 own1' grow1; have b1 := grow_below ((alloc_below w _).drew) grow1 (Nat.le_refl _))
          | (refine step_append_ints _ (by rfl) (.tmp 33) (.tmp 36) (by rfl) w.heap.size (.slice (some ⟨w.heap.size, 0, none⟩) 0 0) 0 [] (by rfl) (((own0 w 3 1).alloc (.cells #[.int .i64 x] 3)).drew) ao k cap (l.take k) (by rfl) HT.out.len HT.out.nil (HT.out.row.below ((q_alloc (alloc_below w _) _).drew)) k (by omega) (l.take k) (by rfl) (by omega) (by simp; omega) ?_; intro ao1 cap1 w1 own1' grow1; have b1 := grow_below ((q_alloc (alloc_below w _) _).drew) grow1 (Nat.le_refl _); have HX3 := hid (row_grown ((val_at1 x w).below (Below.refl _ _).drew) grow1 (by omega)))
          | (refine step_append_ints _ (by rfl) (.tmp 33) (.tmp 36) (by rfl) w.heap.size (.slice (some ⟨w.heap.size + 1, 0, none⟩) 0 0) 0 [] (by rfl) ((own1 x w).drew) ao k cap (l.take k) (by rfl) HT.out.len HT.out.nil (HT.out.row.below ((q_alloc (alloc_below w _) _).drew)) k (by omega) (l.take k) (by rfl) (by omega) (by simp; omega) ?_; intro ao1 cap1 w1 own1' grow1; have b1 := grow_below ((q_alloc (alloc_below w _) _).drew) grow1 (by omega); have HX3 := hid (row_grown (((one_val w x 3).below (alloc_below _ _)).below (Below.refl _ _).drew) grow1 (by omega)))
          | (refine step_append_ints _ (by rfl) (.tmp 37) (.tmp 39) (by rfl) w.heap.size _ _ _ (by rfl) (own1'.alloc _) (some ⟨w1.heap.size, 0, none⟩) 1 1 [x] (by rfl) (by rfl) (fun h => by cases h) (one_val w1 x 3) (k + 1) (by omega) (l.take k ++ [x]) (by rfl) (by omega) (q_alloc b1 _).size ?_; intro ao2' cap2 w2 own2 grow2; have b2 := (q_alloc b1 _).grown grow2 (q_alloc b1 _).size (fun k e => (own1'.lt k e).1))
          | (refine step_append_ints _ (by rfl) (.tmp 37) (.tmp 39) (by rfl) w.heap.size _ _ _ (by rfl) own1' (some ⟨w.heap.size + 1, 0, none⟩) 1 1 [x] (by rfl) (by rfl) (fun h => by cases h) HX3.out (k + 1) (by omega) (l.take k ++ [x]) (by rfl) (by omega) b1.size ?_; intro ao2' cap2 w2 own2 grow2; have b2 := b1.grown grow2 b1.size (fun k e => (own1'.lt k e).1))
          | (refine step_append_ints _ (by rfl) (.tmp 37) (.tmp 39) (by rfl) w.heap.size _ _ _ (by rfl) own1' (some ⟨w.heap.size, 0, none⟩) 1 1 [x] (by rfl) (by rfl) (fun h => by cases h) HX3.out (k + 1) (by omega) (l.take k ++ [x]) (by rfl) (by omega) b1.size ?_; intro ao2' cap2 w2 own2 grow2; have b2 := b1.grown grow2 b1.size (fun k e => (own1'.lt k e).1))
          | (refine step_append_ints _ (by rfl) (.tmp 40) (.tmp 43) (by rfl) w.heap.size _ _ _ (by rfl) own2 ao2 (n - k) (cap - k) (l.drop k) (by rfl) HD.out.len HD.out.nil (HD.out.row.below b2) (n + 1) (by omega) (ins l x) HZ.out (by omega) b2.size ?_; intro ao3 cap3 w3 own3 grow3; have b3 := b2.grown grow3 b2.size (fun k e => (own2.lt k e).1)))
      all_goals
        have H3 := hid ((own_mine own3).base hB.out)
        have B3 := hid b3
        clear own1' grow1 b1 own2 grow2 b2 own3 grow3 b3
        go_wp2_with fail
        go_ret
        refine ⟨ao3, cap3, by rw [← HLN.out]; rfl, ?_, B3.out⟩
        rw [← HLN.out]
        exact H3.out
end Go.Proofs.Ytaihabkacjbfjaa.Gr
