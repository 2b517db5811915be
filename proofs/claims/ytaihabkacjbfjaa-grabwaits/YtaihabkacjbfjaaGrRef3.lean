/- What the document's Start does. -/
import Derived.Test.YtaihabkacjbfjaaGrIns
import Derived.Test.YtaihabkacjbfjaaGrW1
import Derived.Test.YtaihabkacjbfjaaGrW4
import Derived.Deep.RegionWith
namespace Go.Proofs.Ytaihabkacjbfjaa.Gr
open Go.RowKit Go.Proofs.Ytaihabkacjbfjaa.Ce

theorem srt_take (l : List Int) (k : Nat) (h : k < l.length) : srt (l.take (k + 1)) = ins (srt (l.take k)) (l.getD k 0) := by rw [take_snocI l k h, srt_snoc]
theorem len_take (l : List Int) (k : Nat) : (srt (l.take k)).length ≤ k := by have := len_srt (l.take k); simp at this; omega
theorem srt_len0 {l : List Int} : (srt l).length = 0 ↔ l.length = 0 := by
  constructor
  · intro h
    cases l with
    | nil => rfl
    | cons x r =>
      have : x ∈ srt (x :: r) := mem_srt.2 (by simp)
      rw [List.eq_nil_of_length_eq_zero h] at this
      simp at this
  · intro h
    rw [List.eq_nil_of_length_eq_zero h]
    rfl

set_option maxRecDepth 100000 in
set_option maxHeartbeats 2000000 in
/-- START (the document's). -/
theorem rstart_any (who : Int) (b : Bool) (ao : Option Addr) (n cap : Nat) (l : List Int) (w : World) (H : Hid (Has w ao n cap l)) (hs : n ≤ 1000) :
    Calls Try.prog 11 #[.int .i64 who, .bool b, .slice ao n cap] w fun e w' => ∃ ao' cap', e = .returned (.tuple #[(.agg #[.int .i64 (startG who b l).w, .slice ao' (startG who b l).cs.length cap', .int .i64 (startG who b l).p, .int .i64 (startG who b l).a, .int .i64 (startG who b l).t, .bool (startG who b l).b]), .int .i64 (startE who l)]) ∧ Has w' ao' (startG who b l).cs.length cap' (startG who b l).cs ∧ Below w.heap.size w w' := by
  by_cases h1 : who < 1
  · have HE : Hid (startE who l = 2) := startE_who h1
    go_enter Try.func11, Try.ntmps11
    go_wp2
    refine bodyPost_ret (v := .tuple #[.agg #[.int .i64 0, .slice none 0 0, .int .i64 0, .int .i64 0, .int .i64 0, .bool false], .int .i64 2]) (by simp [results, Try.results11, go_sem]) rfl ⟨none, 0, ?_, ?_, ?_⟩
    · rw [startG_no (by rw [HE.out]; decide), HE.out]; rfl
    · rw [startG_no (by rw [HE.out]; decide)]; exact has_nil _
    · exact q_alloc (alloc_below w _) _
  · have hI : InG ((w.alloc (.cells #[.int .i64 0, .slice none 0 0, .int .i64 0, .int .i64 0, .int .i64 0, .bool false] 25)).alloc (.cells #[.int .i64 who, .slice none 0 0, .int .i64 1, .int .i64 0, .int .i64 0, .bool b] 25)) w.heap.size 0 (.slice none 0 0) 0 0 0 false ∧
        InG ((w.alloc (.cells #[.int .i64 0, .slice none 0 0, .int .i64 0, .int .i64 0, .int .i64 0, .bool false] 25)).alloc (.cells #[.int .i64 who, .slice none 0 0, .int .i64 1, .int .i64 0, .int .i64 0, .bool b] 25)) (w.heap.size + 1) who (.slice none 0 0) 1 0 0 b := by
      refine ⟨(inG_new w 0 (.slice none 0 0) 0 0 0 false 25).below (alloc_below _ _), ?_⟩
      have h := inG_new (w.alloc (.cells #[.int .i64 0, .slice none 0 0, .int .i64 0, .int .i64 0, .int .i64 0, .bool false] 25)) who (.slice none 0 0) 1 0 0 b 25
      rwa [show (w.alloc (.cells #[.int .i64 0, .slice none 0 0, .int .i64 0, .int .i64 0, .int .i64 0, .bool false] 25)).heap.size = w.heap.size + 1 by simp] at h
    have HIN := hid hI
    clear hI
    go_enter Try.func11, Try.ntmps11
    go_wp2
    generalize hW : (w.alloc _).alloc _ = W at HIN ⊢
    have HBW : Hid (Below w.heap.size w W) := by rw [← hW]; exact q_alloc (alloc_below w _) _
    have HSZ : Hid (w.heap.size + 2 ≤ W.heap.size) := by have := HIN.out.2.lt; show _ ≤ _; omega
    have n1 : w.heap.size + 1 < W.heap.size := HIN.out.2.lt
    have m1 : w.heap.size < W.heap.size := HIN.out.1.lt
    obtain ⟨r0, r1, r2, r3, r4, r5, rf⟩ := HIN.out.1
    clear hW
    go_loop [9] (fun i => ∃ k : Nat, k ≤ n ∧ i = .int .i64 k ∧ Hid (∀ j, j < k → 0 ≤ l.getD j 0)) (fun i => n - (intOf i).toNat)
    case atStart => exact ⟨0, Nat.zero_le _, rfl, fun j hj => absurd hj (by omega)⟩
    case round =>
      obtain ⟨k, hk, rfl, HA⟩ := hrel
      by_cases hlt : k < n
      · have hkl : Hid (k < l.length) := by have := H.out.len; show k < l.length; omega
        obtain ⟨a, rfl, hc⟩ := (H.out.below HBW.out).cell k hlt
        obtain ⟨x, hx⟩ : ∃ x, l.getD k 0 = x := ⟨_, rfl⟩
        rw [hx] at hc
        have HX := hid hx
        clear hx
        by_cases h3 : x < 0
        · have HE : Hid (startE who l = 2) := startE_neg hkl.out (by rw [HX.out]; exact h3)
          go_wp2
          refine bodyPost_ret (v := .tuple #[.agg #[.int .i64 0, .slice none 0 0, .int .i64 0, .int .i64 0, .int .i64 0, .bool false], .int .i64 2]) (by simp [results, Try.results11, go_sem, r0, r1, r2, r3, r4, r5]) rfl ⟨none, 0, ?_, ?_, ?_⟩
          · rw [startG_no (by rw [HE.out]; decide), HE.out]; rfl
          · rw [startG_no (by rw [HE.out]; decide)]; exact has_nil _
          · exact HBW.out.trans ((kept_store W w.heap.size 0 (.slice none 0 0) 0 0 0 false).below w.heap.size HBW.out.size (fun i e => by omega))
        · have HA' : Hid (∀ j, j < k + 1 → 0 ≤ l.getD j 0) := fun j hj => by
            by_cases e : j = k
            · subst e; rw [HX.out]; omega
            · exact HA.out j (by omega)
          go_wp2
          go_round
          case rel => exact ⟨k + 1, by omega, by go_num, HA'⟩
          case measure => simp [intOf]; omega
      · obtain rfl : k = n := by omega
        have HE0 : Hid (startE who l = if 64 < k then 6 else 0) := by
          have := startE_all (who := who) (l := l) (by omega) (fun j hj => HA.out j (by rw [H.out.len]; exact hj))
          rwa [← H.out.len] at this
        by_cases h4 : 64 < k
        · have HE : Hid (startE who l = 6) := by have := HE0.out; rwa [if_pos h4] at this
          go_wp2
          refine bodyPost_ret (v := .tuple #[.agg #[.int .i64 0, .slice none 0 0, .int .i64 0, .int .i64 0, .int .i64 0, .bool false], .int .i64 6]) (by simp [results, Try.results11, go_sem, r0, r1, r2, r3, r4, r5]) rfl ⟨none, 0, ?_, ?_, ?_⟩
          · rw [startG_no (by rw [HE.out]; decide), HE.out]; rfl
          · rw [startG_no (by rw [HE.out]; decide)]; exact has_nil _
          · exact HBW.out.trans ((kept_store W w.heap.size 0 (.slice none 0 0) 0 0 0 false).below w.heap.size HBW.out.size (fun i e => by omega))
        · have HE : Hid (startE who l = 0) := by have := HE0.out; rwa [if_neg h4] at this
          clear r0 r1 r2 r3 r4 r5 rf HE0
          go_wp2
          go_loopw [10] (fun i wr => ∃ (j mo dd : Nat) (xo : Option Addr), j ≤ k ∧ i = .int .i64 j ∧ mo ≤ j ∧ Hid (InG wr w.heap.size 0 (.slice none 0 0) 0 0 0 false) ∧ Hid (InG wr (w.heap.size + 1) who (.slice xo mo dd) 1 0 0 b) ∧ Hid (Mine wr (w.heap.size + 2) xo mo dd (srt (l.take j))) ∧ Hid (Below w.heap.size w wr)) (fun i _ => k - (intOf i).toNat)
          case atStart => exact ⟨0, 0, 0, none, Nat.zero_le _, rfl, Nat.le_refl _, HIN.out.1, HIN.out.2, ⟨has_nil _, fun a e => by cases e⟩, HBW⟩
          case round =>
            obtain ⟨j, mo, dd, xo, hj, rfl, hmo, HR, HG, HM, HB⟩ := hrel
            have n2 : w.heap.size + 1 < wr.heap.size := HG.out.lt
            by_cases hlt2 : j < k
            · have i1 : (0 : Int) ≤ (j : Int) := by omega
              have i2 : (j : Int) < (k : Int) := by omega
              obtain ⟨a, rfl, hc⟩ := (H.out.below HB.out).cell j hlt2
              obtain ⟨x, hx⟩ : ∃ x, l.getD j 0 = x := ⟨_, rfl⟩
              rw [hx] at hc
              have HX := hid hx
              clear hx
              have hins := fun W' b' => insert_any (w.heap.size + 2) xo mo dd (srt (l.take j)) x W' (by omega) b'
              obtain ⟨c0, c1, c2, c3, c4, c5, cf⟩ := HG.out
              have HSN := hid (srt_take l j (by have := H.out.len; omega))
              go_wp2_with fail
              go_region_with (go_at_call 29; refine (hins _ (by first | exact HM | exact HM.out.below (Below.refl _ wr).drew | exact HM.out.below (q_drewN (Below.refl _ wr) _)) (by first | exact HG.out.lt | (simp [Hid]; omega))).mono ?_; rintro e w2 ⟨ao2, cap2, rfl, hm2, b2⟩; have HB2 : Hid (Below wr.heap.size wr w2) := (by first | exact b2 | exact q_trans (Below.refl _ wr).drew b2 | exact q_trans (q_drewN (Below.refl _ wr) _) b2); have d1 := (HG.out.below HB2.out).c1; have df := (HG.out.below HB2.out).f 1; have HM2 := hid hm2; clear hm2 b2)
              all_goals
                have HG2 : Hid (InG (w2.setCell ⟨w.heap.size + 1, 1, none⟩ (.slice ao2 (ins (srt (l.take j)) x).length cap2)) (w.heap.size + 1) who (.slice ao2 (ins (srt (l.take j)) x).length cap2) 1 0 0 b) := by
                  obtain ⟨g0, g1, g2, g3, g4, g5, gf⟩ := HG.out.below HB2.out
                  exact ⟨(cell_set g0).trans (by simp), (cell_set g1).trans (by simp), (cell_set g2).trans (by simp), (cell_set g3).trans (by simp), (cell_set g4).trans (by simp), (cell_set g5).trans (by simp), fun i => by simpa using gf i⟩
                have K2 : Hid (Kept (fun k => k = w.heap.size + 1) w2 (w2.setCell ⟨w.heap.size + 1, 1, none⟩ (.slice ao2 (ins (srt (l.take j)) x).length cap2))) := kept_set _ _ _ _ rfl
                have HR2 := hid ((HR.out.below HB2.out).kept K2.out (by omega))
                have HM3 := hid (HM2.out.kept K2.out (fun i h e => by omega) (Nat.le_refl _))
                have HB3 := hid ((q_trans HB.out HB2.out).trans (K2.out.below w.heap.size (q_trans HB.out HB2.out).size (fun i e => by omega)))
                have HL2 : Hid ((ins (srt (l.take j)) x).length ≤ j + 1 ∧ ins (srt (l.take j)) x = srt (l.take (j + 1))) := by
                  have e : ins (srt (l.take j)) x = srt (l.take (j + 1)) := by rw [HSN.out, HX.out]
                  exact ⟨by rw [e]; exact len_take l (j + 1), e⟩
                clear d1 df c0 c1 c2 c3 c4 c5 cf hc K2 HM2
                go_wp2_with fail
                go_roundw
                case rel => exact ⟨j + 1, _, cap2, ao2, by omega, by go_num, HL2.out.1, HR2, HG2, by rw [← HL2.out.2]; exact HM3, HB3⟩
                case measure => simp [intOf]; omega
            · obtain rfl : j = k := by omega
              have HT : Hid (l.take j = l) := List.take_of_length_le (by have := H.out.len; omega)
              have HM' : Hid (Mine wr (w.heap.size + 2) xo mo dd (srt l)) := by have := HM.out; rwa [HT.out] at this
              have HMO := hid HM'.out.has.len
              have n3 : w.heap.size < wr.heap.size := HR.out.lt
              obtain ⟨c0, c1, c2, c3, c4, c5, cf⟩ := HG.out
              obtain ⟨r0, r1, r2, r3, r4, r5, rf⟩ := HR.out
              by_cases h0 : mo = 0
              · have HGG : Hid (startG who b l = ⟨who, srt l, 2, 0, 0, b⟩) := by
                  have := startG_yes (b := b) HE.out
                  rwa [if_pos (srt_len0.1 (by rw [← HMO.out]; exact h0))] at this
                subst h0
                go_wp2_with fail
                refine bodyPost_ret (v := .tuple #[.agg #[.int .i64 who, .slice xo 0 dd, .int .i64 2, .int .i64 0, .int .i64 0, .bool b], .int .i64 0]) (by simp [results, Try.results11, go_sem, r0, r1, r2, r3, r4, r5]) rfl ⟨xo, dd, ?_, ?_, ?_⟩
                · rw [HGG.out, HE.out, HMO.out]
                · rw [HGG.out]
                  simp only
                  rw [← HMO.out]
                  refine (HM'.out.kept (S := fun k => k = w.heap.size ∨ k = w.heap.size + 1) (B' := w.heap.size) ?_ (fun i h e => by omega) (by omega)).has
                  iterate 7 refine Kept.setCell ?_ _ _ (fun _ => by simp)
                  exact Kept.refl _ _
                · refine HB.out.trans (Kept.below (S := fun k => k = w.heap.size ∨ k = w.heap.size + 1) ?_ w.heap.size HB.out.size (fun i e => by omega))
                  iterate 7 refine Kept.setCell ?_ _ _ (fun _ => by simp)
                  exact Kept.refl _ _
              · have HGG : Hid (startG who b l = ⟨who, srt l, 1, 0, 0, b⟩) := by
                  have := startG_yes (b := b) HE.out
                  rwa [if_neg (fun e => h0 (by rw [HMO.out]; exact srt_len0.2 e))] at this
                have h0' : ((mo : Int) == 0) = false := by simp; omega
                clear h0
                go_wp2_with fail
                refine bodyPost_ret (v := .tuple #[.agg #[.int .i64 who, .slice xo mo dd, .int .i64 1, .int .i64 0, .int .i64 0, .bool b], .int .i64 0]) (by simp [results, Try.results11, go_sem, r0, r1, r2, r3, r4, r5]) rfl ⟨xo, dd, ?_, ?_, ?_⟩
                · rw [HGG.out, HE.out, HMO.out]
                · rw [HGG.out]
                  simp only
                  rw [← HMO.out]
                  refine (HM'.out.kept (S := fun k => k = w.heap.size ∨ k = w.heap.size + 1) (B' := w.heap.size) ?_ (fun i h e => by omega) (by omega)).has
                  iterate 6 refine Kept.setCell ?_ _ _ (fun _ => by simp)
                  exact Kept.refl _ _
                · refine HB.out.trans (Kept.below (S := fun k => k = w.heap.size ∨ k = w.heap.size + 1) ?_ w.heap.size HB.out.size (fun i e => by omega))
                  iterate 6 refine Kept.setCell ?_ _ _ (fun _ => by simp)
                  exact Kept.refl _ _
end Go.Proofs.Ytaihabkacjbfjaa.Gr
