/- What the document's New does: the walk. -/
import Derived.Test.YtnagpedkmfmniaaArRNewF
import Derived.LoopN
namespace Go.Proofs.Ytnagpedkmfmniaa.Ar
open Go.RowKit Go.Proofs.Ytnagpedkmfmniaa.Ha

theorem nv_start (w : World) (n m : Nat) : Nv w ((w.alloc (.cells #[.slice none 0 0, .slice none 0 0] 25)).alloc (.cells #[.slice none 0 0, .slice none 0 0] 25)) (w.heap.size + 1) Wh.zero ⟨[], newF n m⟩ 0 [] := by
  have h := heap_alloc_new (w.alloc (.cells #[.slice none 0 0, .slice none 0 0] 25)) (.cells #[.slice none 0 0, .slice none 0 0] 25)
  rw [show (w.alloc (.cells #[.slice none 0 0, .slice none 0 0] 25)).heap.size = w.heap.size + 1 by simp] at h
  exact ⟨q_alloc (alloc_below w _) _, (zr_new w).below (alloc_below _ _), h, Nat.lt_succ_self _, World.ownsRow_nil _ _ _ _, World.ownsRow_nil _ _ _ _, rfl, rfl, fun i hi => absurd hi (by omega)⟩
/-- A core's list under way. -/
structure Nl (W wr : World) (n m c p : Nat) (ao : Option Addr) (k cap : Nat) : Prop where
  low : Below W.heap.size W wr
  md : p % m = c
  own : wr.ownsRow W.heap.size 3 1 (.slice ao k cap) k (vals (newL p m c))
theorem Nl.len {W wr : World} {n m c p k cap : Nat} {ao : Option Addr} (h : Nl W wr n m c p ao k cap) : k ≤ p := by
  have := h.own.1
  rw [len_vals] at this
  have := len_newL p m c
  omega
theorem nl_step {W wr w2 : World} {n m c p k cap cap2 : Nat} {ao ao2 : Option Addr} {o : Obj} (h : Nl W wr n m c p ao k cap) (hm : 0 < m) (o2 : w2.ownsRow W.heap.size 3 1 (.slice ao2 (k + 1) cap2) (k + 1) (vals (newL p m c) ++ vals [(p : Int)])) (g : (wr.alloc o).grownBy w2 (Value.ownBlock (.slice ao k cap))) :
    Nl W w2 n m c (p + m) ao2 (k + 1) cap2 := by
  refine ⟨grow_own h.low rfl h.own g, by rw [Nat.add_mod_right]; exact h.md, ?_⟩
  rw [newL_stride hm h.md]
  simpa [vals] using o2
set_option maxRecDepth 100000 in
set_option maxHeartbeats 8000000 in
theorem rnew_yes (n m : Nat) (w : World) (h1 : (1 : Int) ≤ (n : Int)) (h2 : (n : Int) ≤ 64) (h3 : (1 : Int) ≤ (m : Int)) (h4 : (m : Int) ≤ 64) :
    Calls Try.prog 12 #[.int .i64 n, .int .i64 m] w fun e w' => ∃ y : Wh, e = .returned (.tuple #[(.agg #[.slice y.t.o y.t.n y.t.c, .slice y.f.o y.f.n y.f.c]), .int .i64 0]) ∧ HasO w' y (newA n m) ∧ Below w.heap.size w w' := by
  have HS := hid (nv_start w n m)
  go_enter Try.func12, Try.ntmps12
  go_wp2_with fail
  generalize (w.alloc (.cells #[.slice none 0 0, .slice none 0 0] 25)).alloc (.cells #[.slice none 0 0, .slice none 0 0] 25) = W at HS ⊢
  generalize w.heap.size + 1 = bx at HS ⊢
  go_loopw [7] (fun s7 wr => ∃ (c : Nat) (y : Wh) (hs : List Hd), c ≤ m ∧ s7 = .int .i64 c ∧ Hid (Nv w wr bx y ⟨[], newF n m⟩ c hs)) (fun s7 _ => m - (intOf s7).toNat)
  case atStart => exact ⟨0, _, [], Nat.zero_le _, rfl, HS⟩
  case round =>
    clear HS
    obtain ⟨c, ⟨⟨yo, yn, yc⟩, ⟨yfo, yfn, yfc⟩⟩, hs, hc, rfl, HG⟩ := hrel
    have hyf : yfn = c := HG.out.fn
    subst hyf
    by_cases hlt : yfn < m
    · obtain ⟨W0, rfl⟩ : ∃ W0, W0 = wr := ⟨_, rfl⟩
      have i2 : (yfn : Int) < (m : Int) := by omega
      have HL0 : Hid (Nl W0 W0 n m yfn yfn none 0 0) := ⟨Below.refl _ _, Nat.mod_eq_of_lt hlt, by rw [newL_first hlt]; exact World.ownsRow_nil _ _ _ _⟩
      go_wp2_with fail
      go_loopw [8, 9] (fun s8 s9 wx => ∃ (p k cap : Nat) (ao : Option Addr), p < n + m ∧ s9 = .int .i64 p ∧ s8 = .slice ao k cap ∧ Hid (Nl W0 wx n m yfn p ao k cap)) (fun _ s9 _ => n + m - (intOf s9).toNat)
      case atStart => exact ⟨yfn, 0, 0, none, by omega, rfl, rfl, HL0⟩
      case round =>
        clear HL0
        obtain ⟨p, k, cap, ao, hp, rfl, rfl, HL⟩ := hrel
        have hk := HL.out.len
        by_cases hpn : p < n
        · have i3 : (p : Int) < (n : Int) := by omega
          go_wp2_with (at_builtin; go_loud (refine wpList_append_row _ rfl (.tmp 39) (.tmp 41) 49 3 _ 1 8 rfl Try.underlying49 infoN rfl (by decide) (by decide) W0.heap.size _ k (vals (newL p m yfn)) rfl (own_below HL.out.own (alloc_below _ _)) (some ⟨wr.heap.size, 0, none⟩) 1 1 (vals [(p : Int)]) rfl rfl (fun h => by cases h) (one_val _ _ _) (vals_one _) (by omega) (by have := HL.out.low.size; simp; omega) ?_; intro ao2 cap2 w2 hown2 hgrow2; apply Hid.out))
          have HL2 := hid (nl_step HL.out (by omega) hown2 hgrow2)
          clear hown2 hgrow2 HL
          unfold Hid
          go_wp2_with fail
          go_roundw
          case rel => exact ⟨p + m, _, _, _, by omega, by go_num, rfl, HL2⟩
          case measure => simp [intOf]; omega
        · have HB := hid HL.out.low
          have HO : Hid (wr.ownsRow W0.heap.size 3 1 (.slice ao k cap) k (vals ((newF n m).getD yfn []))) := by
            rw [newF_at n m yfn hlt, ← newL_last HL.out.md (by omega) hp]
            exact HL.out.own
          obtain ⟨d0, d1, df⟩ := (HG.out.below HB.out).inA
          go_wp2_with (at_builtin; go_loud (refine wpList_append_row _ rfl (.tmp 44) (.tmp 46) 23 49 _ 1 24 rfl Try.underlying23 infoF rfl (by decide) (by decide) w.heap.size _ yfn (hds hs) rfl ((HG.out.below HB.out).below (alloc_below _ _)).f (some ⟨wr.heap.size, 0, none⟩) 1 1 (hds [⟨ao, k, cap⟩]) rfl rfl (fun h => by cases h) (one_hd wr ⟨ao, k, cap⟩ _) (hds_one _) (by omega) ((HG.out.below HB.out).below (alloc_below _ _)).low.size ?_; intro ao2 cap2 w2 hown2 hgrow2; apply Hid.out))
          obtain ⟨e0, e1, ef⟩ := nv_cells HG.out HB.out (HG.out.below HB.out).f fneA hgrow2
          have HG2 := hid (nv_step HG.out HB.out HO.out hown2 hgrow2)
          clear hown2 hgrow2 HG HO HB HL d0 d1 df
          unfold Hid
          go_wp2_with fail
          go_roundw
          case rel => exact ⟨yfn + 1, _, _, by omega, by go_num, HG2⟩
          case measure => simp [intOf]; omega
    · obtain rfl : yfn = m := by omega
      obtain ⟨W0, rfl⟩ : ∃ W0, W0 = wr := ⟨_, rfl⟩
      go_wp2_with fail
      go_loopw [10] (fun s10 wx => ∃ (p : Nat) (y : Wh), p ≤ n ∧ s10 = .int .i64 p ∧ Hid (Nv w wx bx y ⟨List.replicate p (Th.none 0), newF n yfn⟩ yfn hs)) (fun s10 _ => n - (intOf s10).toNat)
      case atStart => exact ⟨0, _, Nat.zero_le _, rfl, HG⟩
      case round =>
        clear HG
        obtain ⟨p, ⟨⟨yo, yn, yc⟩, ⟨yfo, yfm, yfc⟩⟩, hp, rfl, HG⟩ := hrel
        have hyn : yn = p := by have := HG.out.t.1; rw [len_ths] at this; simp at this; omega
        subst hyn
        obtain ⟨d0, d1, df⟩ := HG.out.inA
        by_cases hpn : yn < n
        · have i3 : (yn : Int) < (n : Int) := by omega
          go_wp2_with (at_builtin; go_loud (refine wpList_append_row _ rfl (.tmp 55) (.tmp 57) 22 40 _ 8 64 rfl Try.underlying22 infoT rfl (by decide) (by decide) w.heap.size _ yn (ths (List.replicate yn (Th.none 0))) rfl (HG.out.below (alloc_below _ _)).t (some ⟨wr.heap.size, 0, none⟩) 1 1 (ths [Th.none 0]) rfl rfl (fun h => by cases h) (one_th wr (Th.none 0) _) (ths_one _) (by omega) (HG.out.below (alloc_below _ _)).low.size ?_; intro ao2 cap2 w2 hown2 hgrow2; apply Hid.out))
          obtain ⟨e0, e1, ef⟩ := nv_cells HG.out (Below.refl _ _) HG.out.t tneA hgrow2
          have HG2 := nv_thing HG.out hown2 hgrow2
          dsimp only at HG2
          rw [← List.replicate_succ'] at HG2
          replace HG2 := hid HG2
          clear hown2 hgrow2 HG d0 d1 df
          unfold Hid
          go_wp2_with fail
          go_roundw
          case rel => exact ⟨yn + 1, _, by omega, by go_num, HG2⟩
          case measure => simp [intOf]; omega
        · obtain rfl : yn = n := by omega
          obtain ⟨r0, r1, rf⟩ := HG.out.zr.inA
          have HF : Hid (HasO wr ⟨⟨yo, yn, yc⟩, ⟨yfo, yfm, yfc⟩⟩ (newA yn yfn)) := by
            have h := HG.out
            refine hid (Nv.hasO (w := w) (bx := bx) (hs := hs) ?_)
            show Nv w wr bx _ ⟨List.replicate yn (Th.none 0), newF yn yfn⟩ (newF yn yfn).length hs
            rw [len_newF]
            exact h
          go_wp2_with fail
          refine bodyPost_ret (v := .tuple #[(.agg #[.slice (⟨⟨yo, yn, yc⟩, ⟨yfo, yfm, yfc⟩⟩ : Wh).t.o (⟨⟨yo, yn, yc⟩, ⟨yfo, yfm, yfc⟩⟩ : Wh).t.n (⟨⟨yo, yn, yc⟩, ⟨yfo, yfm, yfc⟩⟩ : Wh).t.c, .slice (⟨⟨yo, yn, yc⟩, ⟨yfo, yfm, yfc⟩⟩ : Wh).f.o (⟨⟨yo, yn, yc⟩, ⟨yfo, yfm, yfc⟩⟩ : Wh).f.n (⟨⟨yo, yn, yc⟩, ⟨yfo, yfm, yfc⟩⟩ : Wh).f.c]), .int .i64 0]) (by simp [results, Try.results12, go_sem, r0, r1]) rfl ⟨_, rfl, HF.out.box HG.out.zr _ _, low_put HG.out.low (Nat.le_refl _)⟩
end Go.Proofs.Ytnagpedkmfmniaa.Ar
