/- AddrGuards. -/
import Derived.Test.YthnfekdoibhnpaaDoorAdLive
import Derived.Test.YthnfekdoibhnpaaDoorAdCut
namespace Go.Proofs.YthnfekdoibhnpaaDoor.Ad
open Go.RowKit
open Cp (K)

theorem own_head {w : World} {B n size : Nat} {e : TypeId} {ao : Option Addr} {c : Nat} {cs : List Value} (h : w.ownsRow B e size (.slice ao n c) n cs) (hn : 0 < n) : ∃ g, ao = some ⟨g, 0, none⟩ ∧ B ≤ g ∧ g < w.heap.size := by
  rcases h.2 with ⟨_, e2⟩ | ⟨g, c, cur, e, hb, hg, _⟩
  · omega
  · injection e with e1 e2 e3
    exact ⟨g, e1, hb, (Array.getElem?_eq_some_iff.1 hg).1⟩
theorem set_fst (l : List P) (k : Nat) (a : Int) (hk : k < l.length) : (prs l).set (k * 2) (.int .i64 a) = prs (l.set k (a, (l.getD k (0, 0)).2)) := by
  induction l generalizing k with
  | nil => simp at hk
  | cons x l ih =>
    cases k with
    | zero => simp [prs, pC]
    | succ k =>
      have := ih k (by simpa using hk)
      simp only [prs, List.flatMap_cons, pC, List.set_cons_succ, List.getD_cons_succ] at this ⊢
      rw [show (k + 1) * 2 = k * 2 + 1 + 1 by omega]
      simp only [List.cons_append, List.nil_append, List.set_cons_succ]
      rw [this]
theorem fnd_r {t : List (List K)} {c : K} {l : List P} (h : fndB t c l = true) : 0 ≤ c.r ∧ c.r ≤ 15 := by
  obtain ⟨h1, h2⟩ := fndB_iff.1 h
  cases l with
  | nil => have := okA_pos h1; simp at this
  | cons s r =>
    simp only [wayB, goB, Bool.and_eq_true] at h2
    have hm := h2.1.2.1
    simp only [mayB, Bool.and_eq_true] at hm
    have hr : Rt.isR c.r = true := by
      have := hm.2
      simp only [Rt.wiB, Bool.and_eq_true] at this
      exact this.1.2
    have := Rt.isR_iff.1 hr
    omega
set_option maxRecDepth 100000 in
set_option maxHeartbeats 2000000 in
theorem guards_row (to : Option Addr) (m cap' : Nat) (t : List (List K)) (r : K) (ao : Option Addr) (n cap : Nat) (l : List P) (at' gd : Int) (w : World) (hN : HasN w to m cap' t) (hL : HasP w ao n cap l) (hT : Cp.Tabs w) :
    Calls Tryd.prog 8 #[.slice to m cap', (.agg #[.int .i64 r.t, .int .i64 r.r, .int .i64 r.b, .int .i64 r.o, .int .i64 r.g]), .slice ao n cap, .int .i64 at', .int .i64 gd] w fun e w' => e = .returned (.bool true) ∧ Below w.heap.size w w' := by
  have HN := hid hN
  have HL := hid hL
  have HT := hid hT
  clear hN hL hT
  go_enter Tryd.func8, Tryd.ntmps8
  go_wp2_with fail
  have B0 := hid (alloc_below w (.cells #[.int .i64 r.t, .int .i64 r.r, .int .i64 r.b, .int .i64 r.o, .int .i64 r.g] 41))
  have R0 := hid (atK_new w r 41)
  generalize w.alloc (.cells #[.int .i64 r.t, .int .i64 r.r, .int .i64 r.b, .int .i64 r.o, .int .i64 r.g] 41) = W0 at B0 R0 ⊢
  refine (small_any to ao m n cap cap' t W0 (HN.out.below B0.out)).mono ?_
  rintro e w1 ⟨b, rfl, hb, b1⟩
  have B1 := hid (q_trans B0.out b1)
  have R1 := hid (R0.out.below b1)
  clear b1 B0 R0
  cases b with
  | false =>
    clear hb
    go_wp2_with fail
    refine (live_any _ (HT.out.below B1.out)).mono ?_
    rintro e w2 ⟨rfl, b2⟩
    go_wp2_with fail
    go_ret
    exact ⟨rfl, q_trans B1.out b2⟩
  | true =>
    have h20 := (hb rfl).2.1
    clear hb
    by_cases h0 : at' < 0
    · go_wp2_with fail
      refine (live_any _ (HT.out.below B1.out)).mono ?_
      rintro e w2 ⟨rfl, b2⟩
      go_wp2_with fail
      go_ret
      exact ⟨rfl, q_trans B1.out b2⟩
    · obtain ⟨j, rfl⟩ := Int.eq_ofNat_of_zero_le (show 0 ≤ at' by omega)
      clear h0
      by_cases h1 : n ≤ j
      · have i1 : (n : Int) ≤ (j : Int) := by omega
        go_wp2_with fail
        refine (live_any _ (HT.out.below B1.out)).mono ?_
        rintro e w2 ⟨rfl, b2⟩
        go_wp2_with fail
        go_ret
        exact ⟨rfl, q_trans B1.out b2⟩
      · have i1 : ¬ (n : Int) ≤ (j : Int) := by omega
        have hj : j < n := by omega
        obtain ⟨c0, c1, c2, c3, c4⟩ := R1.out
        go_wp2_with fail
        refine (pFind_any to ao m n cap cap' t r l w1 (HT.out.below B1.out) (HN.out.below B1.out) (HL.out.below B1.out)).mono ?_
        rintro e w2 ⟨po, pn, pc, rfl, hp, b2⟩
        have D2 := hid (alloc_below w2 (.cells #[.int .i64 (fndK t r l).1, .int .i64 (fndK t r l).2] 43))
        have B2 := hid (q_trans (q_trans B1.out b2) D2.out)
        have R2 := hid ((R1.out.below b2).below D2.out)
        generalize fndK t r l = ka at D2 B2 R2 ⊢
        clear b2 hp c0 c1 c2 c3 c4 B1 R1
        cases hf : fndB t r l with
        | false =>
          rw [(fnd_no hf).2.2]
          clear hf
          go_wp2_with (go_at_call 14; refine (num_any _ _).mono ?_; rintro e w9 ⟨rfl, rfl⟩)
          refine (live_any _ (HT.out.below B2.out)).mono ?_
          rintro e w3 ⟨rfl, b3⟩
          have B3 := hid (q_trans B2.out b3)
          clear b3
          go_wp2_with fail
          go_ret
          exact ⟨rfl, B3.out⟩
        | true =>
          rw [(fnd_yes hf).2.2]
          have HF := hid hf
          have HE := hid HL.out.len
          have HL2 := hid (HL.out.below B2.out)
          clear hf
          have HOw : Hid (((w2.alloc (.cells #[.int .i64 ka.1, .int .i64 ka.2] 43)).alloc (.cells #[] 56)).ownsRow (w2.heap.size + 1) 56 2 (.slice (some ⟨w2.heap.size + 1, 0, none⟩) 0 0) 0 []) := by
            have := own0 (w2.alloc (.cells #[.int .i64 ka.1, .int .i64 ka.2] 43)) 56 2
            rw [size_alloc] at this
            exact this
          have HSz : Hid (w2.heap.size + 1 ≤ ((w2.alloc (.cells #[.int .i64 ka.1, .int .i64 ka.2] 43)).alloc (.cells #[] 56)).heap.size) := by unfold Hid; rw [size_alloc, size_alloc]; omega
          go_wp2_with (first | (go_at_call 14; refine (num_any _ _).mono ?_; rintro e w9 ⟨rfl, rfl⟩) | (at_builtin; go_loud (refine wpList_append_row _ rfl (.tmp 49) (.tmp 50) 22 56 _ 2 16 rfl Tryd.underlying22 infoS rfl (by decide) (by decide) (w2.heap.size + 1) _ 0 [] rfl HOw.out ao n cap (prs l) rfl (by rw [len_prs, ← HE.out]) (fun h => HL2.out.nil h) (HL2.out.row.below (alloc_below (w2.alloc (.cells #[.int .i64 ka.1, .int .i64 ka.2] 43)) _)) (prs_one l) (by omega) (HSz.out) ?_; intro ao1 cap1 w3 own1 grow1; rw [Nat.zero_add] at own1 ⊢; apply Hid.out)))
          have HO3 := hid own1
          have D3 : Hid (Below (w2.alloc (.cells #[.int .i64 ka.1, .int .i64 ka.2] 43)).heap.size (w2.alloc (.cells #[.int .i64 ka.1, .int .i64 ka.2] 43)) w3) := app_below (by rw [size_alloc]; exact grow1)
          have B3 := hid (q_trans B2.out D3.out)
          have R3 := hid (R2.out.below D3.out)
          obtain ⟨g, rfl, hg1, hg2⟩ := own_head own1 (by omega)
          have HGl : Hid (w.heap.size + 1 ≤ g) := by have h1 := R2.out.lt; simp only at h1; rw [size_alloc] at h1; unfold Hid; omega
          clear own1 grow1 D3 hg1 hg2
          have f0 : ∀ i, w3.frozen? ⟨g, i, none⟩ = false := fun i => own_frozen HO3.out
          have c0 := own_cell HO3.out (prs_at l j 0 (by omega) (by have := HE.out; omega))
          simp only [Nat.add_zero] at c0
          have HO4 := hid (own_setS (j := j * 2) (.int .i64 gd) HO3.out)
          have R4 := hid (R3.out.kept (kept_set (fun i => i = g) w3 ⟨g, j * 2, none⟩ (.int .i64 gd) rfl) (by have := HGl.out; simp only; omega))
          have B4 := hid (q_set B3.out (p := ⟨g, j * 2, none⟩) (by have := HGl.out; simp only; omega) (.int .i64 gd))
          have HM4 : Hid (HasP (w3.setCell ⟨g, j * 2, none⟩ (.int .i64 gd)) (some ⟨g, 0, none⟩) n cap1 (l.set j (gd, (l.getD j (0, 0)).2))) := by
            refine own_hasP (B := w2.heap.size + 1) (E := 56) ?_ (by simpa using HE.out)
            rw [← set_fst l j gd (by have := HE.out; omega)]
            exact HO4.out
          have HGA := hid (guards_all (g := gd) HF.out (by have := HE.out; omega : j < l.length))
          have HLN := hid (less_no HF.out)
          have hr := fnd_r HF.out
          obtain ⟨x0, x1, x2, x3, x4⟩ := R4.out
          unfold Hid
          go_wp2_with fail
          refine (pFind_any to _ m n cap1 cap' t r _ _ (HT.out.below B4.out) (HN.out.below B4.out) HM4.out).mono ?_
          rintro e w5 ⟨jo, jn, jc, rfl, h5, b5⟩
          generalize hl' : l.set j (gd, (l.getD j (0, 0)).2) = l' at HGA h5 ⊢
          have D5 := hid (alloc_below w5 (.cells #[.int .i64 (fndK t r l').1, .int .i64 (fndK t r l').2] 43))
          have B5 := hid (q_trans (q_trans B4.out b5) D5.out)
          have R5 := hid ((R4.out.below b5).below D5.out)
          generalize fndK t r l' = kb at D5 B5 R5 ⊢
          clear b5 h5 x0 x1 x2 x3 x4 R4 B4 R3 B3 HO3 HO4 HM4 f0 c0
          obtain ⟨x0, x1, x2, x3, x4⟩ := R5.out
          obtain ⟨_, y1, _, _, _⟩ := R5.out.below (alloc_below (w5.alloc (.cells #[.int .i64 kb.1, .int .i64 kb.2] 43)) (.cells #[.int .i64 r.t, .int .i64 r.r, .int .i64 r.b, .int .i64 r.o, .int .i64 r.g] 41))
          have HC6 : Hid (Bk ((w5.alloc (.cells #[.int .i64 kb.1, .int .i64 kb.2] 43)).alloc (.cells #[.int .i64 r.t, .int .i64 r.r, .int .i64 r.b, .int .i64 r.o, .int .i64 r.g] 41)) (w5.heap.size + 1) r) := by
            have := bk_new (w5.alloc (.cells #[.int .i64 kb.1, .int .i64 kb.2] 43)) r 41
            rw [size_alloc] at this
            exact this
          have B6 := hid (q_alloc B5.out (.cells #[.int .i64 r.t, .int .i64 (r.r - 1), .int .i64 r.b, .int .i64 r.o, .int .i64 r.g] 41))
          obtain ⟨z0, z1, z2, z3, z4, u0, u1, u2, u3, u4⟩ := HC6.out
          go_wp2_with fail
          refine (pFind_any to ao m n cap cap' t ⟨r.t, r.r - 1, r.b, r.o, r.g⟩ l _ (HT.out.below B6.out) (HN.out.below B6.out) (HL.out.below B6.out)).mono ?_
          rintro e w7 ⟨io, ij, ic, rfl, h7, b7⟩
          rw [(fnd_no HLN.out).2.1, (fnd_no HLN.out).2.2]
          have B7 := hid (q_alloc (q_trans B6.out b7) (.cells #[.int .i64 0, .int .i64 0] 43))
          clear b7 h7 x0 x1 x2 x3 x4 y1 z0 z1 z2 z3 z4 u0 u1 u2 u3 u4 HC6 B6 R5 B5 D5 hr HLN
          obtain ⟨la, rfl, cl⟩ := (HL.out.below B7.out).at j hj
          generalize l.getD j (0, 0) = s at cl HGA hl'
          have HLv : Hid (∀ W : World, Below w.heap.size w W → Calls Tryd.prog 9 #[] W fun e w' => e = .returned (.bool true) ∧ Below W.heap.size W w') := fun W hW => live_any _ (HT.out.below hW)
          have HCL := hid cl
          clear cl hl'
          by_cases hq : gd = s.1
          · have hfe : fndE t r l' = 0 := by unfold fndE; rw [HGA.out, decide_eq_true hq]; rfl
            have hb : (gd == s.1) = true := by simp [hq]
            rw [hfe]
            clear hfe hq HGA
            go_wp2_with fail
            obtain ⟨f0, f1⟩ := HCL.out.always
            have hne : Nonempty (Later (w7.alloc (.cells #[.int .i64 0, .int .i64 0] 43))) := ⟨⟨_, Below.refl _ _⟩⟩
            refine wp_region_later (by kernel_rfl) (by kernel_rfl) ?_
            repeat (go_big_quiet_step (first | (go_at_call 14; exact later_same (num_any _ _)) | (go_at_call 9; exact later_call (HLv.out _ (q_trans B7.out (Later.low _))))))
            refine wpQuiet_nil ?_
            rintro w8 ⟨⟨_, b8⟩, rfl⟩
            have B8 := hid (q_trans B7.out b8)
            clear b8 f0 f1 hne
            go_wp2_with fail
            go_ret
            exact ⟨rfl, B8.out⟩
          · have hfe : fndE t r l' = 120 := by unfold fndE; rw [HGA.out, decide_eq_false hq]; rfl
            have hb : (gd == s.1) = false := by simp [hq]
            rw [hfe]
            clear hfe hq HGA
            go_wp2_with fail
            obtain ⟨f0, f1⟩ := HCL.out.always
            have hne : Nonempty (Later (w7.alloc (.cells #[.int .i64 0, .int .i64 0] 43))) := ⟨⟨_, Below.refl _ _⟩⟩
            refine wp_region_later (by kernel_rfl) (by kernel_rfl) ?_
            repeat (go_big_quiet_step (first | (go_at_call 14; exact later_same (num_any _ _)) | (go_at_call 9; exact later_call (HLv.out _ (q_trans B7.out (Later.low _))))))
            refine wpQuiet_nil ?_
            rintro w8 ⟨⟨_, b8⟩, rfl⟩
            have B8 := hid (q_trans B7.out b8)
            clear b8 f0 f1 hne
            go_wp2_with fail
            go_ret
            exact ⟨rfl, B8.out⟩
end Go.Proofs.YthnfekdoibhnpaaDoor.Ad
