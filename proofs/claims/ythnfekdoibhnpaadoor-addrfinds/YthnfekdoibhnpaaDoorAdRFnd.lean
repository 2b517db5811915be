/- What the document's Find does where l is an address. -/
import Derived.Test.YthnfekdoibhnpaaDoorAdBox
import Derived.Test.YthnfekdoibhnpaaDoorAdW4
import Derived.Deep.RegionHeld3
namespace Go.Proofs.YthnfekdoibhnpaaDoor.Ad
open Go.RowKit
open Cp (K)

/-- What a round's first row reads. -/
abbrev SF (cb : Nat) (o : Int) (a : Addr) (i : Int) (w : World) : Prop := w.cell? ⟨cb, 3, none⟩ = some (.int .i64 o) ∧ w.cell? ⟨a.block, a.off + 1, none⟩ = some (.int .i64 i)
theorem sf_drew {cb : Nat} {o i : Int} {a : Addr} {w : World} (h : SF cb o a i w) : SF cb o a i w.drew := h
theorem sf_alloc {cb : Nat} {o i : Int} {a : Addr} {w : World} (h : SF cb o a i w) (b : Obj) : SF cb o a i (w.alloc b) :=
  ⟨((alloc_below w b).cell (World.block_lt_of_cell? w _ h.1)).trans h.1, ((alloc_below w b).cell (World.block_lt_of_cell? w _ h.2)).trans h.2⟩
set_option maxRecDepth 100000 in
set_option maxHeartbeats 2000000 in
theorem rFind_yes (to ao : Option Addr) (m n cap cap' : Nat) (t : List (List K)) (r : K) (l : List P) (w : World) (h4 : n ≤ 4) (h : okA l = true) (HN : Hid (HasN w to m cap' t)) (HL : Hid (HasP w ao n cap l)) :
    Calls Tryd.prog 20 #[.slice to m cap', (.agg #[.int .i64 r.t, .int .i64 r.r, .int .i64 r.b, .int .i64 r.o, .int .i64 r.g]), .slice ao n cap] w fun e w' => ∃ ko kn kc, e = .returned (.tuple #[(.agg #[.int .i64 (fndK t r l).1, .int .i64 (fndK t r l).2]), .slice ko kn kc, .int .i64 (fndE t r l)]) ∧ HasP w' ko kn kc (fndL t r l) ∧ Below w.heap.size w w' := by
  have HI : Hid (∀ W : World, HasP W ao n cap l → Calls Tryd.prog 16 #[.slice ao n cap] W fun e w' => e = .returned (.bool true) ∧ Below W.heap.size W w') := by
    intro W hW
    have := ris_any ao n cap l W hW
    rwa [h] at this
  have HO := hid h
  have HE := hid HL.out.len
  clear h
  go_enter Tryd.func20, Tryd.ntmps20
  go_wp2_with fail
  have B0 := hid (q_alloc (alloc_below w (.cells #[.int .i64 r.t, .int .i64 r.r, .int .i64 r.b, .int .i64 r.o, .int .i64 r.g] 41)) (.cells #[.int .i64 0, .int .i64 0] 43))
  have A0 : Hid (Bp ((w.alloc (.cells #[.int .i64 r.t, .int .i64 r.r, .int .i64 r.b, .int .i64 r.o, .int .i64 r.g] 41)).alloc (.cells #[.int .i64 0, .int .i64 0] 43)) (w.heap.size + 1) (0, 0)) := bp_two w _ (0, 0) 43
  have R0 : Hid (AtK ((w.alloc (.cells #[.int .i64 r.t, .int .i64 r.r, .int .i64 r.b, .int .i64 r.o, .int .i64 r.g] 41)).alloc (.cells #[.int .i64 0, .int .i64 0] 43)) ⟨w.heap.size, 0, none⟩ r) := (atK_new w r 41).below (alloc_below _ _)
  refine (HI.out _ (HL.out.below B0.out)).mono ?_
  rintro e w1 ⟨rfl, b1⟩
  have A1 := hid (A0.out.below b1)
  obtain ⟨c0, c1, c2, c3, c4⟩ := R0.out.below b1
  have B1 := hid (q_trans B0.out b1)
  have Z1 : Hid (w.heap.size + 2 ≤ w1.heap.size) := by have := b1.size; simp at this; exact this
  clear b1 A0 B0 R0
  go_wp2_with fail
  obtain ⟨cb, hcb⟩ : ∃ cb, w1.heap.size = cb := ⟨_, rfl⟩
  have HK0 := hid (bk_new w1 r 41)
  have HB0 := hid (q_alloc B1.out (.cells #[.int .i64 r.t, .int .i64 r.r, .int .i64 r.b, .int .i64 r.o, .int .i64 r.g] 41))
  have HP0 := hid (A1.out.below (alloc_below w1 (.cells #[.int .i64 r.t, .int .i64 r.r, .int .i64 r.b, .int .i64 r.o, .int .i64 r.g] 41)))
  rw [hcb] at Z1 HK0 ⊢
  generalize w1.alloc (.cells #[.int .i64 r.t, .int .i64 r.r, .int .i64 r.b, .int .i64 r.o, .int .i64 r.g] 41) = W0 at HK0 HB0 HP0 ⊢
  clear hcb A1 B1 c0 c1 c2 c3 c4
  go_loopw [9, 11] (fun s i wr => ∃ (k : Nat) (wo : Option Addr) (wc : Nat), k ≤ n ∧ s = .slice wo k wc ∧ i = .int .i64 k ∧ Hid (Bk wr cb (wayC t r (l.take k))) ∧ Hid (Bp wr (w.heap.size + 1) (0, 0)) ∧ Hid (MineP 43 wr (cb + 1) wo k wc (wayL t r (l.take k))) ∧ Hid (wayB t r (l.take k) = true) ∧ Hid (Below w.heap.size w wr)) (fun _ i _ => n - (intOf i).toNat)
  case atStart => exact ⟨0, none, 0, Nat.zero_le _, rfl, rfl, HK0, HP0, mineP_nil _ _ _, rfl, HB0⟩
  case round =>
    obtain ⟨k, wo, wc, hk, rfl, rfl, HK, HP, HM, HW, HB⟩ := hrel
    clear HK0 HB0 HP0
    by_cases hlt : k < n
    · have i1 : (0 : Int) ≤ (k : Int) := by omega
      have i2 : (k : Int) < (n : Int) := by omega
      have HKL : Hid (k < l.length) := by have := HE.out; unfold Hid; omega
      obtain ⟨a, rfl, ca⟩ := (HL.out.below HB.out).at k hlt
      have HWT := hid (way_take (t := t) (r := r) HKL.out)
      generalize l.getD k (0, 0) = s at ca HWT
      generalize wayC t r (l.take k) = c at HK HWT
      generalize wayL t r (l.take k) = way at HM HWT
      go_wp2_with fail
      have hS : SF cb c.o (a.add (k * 2)) s.2 wr := ⟨HK.out.c3, ca.c1⟩
      go_region_held3 (SF cb c.o (a.add (k * 2)) s.2) (first | with_reducible assumption | with_reducible exact sf_drew hS | with_reducible exact sf_alloc hS _ | with_reducible exact sf_drew (sf_alloc hS _) | with_reducible exact sf_alloc (sf_drew hS) _) (fail)
      have D2 := hid ((alloc_below wr (.cells #[.int .i64 c.o, .int .i64 s.2] 43)).drew)
      have HK2 := hid (HK.out.below D2.out)
      have HP2 := hid (HP.out.below D2.out)
      have HM2 := hid (HM.out.below D2.out)
      have ca2 := hid (ca.below D2.out)
      have AP2 : Hid (AtP (wr.alloc (.cells #[.int .i64 c.o, .int .i64 s.2] 43)).drew ⟨wr.heap.size, 0, none⟩ (c.o, s.2)) := (at_new wr (c.o, s.2) 43).below (Below.refl _ _).drew
      have HB2 := hid (q_trans HB.out D2.out)
      have HKB : Hid (cb + 1 ≤ wr.heap.size) := HK.out.lt
      have HMl : Hid (∀ i, Value.ownBlock (.slice wo k wc) = some i → i ≠ wr.heap.size) := fun i e => by have := (World.ownsRow.lt HM.out.2 i e).2; omega
      generalize wr.heap.size = kb at AP2 HKB HMl ⊢
      generalize (wr.alloc (.cells #[.int .i64 c.o, .int .i64 s.2] 43)).drew = w2 at HK2 HP2 HM2 ca2 AP2 HB2 ⊢
      clear D2 HK HP HM HB ca hS
      have HGt : Hid (∀ W : World, Below w.heap.size w W → Calls Tryd.prog 22 #[.slice to m cap', .agg #[.int .i64 c.o, .int .i64 s.2]] W fun e w' => e = .returned (.tuple #[(.agg #[.int .i64 (getC t (c.o, s.2)).t, .int .i64 (getC t (c.o, s.2)).r, .int .i64 (getC t (c.o, s.2)).b, .int .i64 (getC t (c.o, s.2)).o, .int .i64 (getC t (c.o, s.2)).g]), .bool (slB t (c.o, s.2))]) ∧ Below W.heap.size W w') := fun W hW => rGet_any to m cap' t (c.o, s.2) W (HN.out.below hW)
      obtain ⟨q0, q1⟩ := AP2.out
      go_wp2_with fail
      refine (HGt.out _ HB2.out).mono ?_
      rintro e w3 ⟨rfl, b3⟩
      have HK3 := hid (HK2.out.below b3)
      have HP3 := hid (HP2.out.below b3)
      have HM3 := hid (HM2.out.below b3)
      have ca3 := hid (ca2.out.below b3)
      have AP3 := hid (AP2.out.below b3)
      have HB3 := hid (q_trans HB2.out b3)
      clear b3 HGt HK2 HP2 HM2 ca2 AP2 HB2 q0 q1
      have HCd : Hid (slB t (c.o, s.2) = true → getC t (c.o, s.2) = slC t (c.o, s.2)) := fun h => getC_yes h
      generalize getC t (c.o, s.2) = d at HCd ⊢
      go_wp2_with fail
      have D4 := hid (alloc_below w3 (.cells #[.int .i64 d.t, .int .i64 d.r, .int .i64 d.b, .int .i64 d.o, .int .i64 d.g] 41))
      have HK4 := hid (HK3.out.below D4.out)
      have HP4 := hid (HP3.out.below D4.out)
      have HM4 := hid (HM3.out.below D4.out)
      have ca4 := hid (ca3.out.below D4.out)
      have AP4 := hid (AP3.out.below D4.out)
      have AD4 := hid (atK_new w3 d 41)
      have HB4 := hid (q_trans HB3.out D4.out)
      have HDl : Hid (∀ i, Value.ownBlock (.slice wo k wc) = some i → i ≠ w3.heap.size) := fun i e => by have := (World.ownsRow.lt HM3.out.2 i e).2; omega
      have HDc : Hid (w3.heap.size ≠ cb) := by have := HK3.out.lt; unfold Hid; omega
      generalize w3.heap.size = db at AD4 HDl HDc ⊢
      generalize w3.alloc (.cells #[.int .i64 d.t, .int .i64 d.r, .int .i64 d.b, .int .i64 d.o, .int .i64 d.g] 41) = w4 at HK4 HP4 HM4 ca4 AP4 AD4 HB4 ⊢
      clear D4 HK3 HP3 HM3 ca3 AP3 HB3
      have HMay : Hid (∀ W : World, Calls Tryd.prog 34 #[(.agg #[.int .i64 c.t, .int .i64 c.r, .int .i64 c.b, .int .i64 c.o, .int .i64 c.g]), .int .i64 1] W fun e w' => e = .returned (.bool (mayB c 1)) ∧ Below W.heap.size W w') := fun W => kmay_any c 1 W
      cases h1 : (c.t == 2) with
      | false =>
        have HGo : Hid (goB t c s = false) := by unfold Hid goB; rw [h1]; rfl
        have n1 : (c.t != 2) = true := by simp [bne, h1]
        clear h1
        have HF : Hid (fndB t r l = false) := by
          unfold Hid fndB
          rw [way_stop (k := k + 1) (by rw [HWT.out.1, HGo.out, Bool.and_false]), Bool.and_false]
        have HR := hid (fnd_no HF.out)
        obtain ⟨f0, f1, f2, f3, f4⟩ := HK4.out.atK.always
        obtain ⟨g0, g1⟩ := ca4.out.always
        have hne : Nonempty (Later w4) := ⟨⟨_, Below.refl _ _⟩⟩
        refine wp_region_later (by kernel_rfl) (by kernel_rfl) ?_
        repeat (go_big_quiet_step (first | (go_at_call 34; exact later_call (HMay.out _))))
        refine wpQuiet_nil ?_
        rintro w9 ⟨⟨_, b9⟩, rfl⟩
        have HP9 := hid (HP4.out.below b9)
        have HB9 := hid (q_trans HB4.out b9)
        clear b9 f0 f1 f2 f3 f4 g0 g1 hne HK4 HP4 HM4 HB4 ca4 AP4 AD4
        obtain ⟨p0, p1, p2, p3⟩ := HP9.out
        go_wp2_with fail
        refine bodyPost_ret (v := .tuple #[.agg #[.int .i64 0, .int .i64 0], .slice none 0 0, .int .i64 120]) (by simp [results, Tryd.results20, go_sem, *]) rfl ⟨none, 0, 0, by rw [HR.out.2.1, HR.out.2.2], by rw [HR.out.1]; exact hasP_nil _, ?_⟩
        exact q_set (q_set HB9.out (Nat.le_succ _) _) (Nat.le_succ _) _
      | true =>
        have n1 : (c.t != 2) = false := by simp [bne, h1]
        cases h2 : mayB c 1 with
        | false =>
          have HGo : Hid (goB t c s = false) := by unfold Hid goB; rw [h1, h2]; rfl
          rw [h2] at HMay
          clear h1 h2
          have HF : Hid (fndB t r l = false) := by
            unfold Hid fndB
            rw [way_stop (k := k + 1) (by rw [HWT.out.1, HGo.out, Bool.and_false]), Bool.and_false]
          have HR := hid (fnd_no HF.out)
          obtain ⟨f0, f1, f2, f3, f4⟩ := HK4.out.atK.always
          obtain ⟨g0, g1⟩ := ca4.out.always
          have hne : Nonempty (Later w4) := ⟨⟨_, Below.refl _ _⟩⟩
          refine wp_region_later (by kernel_rfl) (by kernel_rfl) ?_
          repeat (go_big_quiet_step (first | (go_at_call 34; exact later_call (HMay.out _))))
          refine wpQuiet_nil ?_
          rintro w9 ⟨⟨_, b9⟩, rfl⟩
          have HP9 := hid (HP4.out.below b9)
          have HB9 := hid (q_trans HB4.out b9)
          clear b9 f0 f1 f2 f3 f4 g0 g1 hne HK4 HP4 HM4 HB4 ca4 AP4 AD4
          obtain ⟨p0, p1, p2, p3⟩ := HP9.out
          go_wp2_with fail
          refine bodyPost_ret (v := .tuple #[.agg #[.int .i64 0, .int .i64 0], .slice none 0 0, .int .i64 120]) (by simp [results, Tryd.results20, go_sem, *]) rfl ⟨none, 0, 0, by rw [HR.out.2.1, HR.out.2.2], by rw [HR.out.1]; exact hasP_nil _, ?_⟩
          exact q_set (q_set HB9.out (Nat.le_succ _) _) (Nat.le_succ _) _
        | true =>
          rw [h2] at HMay
          cases h3 : (c.b == s.1) with
          | false =>
            have HGo : Hid (goB t c s = false) := by unfold Hid goB; rw [h1, h2, h3]; rfl
            have n3 : (c.b != s.1) = true := by simp [bne, h3]
            clear h1 h2 h3
            have HF : Hid (fndB t r l = false) := by
              unfold Hid fndB
              rw [way_stop (k := k + 1) (by rw [HWT.out.1, HGo.out, Bool.and_false]), Bool.and_false]
            have HR := hid (fnd_no HF.out)
            obtain ⟨f0, f1, f2, f3, f4⟩ := HK4.out.atK.always
            obtain ⟨g0, g1⟩ := ca4.out.always
            have hne : Nonempty (Later w4) := ⟨⟨_, Below.refl _ _⟩⟩
            refine wp_region_later (by kernel_rfl) (by kernel_rfl) ?_
            repeat (go_big_quiet_step (first | (go_at_call 34; exact later_call (HMay.out _))))
            refine wpQuiet_nil ?_
            rintro w9 ⟨⟨_, b9⟩, rfl⟩
            have HP9 := hid (HP4.out.below b9)
            have HB9 := hid (q_trans HB4.out b9)
            clear b9 f0 f1 f2 f3 f4 g0 g1 hne HK4 HP4 HM4 HB4 ca4 AP4 AD4
            obtain ⟨p0, p1, p2, p3⟩ := HP9.out
            go_wp2_with fail
            refine bodyPost_ret (v := .tuple #[.agg #[.int .i64 0, .int .i64 0], .slice none 0 0, .int .i64 120]) (by simp [results, Tryd.results20, go_sem, *]) rfl ⟨none, 0, 0, by rw [HR.out.2.1, HR.out.2.2], by rw [HR.out.1]; exact hasP_nil _, ?_⟩
            exact q_set (q_set HB9.out (Nat.le_succ _) _) (Nat.le_succ _) _
          | true =>
            have n3 : (c.b != s.1) = false := by simp [bne, h3]
            cases h5 : slB t (c.o, s.2) with
            | false =>
              have HGo : Hid (goB t c s = false) := by unfold Hid goB; rw [h1, h2, h3, h5]; rfl
              clear h1 h2 h3 h5
              have HF : Hid (fndB t r l = false) := by
                unfold Hid fndB
                rw [way_stop (k := k + 1) (by rw [HWT.out.1, HGo.out, Bool.and_false]), Bool.and_false]
              have HR := hid (fnd_no HF.out)
              obtain ⟨f0, f1, f2, f3, f4⟩ := HK4.out.atK.always
              obtain ⟨g0, g1⟩ := ca4.out.always
              have hne : Nonempty (Later w4) := ⟨⟨_, Below.refl _ _⟩⟩
              refine wp_region_later (by kernel_rfl) (by kernel_rfl) ?_
              repeat (go_big_quiet_step (first | (go_at_call 34; exact later_call (HMay.out _))))
              refine wpQuiet_nil ?_
              rintro w9 ⟨⟨_, b9⟩, rfl⟩
              have HP9 := hid (HP4.out.below b9)
              have HB9 := hid (q_trans HB4.out b9)
              clear b9 f0 f1 f2 f3 f4 g0 g1 hne HK4 HP4 HM4 HB4 ca4 AP4 AD4
              obtain ⟨p0, p1, p2, p3⟩ := HP9.out
              go_wp2_with fail
              refine bodyPost_ret (v := .tuple #[.agg #[.int .i64 0, .int .i64 0], .slice none 0 0, .int .i64 120]) (by simp [results, Tryd.results20, go_sem, *]) rfl ⟨none, 0, 0, by rw [HR.out.2.1, HR.out.2.2], by rw [HR.out.1]; exact hasP_nil _, ?_⟩
              exact q_set (q_set HB9.out (Nat.le_succ _) _) (Nat.le_succ _) _
            | true =>
              have HG : Hid (goB t c s = true) := by unfold Hid goB; rw [h1, h2, h3, h5]; rfl
              have HCe := hid (HCd.out h5)
              clear h1 h2 h3 h5
              obtain ⟨f0, f1, f2, f3, f4⟩ := HK4.out.atK.always
              obtain ⟨g0, g1⟩ := ca4.out.always
              have hne : Nonempty (Later w4) := ⟨⟨_, Below.refl _ _⟩⟩
              refine wp_region_later (by kernel_rfl) (by kernel_rfl) ?_
              repeat (go_big_quiet_step (first | (go_at_call 34; exact later_call (HMay.out _))))
              refine wpQuiet_nil ?_
              rintro w9 ⟨⟨_, b9⟩, rfl⟩
              have HP9 := hid (HP4.out.below b9)
              have HB9 := hid (q_trans HB4.out b9)
              have HK9 := hid (HK4.out.below b9)
              have HM9 := hid (HM4.out.below b9)
              have AP9 := hid (AP4.out.below b9)
              have AD9 := hid (AD4.out.below b9)
              clear b9 f0 f1 f2 f3 f4 g0 g1 hne HK4 HP4 HM4 HB4 ca4 AP4 AD4
              obtain ⟨q0, q1⟩ := AP9.out
              have HO9 := hid (own_below HM9.out.2 (alloc_below w9 (.cells #[.int .i64 c.o, .int .i64 s.2] 43)))
              have HRw := hid (one_pair w9 (c.o, s.2) 43)
              have HZ : Hid (cb + 1 ≤ (w9.alloc (.cells #[.int .i64 c.o, .int .i64 s.2] 43)).heap.size) := by
                have := HK9.out.lt
                simp [Hid]
                omega
              go_wp2_with (at_builtin; go_loud (refine wpList_append_row _ rfl (.tmp 63) (.tmp 65) 45 43 _ 2 16 rfl Tryd.underlying45 infoK rfl (by decide) (by decide) (cb + 1) _ k (prs way) rfl HO9.out _ 1 1 (prs [(c.o, s.2)]) rfl rfl (fun h => by cases h) HRw.out (prs_one _) (by omega) HZ.out ?_; intro ao3 cap3 w5 own3 grow3; apply Hid.out))
              have HM9b : Hid (MineP 43 (w9.alloc (.cells #[.int .i64 c.o, .int .i64 s.2] 43)) (cb + 1) wo k wc way) := ⟨HM9.out.1, HO9.out⟩
              have HX := HM9b.out.append HZ.out rfl own3 grow3
              have HM5 := hid HX.1
              have HB5 : Hid (Below w.heap.size w w5) := (q_alloc HB9.out _).trans (HX.2.mono (by have := Z1.out; omega))
              have HG5 : Hid (Kept (fun i => cb + 1 ≤ i ∧ i ≠ db) w9 w5) := (kept_below (alloc_below w9 _)).trans (kept_grown grow3) (fun i _ e => ⟨(World.ownsRow.lt HM9.out.2 i e.symm).1, HDl.out i e.symm⟩)
              have HK5 := hid (HK9.out.kept HG5.out (by omega))
              have HP5 := hid (HP9.out.kept HG5.out (by have := Z1.out; omega))
              have AD5 : Hid (AtK w5 ⟨db, 0, none⟩ d) := ⟨HG5.out.cell AD9.out.c0 (by simp), HG5.out.cell AD9.out.c1 (by simp), HG5.out.cell AD9.out.c2 (by simp), HG5.out.cell AD9.out.c3 (by simp), HG5.out.cell AD9.out.c4 (by simp)⟩
              clear HX own3 grow3 HO9 HRw HZ HM9 HM9b HK9 HP9 AP9 AD9 HB9 HG5 q0 q1
              obtain ⟨d0, d1, d2, d3, d4⟩ := AD5.out
              obtain ⟨k0, k1, k2, k3, k4, y0, y1, y2, y3, y4⟩ := HK5.out
              have HW2 : Hid (wayB t r (l.take (k + 1)) = true) := by unfold Hid; rw [HWT.out.1, HW.out, HG.out]; rfl
              have HL2 := hid HWT.out.2.1
              have HC2 : Hid (wayC t r (l.take (k + 1)) = d) := by unfold Hid; rw [HWT.out.2.2, HCe.out]
              unfold Hid
              go_wp2_with fail
              go_roundw
              case rel =>
                refine ⟨k + 1, ao3, cap3, by omega, rfl, by go_num, ?_, ?_, ?_, HW2, low5 HB5.out (by have := Z1.out; omega)⟩
                · rw [HC2.out]; exact HK5.out.set5 d
                · exact HP5.out.kept (kept5 w5 cb _ _ _ _ _) (by have := Z1.out; omega)
                · rw [HL2.out]; exact HM5.out.kept (kept5 w5 cb _ _ _ _ _) (fun i hi e => by omega)
              case measure => simp [intOf]; omega
    · obtain rfl : k = n := by omega
      have HLl : Hid (l.take k = l) := by unfold Hid; rw [HE.out, List.take_length]
      rw [HLl.out] at HM HW
      have HF : Hid (fndB t r l = true) := fndB_iff.2 ⟨HO.out, HW.out⟩
      have HR := hid (fnd_yes HF.out)
      have h1 : 1 ≤ k := by have := okA_pos HO.out; have := HE.out; omega
      obtain ⟨j, rfl⟩ : ∃ j, k = j + 1 := ⟨k - 1, by omega⟩
      obtain ⟨a, rfl, ca⟩ := HM.out.has.at j (by omega)
      obtain ⟨q, hq⟩ : ∃ q, (wayL t r l).getD j (0, 0) = q := ⟨_, rfl⟩
      rw [hq] at ca
      have HQ : Hid (fndK t r l = q) := by
        have e : (wayL t r l).length = j + 1 := HM.out.1.symm
        unfold Hid
        rw [HR.out.2.1, ← hq, List.getLastD_eq_getLast?, List.getLast?_eq_getElem?, e]
        simp [List.getD]
      clear hq
      obtain ⟨p0, p1, p2, p3⟩ := HP.out
      obtain ⟨c0, c1⟩ := ca
      go_wp2_with fail
      refine bodyPost_ret (v := .tuple #[.agg #[.int .i64 q.1, .int .i64 q.2], .slice (some a) (j + 1) wc, .int .i64 0]) (by simp [results, Tryd.results20, go_sem, *]) rfl ⟨some a, j + 1, wc, ?_, ?_, ?_⟩
      · rw [HQ.out, HR.out.2.2]
      · rw [HR.out.1]
        exact (HM.out.kept ((kept_set (fun i => i = w.heap.size + 1) wr ⟨w.heap.size + 1, 0, none⟩ _ rfl).setCell ⟨w.heap.size + 1, 1, none⟩ _ (fun _ => rfl)) (fun i hi e => by have := Z1.out; omega)).has
      · exact q_set (q_set HB.out (Nat.le_succ _) _) (Nat.le_succ _) _
/-- THE DOCUMENT's FIND, OF WHATEVER NODES AND STEPS. -/
theorem rFind_any (to ao : Option Addr) (m n cap cap' : Nat) (t : List (List K)) (r : K) (l : List P) (w : World) (hN : HasN w to m cap' t) (hL : HasP w ao n cap l) :
    Calls Tryd.prog 20 #[.slice to m cap', (.agg #[.int .i64 r.t, .int .i64 r.r, .int .i64 r.b, .int .i64 r.o, .int .i64 r.g]), .slice ao n cap] w fun e w' => ∃ ko kn kc, e = .returned (.tuple #[(.agg #[.int .i64 (fndK t r l).1, .int .i64 (fndK t r l).2]), .slice ko kn kc, .int .i64 (fndE t r l)]) ∧ HasP w' ko kn kc (fndL t r l) ∧ Below w.heap.size w w' := by
  cases q : okA l with
  | false => exact rFind_no to ao m n cap cap' t r l w q hL
  | true => exact rFind_yes to ao m n cap cap' t r l w (by have := okA_le q; have := hL.len; omega) q hN hL
end Go.Proofs.YthnfekdoibhnpaaDoor.Ad
