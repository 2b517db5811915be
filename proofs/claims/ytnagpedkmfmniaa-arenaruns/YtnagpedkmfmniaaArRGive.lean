/- What the document's Give does. -/
import Derived.Test.YtnagpedkmfmniaaArRTake
import Derived.Test.YtnagpedkmfmniaaArGive
namespace Go.Proofs.Ytnagpedkmfmniaa.Ar
open Go.RowKit Go.Proofs.Ytnagpedkmfmniaa.Ha

theorem own1 (x : Int) (w : World) : ((w.alloc (.cells #[.int .i64 x] 3)).alloc (.cells #[] 3)).ownsRow w.heap.size 3 1 (.slice (some ⟨w.heap.size + 1, 0, none⟩) 0 0) 0 (vals []) := by
  have := World.ownsRow_made (base := w.heap.size) (e := 3) (size := 1) (w.alloc (.cells #[.int .i64 x] 3)) #[] 0 (by simp) (by decide) (by simp)
  simpa using this
theorem val_at1 (x : Int) (w : World) : Row ((w.alloc (.cells #[] 3)).alloc (.cells #[.int .i64 x] 3)) (some ⟨w.heap.size + 1, 0, none⟩) (vals [x]) := by
  have := one_val (w.alloc (.cells #[] 3)) x 3
  simpa using this

theorem s3_alloc {w : World} {a1 a2 a3 : Addr} {u v z : Value} {o : Obj} (h : S3 a1 a2 a3 u v z w) : S3 a1 a2 a3 u v z (w.alloc o) := s3_keep (alloc_below _ _) h
set_option maxRecDepth 100000 in
set_option maxHeartbeats 8000000 in
/-- THE DOCUMENT's Give. -/
theorem rgive_any (Av : Nat → Prop) (x : Wh) (a : Ar) (c p : Int) (w : World) (HS : Hid (Sm a)) (HV : Hid (HasV w Av x a)) (HAV : Hid (∀ k, Av k → k < w.heap.size)) :
    Calls Try.prog 45 #[(.agg #[.slice x.t.o x.t.n x.t.c, .slice x.f.o x.f.n x.f.c]), .int .i64 c, .int .i64 p] w fun e w' => ∃ y : Wh, e = .returned (.tuple #[(.agg #[.slice y.t.o y.t.n y.t.c, .slice y.f.o y.f.n y.f.c]), .int .i64 (giveE a c p)]) ∧ Rs w w' Av x y a (giveA a c p) := by
  have HH := hid HV.out.has
  obtain ⟨⟨xo, tn, tc⟩, ⟨fo, fn, fc⟩⟩ := x
  have HTN : Hid (tn = a.ts.length) := HH.out.tn
  have HFN : Hid (fn = a.fr.length) := HH.out.fn
  have HD := hid (dw_new w ⟨⟨xo, tn, tc⟩, ⟨fo, fn, fc⟩⟩)
  dsimp only at HD
  go_enter Try.func45, Try.ntmps45
  go_wp2_with fail
  generalize (w.alloc (.cells #[.slice xo tn tc, .slice fo fn fc] 25)).alloc (.cells #[.slice none 0 0, .slice none 0 0] 25) = V at HD ⊢
  refine (rplace_any ⟨⟨xo, tn, tc⟩, ⟨fo, fn, fc⟩⟩ a p V HS (HH.out.below HD.out.low)).mono ?_
  rintro e w2 ⟨rfl, b2⟩
  replace HD := hid (HD.out.below b2)
  clear b2
  cases hb : plcB a p with
  | true =>
    obtain ⟨hok, hp0, hp1⟩ := plc_iff.1 hb
    clear hb
    obtain ⟨q, rfl⟩ : ∃ q : Nat, p = (q : Int) := ⟨p.toNat, by omega⟩
    have HO := hid hok
    have HQ : Hid (q < a.ts.length) := (by omega : q < a.ts.length)
    have q2 : (q : Int) < (tn : Int) := by have := HTN.out; omega
    clear hok hp1
    by_cases hc0 : 0 ≤ c
    · by_cases hc1 : c < (fn : Int)
      · obtain ⟨k, rfl⟩ : ∃ k : Nat, c = (k : Int) := ⟨c.toNat, by omega⟩
        have HK : Hid (k < a.fr.length) := by have := HFN.out; exact (by omega : k < a.fr.length)
        obtain ⟨ta, e, hAt⟩ := HH.out.t.at_ q (by show q < tn; omega)
        have e : xo = some ta := e
        subst e
        obtain ⟨tq, htq⟩ : ∃ tq, a.ts.getD q Th.zero = tq := ⟨_, rfl⟩
        rw [htq] at hAt
        have HTQ : Hid (at_ a.ts (q : Int) = tq) := htq
        have HAt := hid hAt
        clear htq hAt
        obtain ⟨c0, c1, cf⟩ := HD.out.box
        obtain ⟨t0, t1, t2, t3, t4, t5, t6, t7⟩ := HAt.out.below HD.out.low
        go_wp2_with fail
        refine (rlive_any tq _).mono ?_
        rintro e w3 ⟨rfl, b3⟩
        replace HD := hid (HD.out.below b3)
        clear b3 c0 c1 cf t0 t1 t2 t3 t4 t5 t6 t7
        cases hb : liveT tq with
        | true =>
          have HE := hid (giveE_no (a := a) (c := (k : Int)) (p := (q : Int)) (fun h => by have := h.2.2.2.2.2.1; rw [HTQ.out, hb] at this; cases this))
          clear hb
          obtain ⟨c0, c1, cf⟩ := HD.out.box
          obtain ⟨r0, r1, rf⟩ := HD.out.zr.inA
          go_wp2_with fail
          refine bodyPost_ret (v := .tuple #[.agg #[.slice (some ta) tn tc, .slice fo fn fc], .int .i64 2]) (by simp [results, Try.results45, go_sem, r0, r1]) rfl ⟨⟨⟨(some ta), tn, tc⟩, ⟨fo, fn, fc⟩⟩, ?_, ?_⟩
          · rw [HE.out]
          · rw [give_no (by rw [HE.out]; decide)]; exact rs_keep HD.out HV.out
        | false =>
          have HLV := hid hb
          clear hb
          obtain ⟨c0, c1, cf⟩ := HD.out.box
          go_wp2_with fail
          refine (rin_any ⟨⟨some ta, tn, tc⟩, ⟨fo, fn, fc⟩⟩ a (q : Int) _ HS (HH.out.below HD.out.low)).mono ?_
          rintro e w4 ⟨rfl, b4⟩
          replace HD := hid (HD.out.below b4)
          clear b4 c0 c1 cf
          obtain ⟨N, hN⟩ : ∃ N, cnt a.fr (q : Int) = N := ⟨_, rfl⟩
          rw [hN]
          by_cases hN0 : N = 0
          · have HE := hid (giveE_zero.2 ⟨HO.out, hp0, by have := HQ.out; omega, hc0, by have := HK.out; omega, by rw [HTQ.out]; exact HLV.out, hN.trans hN0⟩)
            subst hN0
            clear hN
            obtain ⟨c0, c1, cf⟩ := HD.out.box
            obtain ⟨t0, t1, t2, t3, t4, t5, t6, t7⟩ := HAt.out.below HD.out.low
            by_cases hg : tq.gen = -1
            · have e1 := beq_of hg
              have HG := hid hg
              clear hg
              obtain ⟨r0, r1, rf⟩ := HD.out.zr.inA
              go_wp2_with fail
              refine bodyPost_ret (v := .tuple #[.agg #[.slice (some ta) tn tc, .slice fo fn fc], .int .i64 0]) (by simp [results, Try.results45, go_sem, r0, r1]) rfl ⟨⟨⟨some ta, tn, tc⟩, ⟨fo, fn, fc⟩⟩, ?_, ?_⟩
              · rw [HE.out]
              · rw [show giveA a (k : Int) (q : Int) = a from if_neg (fun h => h.2 (by rw [HTQ.out]; exact HG.out))]; exact rs_keep HD.out HV.out
            · have e1 := bne_of hg
              have HG := hid hg
              clear hg
              obtain ⟨fa, lo, m, lc, e, ca0, hL⟩ := HH.out.list k HK.out
              have e : fo = some fa := e
              subst e
              have HM := hid hL.len
              have HLL := hid (hL.below HD.out.low)
              have HFA := hid (World.block_lt_of_cell? w _ ca0)
              have ca := (kept_below (S := fun _ => False) HD.out.low).cell ca0 (fun e => e)
              have hm64 : m ≤ 1000 := by have := HM.out; have := HS.out.e k; omega
              clear hL ca0
              go_upto_region 5 with fail
              have HSZ : Hid (w.heap.size + 1 < w4.heap.size) := HD.out.zr.inA.lt
              have HAV2 : Hid (∀ j, (Av j ∨ j = w.heap.size + 1) → j < w4.heap.size) := fun j e => by
                have h1 := HSZ.out
                rcases e with e | e
                · have := HAV.out j e; omega
                · omega
              have CL := hid (fun W' (v : Hd) (b : Below w4.heap.size w4 W') (hv : Mine W' w4.heap.size v.o v.n v.c (a.fr.getD k [] ++ [(q : Int)])) => rlist_any (fun j => Av j ∨ j = w.heap.size + 1) ⟨⟨some ta, tn, tc⟩, ⟨some fa, fn, fc⟩⟩ a k v (a.fr.getD k [] ++ [(q : Int)]) W' HS HK ((HV.out.more (P := fun j => j = w.heap.size + 1) HD.out.low (fun j e => by omega)).below b) (fun j e => Nat.lt_of_lt_of_le (HAV2.out j e) b.size) hv.has (fun _ a' e s => by have h1 := hv.new a' e; have h2 := HAV2.out _ s; omega))
              have hS : S3 ⟨w.heap.size, 0, none⟩ ⟨w.heap.size, 1, none⟩ (fa.add k) (.slice (some ta) tn tc) (.slice (some fa) fn fc) (.slice lo m lc) w4 := ⟨c0, c1, ca⟩
              have HNE : Hid (w.heap.size ≠ w.heap.size + 1 ∧ w.heap.size ≠ w.heap.size + 1 ∧ (fa.add k).block ≠ w.heap.size + 1) := ⟨by omega, by omega, by have := HFA.out; omega⟩
              clear c0 c1 cf t0 t1 t2 t3 t4 t5 t6 t7 e1 ca
              go_region_held3 (S3 ⟨w.heap.size, 0, none⟩ ⟨w.heap.size, 1, none⟩ (fa.add k) (.slice (some ta) tn tc) (.slice (some fa) fn fc) (.slice lo m lc)) (first | with_reducible assumption | with_reducible exact s3_two HS3.out HNE.out | with_reducible exact HS3.out | with_reducible exact HS2.out | with_reducible exact s3_alloc HS1.out | with_reducible exact HS1.out | with_reducible exact s3_drew hS | with_reducible exact s3_drew (s3_alloc hS) | with_reducible exact s3_drew (s3_alloc (s3_alloc hS)))
                (first
                  | (refine step_append_ints _ (by rfl) (.tmp 48) (.tmp 53) (by rfl) w4.heap.size (.slice (some ⟨w4.heap.size, 0, none⟩) 0 0) 0 [] (by rfl) ((own0 w4 3 1).drew) lo m lc (a.fr.getD k []) (by rfl) HLL.out.len HLL.out.nil (HLL.out.row.below ((alloc_below w4 _).drew)) m (by omega) (a.fr.getD k []) (by rfl) (by omega) (by simp) ?_; intro ao1 cap1 w1 own1' grow1; have b1 := grow_below ((alloc_below w4 _).drew) grow1 (Nat.le_refl _); have HS1 : Hid (S3 ⟨w.heap.size, 0, none⟩ ⟨w.heap.size, 1, none⟩ (fa.add k) (.slice (some ta) tn tc) (.slice (some fa) fn fc) (.slice lo m lc) w1) := (s3_keep b1 hS))
                  | (refine step_append_ints _ (by rfl) (.tmp 48) (.tmp 53) (by rfl) w4.heap.size (.slice (some ⟨w4.heap.size, 0, none⟩) 0 0) 0 [] (by rfl) (((own0 w4 3 1).alloc (.cells #[.int .i64 (q : Int)] 3)).drew) lo m lc (a.fr.getD k []) (by rfl) HLL.out.len HLL.out.nil (HLL.out.row.below ((q_alloc (alloc_below w4 _) _).drew)) m (by omega) (a.fr.getD k []) (by rfl) (by omega) (by simp; omega) ?_; intro ao1 cap1 w1 own1' grow1; have b1 := grow_below ((q_alloc (alloc_below w4 _) _).drew) grow1 (Nat.le_refl _); have HX3 := hid (row_grown ((val_at1 (q : Int) w4).below (Below.refl _ _).drew) grow1 (by omega)); have HS1 : Hid (S3 ⟨w.heap.size, 0, none⟩ ⟨w.heap.size, 1, none⟩ (fa.add k) (.slice (some ta) tn tc) (.slice (some fa) fn fc) (.slice lo m lc) w1) := (s3_keep b1 hS))
                  | (refine step_append_ints _ (by rfl) (.tmp 48) (.tmp 53) (by rfl) w4.heap.size (.slice (some ⟨w4.heap.size + 1, 0, none⟩) 0 0) 0 [] (by rfl) ((own1 (q : Int) w4).drew) lo m lc (a.fr.getD k []) (by rfl) HLL.out.len HLL.out.nil (HLL.out.row.below ((q_alloc (alloc_below w4 _) _).drew)) m (by omega) (a.fr.getD k []) (by rfl) (by omega) (by simp; omega) ?_; intro ao1 cap1 w1 own1' grow1; have b1 := grow_below ((q_alloc (alloc_below w4 _) _).drew) grow1 (by omega); have HX3 := hid (row_grown (((one_val w4 (q : Int) 3).below (alloc_below _ _)).below (Below.refl _ _).drew) grow1 (by omega)); have HS1 : Hid (S3 ⟨w.heap.size, 0, none⟩ ⟨w.heap.size, 1, none⟩ (fa.add k) (.slice (some ta) tn tc) (.slice (some fa) fn fc) (.slice lo m lc) w1) := (s3_keep b1 hS))
                  | (refine step_append_ints _ (by rfl) (.tmp 54) (.tmp 56) (by rfl) w4.heap.size _ _ _ (by rfl) (own1'.alloc _) (some ⟨w1.heap.size, 0, none⟩) 1 1 [(q : Int)] (by rfl) (by rfl) (fun h => by cases h) (one_val w1 (q : Int) 3) (m + 1) (by omega) (a.fr.getD k [] ++ [(q : Int)]) (by rfl) (by omega) (q_alloc b1 _).size ?_; intro ao2' cap2 w2' own2 grow2; have b2 := (q_alloc b1 _).grown grow2 (q_alloc b1 _).size (fun k e => (own1'.lt k e).1); have HS2 : Hid (S3 ⟨w.heap.size, 0, none⟩ ⟨w.heap.size, 1, none⟩ (fa.add k) (.slice (some ta) tn tc) (.slice (some fa) fn fc) (.slice lo m lc) w2') := (s3_keep b2 hS))
                  | (refine step_append_ints _ (by rfl) (.tmp 54) (.tmp 56) (by rfl) w4.heap.size _ _ _ (by rfl) own1' (some ⟨w4.heap.size + 1, 0, none⟩) 1 1 [(q : Int)] (by rfl) (by rfl) (fun h => by cases h) HX3.out (m + 1) (by omega) (a.fr.getD k [] ++ [(q : Int)]) (by rfl) (by omega) b1.size ?_; intro ao2' cap2 w2' own2 grow2; have b2 := b1.grown grow2 b1.size (fun k e => (own1'.lt k e).1); have HS2 : Hid (S3 ⟨w.heap.size, 0, none⟩ ⟨w.heap.size, 1, none⟩ (fa.add k) (.slice (some ta) tn tc) (.slice (some fa) fn fc) (.slice lo m lc) w2') := (s3_keep b2 hS))
                  | (refine step_append_ints _ (by rfl) (.tmp 54) (.tmp 56) (by rfl) w4.heap.size _ _ _ (by rfl) own1' (some ⟨w4.heap.size, 0, none⟩) 1 1 [(q : Int)] (by rfl) (by rfl) (fun h => by cases h) HX3.out (m + 1) (by omega) (a.fr.getD k [] ++ [(q : Int)]) (by rfl) (by omega) b1.size ?_; intro ao2' cap2 w2' own2 grow2; have b2 := b1.grown grow2 b1.size (fun k e => (own1'.lt k e).1); have HS2 : Hid (S3 ⟨w.heap.size, 0, none⟩ ⟨w.heap.size, 1, none⟩ (fa.add k) (.slice (some ta) tn tc) (.slice (some fa) fn fc) (.slice lo m lc) w2') := (s3_keep b2 hS))
                  | (go_at_call 55; refine (CL.out _ ⟨ao2', m + 1, cap2⟩ b2 (own_mine own2)).mono ?_; rintro e w6 ⟨y1, rfl, hv1, ho1, b⟩; have HV1 := hid hv1; have HO1 := hid ho1; have HB3 := hid (q_trans b2 b); have HS3 : Hid (S3 ⟨w.heap.size, 0, none⟩ ⟨w.heap.size, 1, none⟩ (fa.add k) (.slice (some ta) tn tc) (.slice (some fa) fn fc) (.slice lo m lc) w6) := (s3_keep HB3.out hS); obtain ⟨r0, r1, rf⟩ := (HD.out.below HB3.out).zr.inA; clear hv1 ho1)
                  | fail)
              all_goals
                have HF : Hid (Rs w ((w6.setCell ⟨w.heap.size + 1, 0, none⟩ (.slice y1.t.o y1.t.n y1.t.c)).setCell ⟨w.heap.size + 1, 1, none⟩ (.slice y1.f.o y1.f.n y1.f.c)) Av ⟨⟨some ta, tn, tc⟩, ⟨some fa, fn, fc⟩⟩ y1 a ⟨a.ts, a.fr.set k (a.fr.getD k [] ++ [(q : Int)])⟩) :=
                  ⟨(HV1.out.kept (kept_two w6 (w.heap.size + 1) _ _) (fun _ e => .inr e)).mono (fun _ e => .inl e), fun _ => HO1.out.box (HD.out.below HB3.out).zr _ _, low_put (HD.out.below HB3.out).low (by omega)⟩
                clear hS HS1 HS2 HS3 own1' own2 grow1 grow2 b1 b2
                go_wp2_with fail
                refine bodyPost_ret (v := .tuple #[(.agg #[.slice y1.t.o y1.t.n y1.t.c, .slice y1.f.o y1.f.n y1.f.c]), .int .i64 0]) (by simp [results, Try.results45, go_sem, r0, r1]) rfl ⟨y1, ?_, ?_⟩
                · rw [HE.out]
                · rw [show giveA a (k : Int) (q : Int) = ⟨a.ts, a.fr.set k (a.fr.getD k [] ++ [(q : Int)])⟩ from if_pos ⟨HE.out, by rw [HTQ.out]; exact HG.out⟩]
                  exact HF.out
          · have HE := hid (giveE_no (a := a) (c := (k : Int)) (p := (q : Int)) (fun h => hN0 (by rw [← hN]; exact h.2.2.2.2.2.2)))
            have e2 : (0 : Int) < (N : Int) := by omega
            clear hN hN0
            obtain ⟨c0, c1, cf⟩ := HD.out.box
            obtain ⟨r0, r1, rf⟩ := HD.out.zr.inA
            go_wp2_with fail
            refine bodyPost_ret (v := .tuple #[.agg #[.slice (some ta) tn tc, .slice fo fn fc], .int .i64 2]) (by simp [results, Try.results45, go_sem, r0, r1]) rfl ⟨⟨⟨(some ta), tn, tc⟩, ⟨fo, fn, fc⟩⟩, ?_, ?_⟩
            · rw [HE.out]
            · rw [give_no (by rw [HE.out]; decide)]; exact rs_keep HD.out HV.out
      · have HE := hid (giveE_no (a := a) (c := c) (p := (q : Int)) (fun h => hc1 (by have := h.2.2.2.2.1; have := HFN.out; omega)))
        obtain ⟨c0, c1, cf⟩ := HD.out.box
        obtain ⟨r0, r1, rf⟩ := HD.out.zr.inA
        go_wp2_with fail
        refine bodyPost_ret (v := .tuple #[.agg #[.slice xo tn tc, .slice fo fn fc], .int .i64 2]) (by simp [results, Try.results45, go_sem, r0, r1]) rfl ⟨⟨⟨xo, tn, tc⟩, ⟨fo, fn, fc⟩⟩, ?_, ?_⟩
        · rw [HE.out]
        · rw [give_no (by rw [HE.out]; decide)]; exact rs_keep HD.out HV.out
    · have HE := hid (giveE_no (a := a) (c := c) (p := (q : Int)) (fun h => hc0 h.2.2.2.1))
      obtain ⟨c0, c1, cf⟩ := HD.out.box
      obtain ⟨r0, r1, rf⟩ := HD.out.zr.inA
      go_wp2_with fail
      refine bodyPost_ret (v := .tuple #[.agg #[.slice xo tn tc, .slice fo fn fc], .int .i64 2]) (by simp [results, Try.results45, go_sem, r0, r1]) rfl ⟨⟨⟨xo, tn, tc⟩, ⟨fo, fn, fc⟩⟩, ?_, ?_⟩
      · rw [HE.out]
      · rw [give_no (by rw [HE.out]; decide)]; exact rs_keep HD.out HV.out
  | false =>
    have HE := hid (giveE_no (a := a) (c := c) (p := p) (fun k => by rw [plc_yes ⟨k.1, k.2.1, k.2.2.1⟩] at hb; cases hb))
    clear hb
    obtain ⟨c0, c1, cf⟩ := HD.out.box
    obtain ⟨r0, r1, rf⟩ := HD.out.zr.inA
    go_wp2_with fail
    refine bodyPost_ret (v := .tuple #[.agg #[.slice xo tn tc, .slice fo fn fc], .int .i64 2]) (by simp [results, Try.results45, go_sem, r0, r1]) rfl ⟨⟨⟨xo, tn, tc⟩, ⟨fo, fn, fc⟩⟩, ?_, ?_⟩
    · rw [HE.out]
    · rw [give_no (by rw [HE.out]; decide)]; exact rs_keep HD.out HV.out
end Go.Proofs.Ytnagpedkmfmniaa.Ar
