/- What an act does, the program's and the document's: as EpDoes and EpModel have it, and in which blocks the answer's list does not lie. -/
import Derived.Test.YtejghoncihdfkaaEpActs
namespace Go.Proofs.Ytejghoncihdfkaa.Ep
open Go.RowKit

set_option maxRecDepth 100000 in
set_option maxHeartbeats 4000000 in
theorem does_off (K : Con) (y : WE) (e : E) (a : Ac) (Av : Nat → Prop) (w : World) (hA : Hid (∀ i, Av i → i < w.heap.size)) (HS : Hid (Sm e)) (HE : Hid (HasE w Av y e)) :
    Calls Try.prog 11 #[(.agg #[.int .i64 e.now, .slice y.p.o y.p.n y.p.c, .slice y.l.o y.l.n y.l.c]), (.agg #[.int .i64 a.kind, .int .i64 a.core, .int .i64 a.obj])] w fun r w' => ∃ (z : WE) (o : Option Addr) (cp : Nat), r = .returned (.tuple #[(.agg #[.int .i64 (doE e a).now, .slice z.p.o z.p.n z.p.c, .slice z.l.o z.l.n z.l.c]), .slice o (doL e a).length cp, .int .i64 (doN e a)]) ∧ HasE w' Av z (doE e a) ∧ Has w' o (doL e a).length cp (doL e a) ∧ Below w.heap.size w w' ∧ Off Av o (vals (doL e a)) := by
  obtain ⟨n, hn⟩ : ∃ n, e.now = n := ⟨_, rfl⟩
  by_cases h0 : a.kind = 0
  · skip
    have HR : Hid (doE e a = pinA e a.core ∧ doL e a = [] ∧ doN e a = pinE e a.core) := by
      refine ⟨?_, ?_, ?_⟩
      · simp [doE, h0]
      · simp [doL, h0]
      · simp [doN, h0]
    have b0 := beq_yes h0
    have HC := hid (fun (wm : World) (Av' : Nat → Prop) (hA' : ∀ i, Av' i → i < wm.heap.size) (h : HasE wm Av' y e) => K.pin y e a.core Av' wm hA' HS h)
    have HN2 : Hid ((pinA e a.core).now = n) := (now_pin e a.core).trans hn
    rw [hn] at HC ⊢
    clear hn h0
    go_enter Try.func11, Try.ntmps11
    go_wp2_with fail
    have HB := hid (b3_start w n y a 25 27)
    generalize (((w.alloc (.cells #[.int .i64 n, .slice y.p.o y.p.n y.p.c, .slice y.l.o y.l.n y.l.c] 25)).alloc (.cells #[.int .i64 a.kind, .int .i64 a.core, .int .i64 a.obj] 27)).alloc (.cells #[.int .i64 0, .slice none 0 0, .slice none 0 0] 25)) = w0 at HB ⊢
    refine (HC.out _ (fun i => Av i ∨ i = w.heap.size + 1 + 1) (arg_ltR hA.out HB.out.low.size HB.out.r.lt) (arg_hasR HE.out HB.out.low (by omega))).mono ?_
    rintro r w1 ⟨z, rfl, hz, b1⟩
    have HZ := hid hz
    have HB1 := hid (HB.out.below b1)
    have hlt : w.heap.size + 1 + 1 < w1.heap.size := HB1.out.r.lt
    obtain ⟨z0, z1, z2, zf⟩ := HB1.out.r
    clear b1 hz
    generalize hm : pinE e a.core = m at HR ⊢
    have HNC : Hid (w1.heap.size ≠ w.heap.size + 1 + 1) := Nat.ne_of_gt hlt
    go_wp2_with fail
    have HZB := hid (inE_new w1 n z 25)
    have HZA := hid (HZ.out.below (alloc_below w1 (.cells #[.int .i64 n, .slice z.p.o z.p.n z.p.c, .slice z.l.o z.l.n z.l.c] 25)))
    have HBA := hid (HB1.out.below (alloc_below w1 (.cells #[.int .i64 n, .slice z.p.o z.p.n z.p.c, .slice z.l.o z.l.n z.l.c] 25)))
    clear z0 z1 z2 zf HZ HB1 hlt
    generalize hc : w1.heap.size = c at HZB HNC ⊢
    generalize w1.alloc (.cells #[.int .i64 n, .slice z.p.o z.p.n z.p.c, .slice z.l.o z.l.n z.l.c] 25) = W at HZB HZA HBA ⊢
    clear hc
    obtain ⟨p0, p1, p2, pf⟩ := HZB.out
    obtain ⟨z0, z1, z2, zf⟩ := HBA.out.r
    have hS : SB c n z W := ⟨p0, p1, p2⟩
    go_region_held3 (SB c n z) (first | with_reducible assumption | with_reducible exact sb_drew hS | with_reducible exact sb_three hS HNC.out | with_reducible exact sb_drew (sb_three hS HNC.out))
      (first
        | (go_at_call 17; refine (num_any _ _).mono ?_; rintro e w8 ⟨rfl, hw⟩; rw [hw]; clear hw))
    have HF := hid ((fin_hasR HZA.out (.int .i64 n) (.slice z.p.o z.p.n z.p.c) (.slice z.l.o z.l.n z.l.c)).below (Below.refl _ _).drew)
    have HW := hid ((fin_lowR HBA.out.low (by omega : w.heap.size ≤ w.heap.size + 1 + 1) (.int .i64 n) (.slice z.p.o z.p.n z.p.c) (.slice z.l.o z.l.n z.l.c)).drew)
    clear HZA HNC
    go_wp2_with fail
    refine bodyPost_ret (v := .tuple #[(.agg #[.int .i64 n, .slice z.p.o z.p.n z.p.c, .slice z.l.o z.l.n z.l.c]), .slice none 0 0, .int .i64 m]) (by simp [results, Try.results11, go_sem, z0, z1, z2]) rfl ⟨z, none, 0, ?_, ?_, ?_, HW.out, fun _ _ h => by cases h⟩
    · rw [HR.out.1, HR.out.2.1, HR.out.2.2, HN2.out]; rfl
    · rw [HR.out.1]; exact HF.out
    · rw [HR.out.2.1]; exact has_nil _
  · skip
    by_cases h1 : a.kind = 1
    · skip
      have HR : Hid (doE e a = unA e a.core ∧ doL e a = [] ∧ doN e a = unE e a.core) := by
        refine ⟨?_, ?_, ?_⟩
        · simp [doE, h1]
        · simp [doL, h1]
        · simp [doN, h1]
      have b0 := beq_no h0
      have b1 := beq_yes h1
      have HC := hid (fun (wm : World) (Av' : Nat → Prop) (hA' : ∀ i, Av' i → i < wm.heap.size) (h : HasE wm Av' y e) => K.un y e a.core Av' wm hA' HS h)
      have HN2 : Hid ((unA e a.core).now = n) := (now_un e a.core).trans hn
      rw [hn] at HC ⊢
      clear hn h0 h1
      go_enter Try.func11, Try.ntmps11
      go_wp2_with fail
      have HB := hid (b3_start w n y a 25 27)
      generalize (((w.alloc (.cells #[.int .i64 n, .slice y.p.o y.p.n y.p.c, .slice y.l.o y.l.n y.l.c] 25)).alloc (.cells #[.int .i64 a.kind, .int .i64 a.core, .int .i64 a.obj] 27)).alloc (.cells #[.int .i64 0, .slice none 0 0, .slice none 0 0] 25)) = w0 at HB ⊢
      refine (HC.out _ (fun i => Av i ∨ i = w.heap.size + 1 + 1) (arg_ltR hA.out HB.out.low.size HB.out.r.lt) (arg_hasR HE.out HB.out.low (by omega))).mono ?_
      rintro r w1 ⟨z, rfl, hz, b1⟩
      have HZ := hid hz
      have HB1 := hid (HB.out.below b1)
      have hlt : w.heap.size + 1 + 1 < w1.heap.size := HB1.out.r.lt
      obtain ⟨z0, z1, z2, zf⟩ := HB1.out.r
      clear b1 hz
      generalize hm : unE e a.core = m at HR ⊢
      have HNC : Hid (w1.heap.size ≠ w.heap.size + 1 + 1) := Nat.ne_of_gt hlt
      go_wp2_with fail
      have HZB := hid (inE_new w1 n z 25)
      have HZA := hid (HZ.out.below (alloc_below w1 (.cells #[.int .i64 n, .slice z.p.o z.p.n z.p.c, .slice z.l.o z.l.n z.l.c] 25)))
      have HBA := hid (HB1.out.below (alloc_below w1 (.cells #[.int .i64 n, .slice z.p.o z.p.n z.p.c, .slice z.l.o z.l.n z.l.c] 25)))
      clear z0 z1 z2 zf HZ HB1 hlt
      generalize hc : w1.heap.size = c at HZB HNC ⊢
      generalize w1.alloc (.cells #[.int .i64 n, .slice z.p.o z.p.n z.p.c, .slice z.l.o z.l.n z.l.c] 25) = W at HZB HZA HBA ⊢
      clear hc
      obtain ⟨p0, p1, p2, pf⟩ := HZB.out
      obtain ⟨z0, z1, z2, zf⟩ := HBA.out.r
      have hS : SB c n z W := ⟨p0, p1, p2⟩
      go_region_held3 (SB c n z) (first | with_reducible assumption | with_reducible exact sb_drew hS | with_reducible exact sb_three hS HNC.out | with_reducible exact sb_drew (sb_three hS HNC.out))
        (first
          | (go_at_call 17; refine (num_any _ _).mono ?_; rintro e w8 ⟨rfl, hw⟩; rw [hw]; clear hw))
      have HF := hid ((fin_hasR HZA.out (.int .i64 n) (.slice z.p.o z.p.n z.p.c) (.slice z.l.o z.l.n z.l.c)).below (Below.refl _ _).drew)
      have HW := hid ((fin_lowR HBA.out.low (by omega : w.heap.size ≤ w.heap.size + 1 + 1) (.int .i64 n) (.slice z.p.o z.p.n z.p.c) (.slice z.l.o z.l.n z.l.c)).drew)
      clear HZA HNC
      go_wp2_with fail
      refine bodyPost_ret (v := .tuple #[(.agg #[.int .i64 n, .slice z.p.o z.p.n z.p.c, .slice z.l.o z.l.n z.l.c]), .slice none 0 0, .int .i64 m]) (by simp [results, Try.results11, go_sem, z0, z1, z2]) rfl ⟨z, none, 0, ?_, ?_, ?_, HW.out, fun _ _ h => by cases h⟩
      · rw [HR.out.1, HR.out.2.1, HR.out.2.2, HN2.out]; rfl
      · rw [HR.out.1]; exact HF.out
      · rw [HR.out.2.1]; exact has_nil _
    · skip
      by_cases h2 : a.kind = 2
      · skip
        have HR : Hid (doE e a = reA e a.core a.obj ∧ doL e a = [] ∧ doN e a = reE e a.core a.obj) := by
          refine ⟨?_, ?_, ?_⟩
          · simp [doE, h2]
          · simp [doL, h2]
          · simp [doN, h2]
        have b0 := beq_no h0
        have b1 := beq_no h1
        have b2 := beq_yes h2
        have HC := hid (fun (wm : World) (Av' : Nat → Prop) (hA' : ∀ i, Av' i → i < wm.heap.size) (h : HasE wm Av' y e) => K.re y e a.core a.obj Av' wm hA' HS h)
        have HN2 : Hid ((reA e a.core a.obj).now = n) := (now_re e a.core a.obj).trans hn
        rw [hn] at HC ⊢
        clear hn h0 h1 h2
        go_enter Try.func11, Try.ntmps11
        go_wp2_with fail
        have HB := hid (b3_start w n y a 25 27)
        generalize (((w.alloc (.cells #[.int .i64 n, .slice y.p.o y.p.n y.p.c, .slice y.l.o y.l.n y.l.c] 25)).alloc (.cells #[.int .i64 a.kind, .int .i64 a.core, .int .i64 a.obj] 27)).alloc (.cells #[.int .i64 0, .slice none 0 0, .slice none 0 0] 25)) = w0 at HB ⊢
        refine (HC.out _ (fun i => Av i ∨ i = w.heap.size + 1 + 1) (arg_ltR hA.out HB.out.low.size HB.out.r.lt) (arg_hasR HE.out HB.out.low (by omega))).mono ?_
        rintro r w1 ⟨z, rfl, hz, b1⟩
        have HZ := hid hz
        have HB1 := hid (HB.out.below b1)
        have hlt : w.heap.size + 1 + 1 < w1.heap.size := HB1.out.r.lt
        obtain ⟨z0, z1, z2, zf⟩ := HB1.out.r
        clear b1 hz
        generalize hm : reE e a.core a.obj = m at HR ⊢
        have HNC : Hid (w1.heap.size ≠ w.heap.size + 1 + 1) := Nat.ne_of_gt hlt
        go_wp2_with fail
        have HZB := hid (inE_new w1 n z 25)
        have HZA := hid (HZ.out.below (alloc_below w1 (.cells #[.int .i64 n, .slice z.p.o z.p.n z.p.c, .slice z.l.o z.l.n z.l.c] 25)))
        have HBA := hid (HB1.out.below (alloc_below w1 (.cells #[.int .i64 n, .slice z.p.o z.p.n z.p.c, .slice z.l.o z.l.n z.l.c] 25)))
        clear z0 z1 z2 zf HZ HB1 hlt
        generalize hc : w1.heap.size = c at HZB HNC ⊢
        generalize w1.alloc (.cells #[.int .i64 n, .slice z.p.o z.p.n z.p.c, .slice z.l.o z.l.n z.l.c] 25) = W at HZB HZA HBA ⊢
        clear hc
        obtain ⟨p0, p1, p2, pf⟩ := HZB.out
        obtain ⟨z0, z1, z2, zf⟩ := HBA.out.r
        have hS : SB c n z W := ⟨p0, p1, p2⟩
        go_region_held3 (SB c n z) (first | with_reducible assumption | with_reducible exact sb_drew hS | with_reducible exact sb_three hS HNC.out | with_reducible exact sb_drew (sb_three hS HNC.out))
          (first
            | (go_at_call 17; refine (num_any _ _).mono ?_; rintro e w8 ⟨rfl, hw⟩; rw [hw]; clear hw))
        have HF := hid ((fin_hasR HZA.out (.int .i64 n) (.slice z.p.o z.p.n z.p.c) (.slice z.l.o z.l.n z.l.c)).below (Below.refl _ _).drew)
        have HW := hid ((fin_lowR HBA.out.low (by omega : w.heap.size ≤ w.heap.size + 1 + 1) (.int .i64 n) (.slice z.p.o z.p.n z.p.c) (.slice z.l.o z.l.n z.l.c)).drew)
        clear HZA HNC
        go_wp2_with fail
        refine bodyPost_ret (v := .tuple #[(.agg #[.int .i64 n, .slice z.p.o z.p.n z.p.c, .slice z.l.o z.l.n z.l.c]), .slice none 0 0, .int .i64 m]) (by simp [results, Try.results11, go_sem, z0, z1, z2]) rfl ⟨z, none, 0, ?_, ?_, ?_, HW.out, fun _ _ h => by cases h⟩
        · rw [HR.out.1, HR.out.2.1, HR.out.2.2, HN2.out]; rfl
        · rw [HR.out.1]; exact HF.out
        · rw [HR.out.2.1]; exact has_nil _
      · skip
        by_cases h3 : a.kind = 3
        · skip
          have HR : Hid (doE e a = adA e ∧ doL e a = [] ∧ doN e a = (if adB e then 1000 else 0)) := by
            refine ⟨?_, ?_, ?_⟩
            · simp [doE, h3]
            · simp [doL, h3]
            · simp [doN, h3]
          have b0 := beq_no h0
          have b1 := beq_no h1
          have b2 := beq_no h2
          have b3 := beq_yes h3
          have HC := hid (fun (wm : World) (Av' : Nat → Prop) (hA' : ∀ i, Av' i → i < wm.heap.size) (h : HasE wm Av' y e) => K.ad y e Av' wm hA' HS h)
          have HN2 : Hid ((adA e).now = (adA e).now) := rfl
          rw [hn] at HC ⊢
          clear hn h0 h1 h2 h3
          go_enter Try.func11, Try.ntmps11
          go_wp2_with fail
          have HB := hid (b3_start w n y a 25 27)
          generalize (((w.alloc (.cells #[.int .i64 n, .slice y.p.o y.p.n y.p.c, .slice y.l.o y.l.n y.l.c] 25)).alloc (.cells #[.int .i64 a.kind, .int .i64 a.core, .int .i64 a.obj] 27)).alloc (.cells #[.int .i64 0, .slice none 0 0, .slice none 0 0] 25)) = w0 at HB ⊢
          refine (HC.out _ (fun i => Av i ∨ i = w.heap.size + 1 + 1) (arg_ltR hA.out HB.out.low.size HB.out.r.lt) (arg_hasR HE.out HB.out.low (by omega))).mono ?_
          rintro r w1 ⟨z, rfl, hz, b1⟩
          have HZ := hid hz
          have HB1 := hid (HB.out.below b1)
          have hlt : w.heap.size + 1 + 1 < w1.heap.size := HB1.out.r.lt
          obtain ⟨z0, z1, z2, zf⟩ := HB1.out.r
          clear b1 hz
          cases hb : adB e with
          | true =>
            generalize hm : (adA e).now = m at HZ HN2 ⊢
            rw [hb] at HR
            go_wp2_with fail
            refine bodyPost_ret (v := .tuple #[(.agg #[.int .i64 m, .slice z.p.o z.p.n z.p.c, .slice z.l.o z.l.n z.l.c]), .slice none 0 0, .int .i64 1000]) (by simp [results, Try.results11, go_sem, *]) rfl ⟨z, none, 0, ?_, ?_, ?_, q_alloc (fin_lowR HB1.out.low (by omega) _ _ _) _, fun _ _ h => by cases h⟩
            · rw [HR.out.1, HR.out.2.1, HR.out.2.2, hm]; rfl
            · rw [HR.out.1]; exact (fin_hasR HZ.out _ _ _).below (alloc_below _ _)
            · rw [HR.out.2.1]; exact has_nil _
          | false =>
            generalize hm : (adA e).now = m at HZ HN2 ⊢
            rw [hb] at HR
            go_wp2_with fail
            refine bodyPost_ret (v := .tuple #[(.agg #[.int .i64 m, .slice z.p.o z.p.n z.p.c, .slice z.l.o z.l.n z.l.c]), .slice none 0 0, .int .i64 0]) (by simp [results, Try.results11, go_sem, *]) rfl ⟨z, none, 0, ?_, ?_, ?_, q_alloc (fin_lowR HB1.out.low (by omega) _ _ _) _, fun _ _ h => by cases h⟩
            · rw [HR.out.1, HR.out.2.1, HR.out.2.2, hm]; rfl
            · rw [HR.out.1]; exact (fin_hasR HZ.out _ _ _).below (alloc_below _ _)
            · rw [HR.out.2.1]; exact has_nil _
        · skip
          have HR : Hid (doE e a = rpA e a.core ∧ doL e a = rpL e a.core ∧ doN e a = 0) := by
            refine ⟨?_, ?_, ?_⟩
            · simp [doE, h0, h1, h2, h3]
            · simp [doL, h0, h1, h2, h3]
            · simp [doN, h0, h1, h2, h3]
          have b0 := beq_no h0
          have b1 := beq_no h1
          have b2 := beq_no h2
          have b3 := beq_no h3
          have HC := hid (fun (wm : World) (Av' : Nat → Prop) (hA' : ∀ i, Av' i → i < wm.heap.size) (h : HasE wm Av' y e) => K.rp y e a.core Av' wm hA' HS h)
          have HN2 : Hid ((rpA e a.core).now = n) := (now_rp e a.core).trans hn
          rw [hn] at HC ⊢
          clear hn h0 h1 h2 h3
          go_enter Try.func11, Try.ntmps11
          go_wp2_with fail
          have HB := hid (b3_start w n y a 25 27)
          generalize (((w.alloc (.cells #[.int .i64 n, .slice y.p.o y.p.n y.p.c, .slice y.l.o y.l.n y.l.c] 25)).alloc (.cells #[.int .i64 a.kind, .int .i64 a.core, .int .i64 a.obj] 27)).alloc (.cells #[.int .i64 0, .slice none 0 0, .slice none 0 0] 25)) = w0 at HB ⊢
          refine (HC.out _ (fun i => Av i ∨ i = w.heap.size + 1 + 1) (arg_ltR hA.out HB.out.low.size HB.out.r.lt) (arg_hasR HE.out HB.out.low (by omega))).mono ?_
          rintro r w1 ⟨z, oL, cL, rfl, hz, hl, ho, b1⟩
          have HZ := hid hz
          have HL := hid hl
          have HO := hid ho
          have HB1 := hid (HB.out.below b1)
          have hlt : w.heap.size + 1 + 1 < w1.heap.size := HB1.out.r.lt
          obtain ⟨z0, z1, z2, zf⟩ := HB1.out.r
          clear b1 hz hl ho
          generalize hm : (rpL e a.core).length = m at HL ⊢
          go_wp2_with fail
          refine bodyPost_ret (v := .tuple #[(.agg #[.int .i64 n, .slice z.p.o z.p.n z.p.c, .slice z.l.o z.l.n z.l.c]), .slice oL m cL, .int .i64 0]) (by simp [results, Try.results11, go_sem, *]) rfl ⟨z, oL, cL, ?_, ?_, ?_, q_alloc (fin_lowR HB1.out.low (by omega) _ _ _) _, by rw [HR.out.2.1]; exact fun h0 a ea s => HO.out h0 a ea (.inl s)⟩
          · rw [HR.out.1, HR.out.2.1, HR.out.2.2, HN2.out, hm]
          · rw [HR.out.1]; exact (fin_hasR HZ.out _ _ _).below (alloc_below _ _)
          · rw [HR.out.2.1, hm]
            exact (has_store HL.out (fun a ea h0 s => HO.out (by rw [len_vals]; exact h0) a ea (.inr s)) _ _ _).below (alloc_below _ _)
set_option maxRecDepth 100000 in
set_option maxHeartbeats 4000000 in
theorem model_off (y : WE) (e : E) (a : Ac) (Av : Nat → Prop) (w : World) (hA : Hid (∀ i, Av i → i < w.heap.size)) (HS : Hid (Sm e)) (HE : Hid (HasE w Av y e)) :
    Calls Try.prog 12 #[(.agg #[.int .i64 e.now, .slice y.p.o y.p.n y.p.c, .slice y.l.o y.l.n y.l.c]), (.agg #[.int .i64 a.kind, .int .i64 a.core, .int .i64 a.obj])] w fun r w' => ∃ (z : WE) (o : Option Addr) (cp : Nat), r = .returned (.tuple #[(.agg #[.int .i64 (doE e a).now, .slice z.p.o z.p.n z.p.c, .slice z.l.o z.l.n z.l.c]), .slice o (doL e a).length cp, .int .i64 (doN e a)]) ∧ HasE w' Av z (doE e a) ∧ Has w' o (doL e a).length cp (doL e a) ∧ Below w.heap.size w w' ∧ Off Av o (vals (doL e a)) := by
  obtain ⟨n, hn⟩ : ∃ n, e.now = n := ⟨_, rfl⟩
  by_cases h0 : a.kind = 0
  · skip
    have HR : Hid (doE e a = pinA e a.core ∧ doL e a = [] ∧ doN e a = pinE e a.core) := by
      refine ⟨?_, ?_, ?_⟩
      · simp [doE, h0]
      · simp [doL, h0]
      · simp [doN, h0]
    have b0 := beq_yes h0
    have HC := hid (fun (wm : World) (Av' : Nat → Prop) (hA' : ∀ i, Av' i → i < wm.heap.size) (h : HasE wm Av' y e) => rPin_any y e a.core Av' wm hA' HS h)
    have HN2 : Hid ((pinA e a.core).now = n) := (now_pin e a.core).trans hn
    rw [hn] at HC ⊢
    clear hn h0
    go_enter Try.func12, Try.ntmps12
    go_wp2_with fail
    have HB := hid (b3_start w n y a 25 27)
    generalize (((w.alloc (.cells #[.int .i64 n, .slice y.p.o y.p.n y.p.c, .slice y.l.o y.l.n y.l.c] 25)).alloc (.cells #[.int .i64 a.kind, .int .i64 a.core, .int .i64 a.obj] 27)).alloc (.cells #[.int .i64 0, .slice none 0 0, .slice none 0 0] 25)) = w0 at HB ⊢
    refine (HC.out _ (fun i => Av i ∨ i = w.heap.size + 1 + 1) (arg_ltR hA.out HB.out.low.size HB.out.r.lt) (arg_hasR HE.out HB.out.low (by omega))).mono ?_
    rintro r w1 ⟨z, rfl, hz, b1⟩
    have HZ := hid hz
    have HB1 := hid (HB.out.below b1)
    have hlt : w.heap.size + 1 + 1 < w1.heap.size := HB1.out.r.lt
    obtain ⟨z0, z1, z2, zf⟩ := HB1.out.r
    clear b1 hz
    generalize hm : pinE e a.core = m at HR ⊢
    go_wp2_with fail
    refine bodyPost_ret (v := .tuple #[(.agg #[.int .i64 n, .slice z.p.o z.p.n z.p.c, .slice z.l.o z.l.n z.l.c]), .slice none 0 0, .int .i64 m]) (by simp [results, Try.results12, go_sem, *]) rfl ⟨z, none, 0, ?_, ?_, ?_, q_alloc (fin_lowR HB1.out.low (by omega) _ _ _) _, fun _ _ h => by cases h⟩
    · rw [HR.out.1, HR.out.2.1, HR.out.2.2, HN2.out]; rfl
    · rw [HR.out.1]; exact (fin_hasR HZ.out _ _ _).below (alloc_below _ _)
    · rw [HR.out.2.1]; exact has_nil _
  · skip
    by_cases h1 : a.kind = 1
    · skip
      have HR : Hid (doE e a = unA e a.core ∧ doL e a = [] ∧ doN e a = unE e a.core) := by
        refine ⟨?_, ?_, ?_⟩
        · simp [doE, h1]
        · simp [doL, h1]
        · simp [doN, h1]
      have b0 := beq_no h0
      have b1 := beq_yes h1
      have HC := hid (fun (wm : World) (Av' : Nat → Prop) (hA' : ∀ i, Av' i → i < wm.heap.size) (h : HasE wm Av' y e) => rUnpin_any y e a.core Av' wm hA' HS h)
      have HN2 : Hid ((unA e a.core).now = n) := (now_un e a.core).trans hn
      rw [hn] at HC ⊢
      clear hn h0 h1
      go_enter Try.func12, Try.ntmps12
      go_wp2_with fail
      have HB := hid (b3_start w n y a 25 27)
      generalize (((w.alloc (.cells #[.int .i64 n, .slice y.p.o y.p.n y.p.c, .slice y.l.o y.l.n y.l.c] 25)).alloc (.cells #[.int .i64 a.kind, .int .i64 a.core, .int .i64 a.obj] 27)).alloc (.cells #[.int .i64 0, .slice none 0 0, .slice none 0 0] 25)) = w0 at HB ⊢
      refine (HC.out _ (fun i => Av i ∨ i = w.heap.size + 1 + 1) (arg_ltR hA.out HB.out.low.size HB.out.r.lt) (arg_hasR HE.out HB.out.low (by omega))).mono ?_
      rintro r w1 ⟨z, rfl, hz, b1⟩
      have HZ := hid hz
      have HB1 := hid (HB.out.below b1)
      have hlt : w.heap.size + 1 + 1 < w1.heap.size := HB1.out.r.lt
      obtain ⟨z0, z1, z2, zf⟩ := HB1.out.r
      clear b1 hz
      generalize hm : unE e a.core = m at HR ⊢
      go_wp2_with fail
      refine bodyPost_ret (v := .tuple #[(.agg #[.int .i64 n, .slice z.p.o z.p.n z.p.c, .slice z.l.o z.l.n z.l.c]), .slice none 0 0, .int .i64 m]) (by simp [results, Try.results12, go_sem, *]) rfl ⟨z, none, 0, ?_, ?_, ?_, q_alloc (fin_lowR HB1.out.low (by omega) _ _ _) _, fun _ _ h => by cases h⟩
      · rw [HR.out.1, HR.out.2.1, HR.out.2.2, HN2.out]; rfl
      · rw [HR.out.1]; exact (fin_hasR HZ.out _ _ _).below (alloc_below _ _)
      · rw [HR.out.2.1]; exact has_nil _
    · skip
      by_cases h2 : a.kind = 2
      · skip
        have HR : Hid (doE e a = reA e a.core a.obj ∧ doL e a = [] ∧ doN e a = reE e a.core a.obj) := by
          refine ⟨?_, ?_, ?_⟩
          · simp [doE, h2]
          · simp [doL, h2]
          · simp [doN, h2]
        have b0 := beq_no h0
        have b1 := beq_no h1
        have b2 := beq_yes h2
        have HC := hid (fun (wm : World) (Av' : Nat → Prop) (hA' : ∀ i, Av' i → i < wm.heap.size) (h : HasE wm Av' y e) => rRet_any y e a.core a.obj Av' wm hA' HS h)
        have HN2 : Hid ((reA e a.core a.obj).now = n) := (now_re e a.core a.obj).trans hn
        rw [hn] at HC ⊢
        clear hn h0 h1 h2
        go_enter Try.func12, Try.ntmps12
        go_wp2_with fail
        have HB := hid (b3_start w n y a 25 27)
        generalize (((w.alloc (.cells #[.int .i64 n, .slice y.p.o y.p.n y.p.c, .slice y.l.o y.l.n y.l.c] 25)).alloc (.cells #[.int .i64 a.kind, .int .i64 a.core, .int .i64 a.obj] 27)).alloc (.cells #[.int .i64 0, .slice none 0 0, .slice none 0 0] 25)) = w0 at HB ⊢
        refine (HC.out _ (fun i => Av i ∨ i = w.heap.size + 1 + 1) (arg_ltR hA.out HB.out.low.size HB.out.r.lt) (arg_hasR HE.out HB.out.low (by omega))).mono ?_
        rintro r w1 ⟨z, rfl, hz, b1⟩
        have HZ := hid hz
        have HB1 := hid (HB.out.below b1)
        have hlt : w.heap.size + 1 + 1 < w1.heap.size := HB1.out.r.lt
        obtain ⟨z0, z1, z2, zf⟩ := HB1.out.r
        clear b1 hz
        generalize hm : reE e a.core a.obj = m at HR ⊢
        go_wp2_with fail
        refine bodyPost_ret (v := .tuple #[(.agg #[.int .i64 n, .slice z.p.o z.p.n z.p.c, .slice z.l.o z.l.n z.l.c]), .slice none 0 0, .int .i64 m]) (by simp [results, Try.results12, go_sem, *]) rfl ⟨z, none, 0, ?_, ?_, ?_, q_alloc (fin_lowR HB1.out.low (by omega) _ _ _) _, fun _ _ h => by cases h⟩
        · rw [HR.out.1, HR.out.2.1, HR.out.2.2, HN2.out]; rfl
        · rw [HR.out.1]; exact (fin_hasR HZ.out _ _ _).below (alloc_below _ _)
        · rw [HR.out.2.1]; exact has_nil _
      · skip
        by_cases h3 : a.kind = 3
        · skip
          have HR : Hid (doE e a = adA e ∧ doL e a = [] ∧ doN e a = (if adB e then 1000 else 0)) := by
            refine ⟨?_, ?_, ?_⟩
            · simp [doE, h3]
            · simp [doL, h3]
            · simp [doN, h3]
          have b0 := beq_no h0
          have b1 := beq_no h1
          have b2 := beq_no h2
          have b3 := beq_yes h3
          have HC := hid (fun (wm : World) (Av' : Nat → Prop) (_ : ∀ i, Av' i → i < wm.heap.size) (h : HasE wm Av' y e) => rAdv_any y e Av' wm HS h)
          have HN2 : Hid ((adA e).now = (adA e).now) := rfl
          rw [hn] at HC ⊢
          clear hn h0 h1 h2 h3
          go_enter Try.func12, Try.ntmps12
          go_wp2_with fail
          have HB := hid (b3_start w n y a 25 27)
          generalize (((w.alloc (.cells #[.int .i64 n, .slice y.p.o y.p.n y.p.c, .slice y.l.o y.l.n y.l.c] 25)).alloc (.cells #[.int .i64 a.kind, .int .i64 a.core, .int .i64 a.obj] 27)).alloc (.cells #[.int .i64 0, .slice none 0 0, .slice none 0 0] 25)) = w0 at HB ⊢
          refine (HC.out _ (fun i => Av i ∨ i = w.heap.size + 1 + 1) (arg_ltR hA.out HB.out.low.size HB.out.r.lt) (arg_hasR HE.out HB.out.low (by omega))).mono ?_
          rintro r w1 ⟨z, rfl, hz, b1⟩
          have HZ := hid hz
          have HB1 := hid (HB.out.below b1)
          have hlt : w.heap.size + 1 + 1 < w1.heap.size := HB1.out.r.lt
          obtain ⟨z0, z1, z2, zf⟩ := HB1.out.r
          clear b1 hz
          cases hb : adB e with
          | true =>
            generalize hm : (adA e).now = m at HZ HN2 ⊢
            rw [hb] at HR
            go_wp2_with fail
            refine bodyPost_ret (v := .tuple #[(.agg #[.int .i64 m, .slice z.p.o z.p.n z.p.c, .slice z.l.o z.l.n z.l.c]), .slice none 0 0, .int .i64 1000]) (by simp [results, Try.results12, go_sem, *]) rfl ⟨z, none, 0, ?_, ?_, ?_, q_alloc (fin_lowR HB1.out.low (by omega) _ _ _) _, fun _ _ h => by cases h⟩
            · rw [HR.out.1, HR.out.2.1, HR.out.2.2, hm]; rfl
            · rw [HR.out.1]; exact (fin_hasR HZ.out _ _ _).below (alloc_below _ _)
            · rw [HR.out.2.1]; exact has_nil _
          | false =>
            generalize hm : (adA e).now = m at HZ HN2 ⊢
            rw [hb] at HR
            go_wp2_with fail
            refine bodyPost_ret (v := .tuple #[(.agg #[.int .i64 m, .slice z.p.o z.p.n z.p.c, .slice z.l.o z.l.n z.l.c]), .slice none 0 0, .int .i64 0]) (by simp [results, Try.results12, go_sem, *]) rfl ⟨z, none, 0, ?_, ?_, ?_, q_alloc (fin_lowR HB1.out.low (by omega) _ _ _) _, fun _ _ h => by cases h⟩
            · rw [HR.out.1, HR.out.2.1, HR.out.2.2, hm]; rfl
            · rw [HR.out.1]; exact (fin_hasR HZ.out _ _ _).below (alloc_below _ _)
            · rw [HR.out.2.1]; exact has_nil _
        · skip
          have HR : Hid (doE e a = rpA e a.core ∧ doL e a = rpL e a.core ∧ doN e a = 0) := by
            refine ⟨?_, ?_, ?_⟩
            · simp [doE, h0, h1, h2, h3]
            · simp [doL, h0, h1, h2, h3]
            · simp [doN, h0, h1, h2, h3]
          have b0 := beq_no h0
          have b1 := beq_no h1
          have b2 := beq_no h2
          have b3 := beq_no h3
          have HC := hid (fun (wm : World) (Av' : Nat → Prop) (hA' : ∀ i, Av' i → i < wm.heap.size) (h : HasE wm Av' y e) => rReap_any y e a.core Av' wm hA' HS h)
          have HN2 : Hid ((rpA e a.core).now = n) := (now_rp e a.core).trans hn
          rw [hn] at HC ⊢
          clear hn h0 h1 h2 h3
          go_enter Try.func12, Try.ntmps12
          go_wp2_with fail
          have HB := hid (b3_start w n y a 25 27)
          generalize (((w.alloc (.cells #[.int .i64 n, .slice y.p.o y.p.n y.p.c, .slice y.l.o y.l.n y.l.c] 25)).alloc (.cells #[.int .i64 a.kind, .int .i64 a.core, .int .i64 a.obj] 27)).alloc (.cells #[.int .i64 0, .slice none 0 0, .slice none 0 0] 25)) = w0 at HB ⊢
          refine (HC.out _ (fun i => Av i ∨ i = w.heap.size + 1 + 1) (arg_ltR hA.out HB.out.low.size HB.out.r.lt) (arg_hasR HE.out HB.out.low (by omega))).mono ?_
          rintro r w1 ⟨z, oL, cL, rfl, hz, hl, ho, b1⟩
          have HZ := hid hz
          have HL := hid hl
          have HO := hid ho
          have HB1 := hid (HB.out.below b1)
          have hlt : w.heap.size + 1 + 1 < w1.heap.size := HB1.out.r.lt
          obtain ⟨z0, z1, z2, zf⟩ := HB1.out.r
          clear b1 hz hl ho
          generalize hm : (rpL e a.core).length = m at HL ⊢
          go_wp2_with fail
          refine bodyPost_ret (v := .tuple #[(.agg #[.int .i64 n, .slice z.p.o z.p.n z.p.c, .slice z.l.o z.l.n z.l.c]), .slice oL m cL, .int .i64 0]) (by simp [results, Try.results12, go_sem, *]) rfl ⟨z, oL, cL, ?_, ?_, ?_, q_alloc (fin_lowR HB1.out.low (by omega) _ _ _) _, by rw [HR.out.2.1]; exact fun h0 a ea s => HO.out h0 a ea (.inl s)⟩
          · rw [HR.out.1, HR.out.2.1, HR.out.2.2, HN2.out, hm]
          · rw [HR.out.1]; exact (fin_hasR HZ.out _ _ _).below (alloc_below _ _)
          · rw [HR.out.2.1, hm]
            exact (has_store HL.out (fun a ea h0 s => HO.out (by rw [len_vals]; exact h0) a ea (.inr s)) _ _ _).below (alloc_below _ _)
end Go.Proofs.Ytejghoncihdfkaa.Ep
