/- What the statements' model does: the document's answer to an act. -/
import Derived.Test.YtejghoncihdfkaaEpRNew
namespace Go.Proofs.Ytejghoncihdfkaa.Ep
open Go.RowKit

theorem ret_em {v : Value} {o : Option Addr} {n m c : Nat} {a b : Int} (h : n = m) (k : a = b) : Ending.returned (.tuple #[v, .slice o n c, .int .i64 a]) = .returned (.tuple #[v, .slice o m c, .int .i64 b]) := by rw [h, k]
/-- Three boxes: epochs, an act, the result's. -/
structure B3 (w wr : World) (n : Int) (y : WE) (a : Ac) : Prop where
  low : Below w.heap.size w wr
  e : InE wr w.heap.size n y
  k0 : wr.cell? ⟨w.heap.size + 1, 0, none⟩ = some (.int .i64 a.kind)
  k1 : wr.cell? ⟨w.heap.size + 1, 1, none⟩ = some (.int .i64 a.core)
  k2 : wr.cell? ⟨w.heap.size + 1, 2, none⟩ = some (.int .i64 a.obj)
  r : InE wr (w.heap.size + 1 + 1) 0 WE.zero
theorem b3_start (w : World) (n : Int) (y : WE) (a : Ac) (T T' : TypeId) : B3 w (((w.alloc (.cells #[.int .i64 n, .slice y.p.o y.p.n y.p.c, .slice y.l.o y.l.n y.l.c] T)).alloc (.cells #[.int .i64 a.kind, .int .i64 a.core, .int .i64 a.obj] T')).alloc (.cells #[.int .i64 0, .slice none 0 0, .slice none 0 0] T)) n y a := by
  have hA : Below w.heap.size w (((w.alloc (.cells #[.int .i64 n, .slice y.p.o y.p.n y.p.c, .slice y.l.o y.l.n y.l.c] T)).alloc (.cells #[.int .i64 a.kind, .int .i64 a.core, .int .i64 a.obj] T')).alloc (.cells #[.int .i64 0, .slice none 0 0, .slice none 0 0] T)) := q_alloc (q_alloc (alloc_below _ _) _) _
  refine ⟨hA, ((inE_new w n y T).below (alloc_below _ _)).below (alloc_below _ _), ?_, ?_, ?_, ?_⟩
  · rw [(alloc_below ((w.alloc (.cells #[.int .i64 n, .slice y.p.o y.p.n y.p.c, .slice y.l.o y.l.n y.l.c] T)).alloc (.cells #[.int .i64 a.kind, .int .i64 a.core, .int .i64 a.obj] T')) _).cell (by simp)]; simp
  · rw [(alloc_below ((w.alloc (.cells #[.int .i64 n, .slice y.p.o y.p.n y.p.c, .slice y.l.o y.l.n y.l.c] T)).alloc (.cells #[.int .i64 a.kind, .int .i64 a.core, .int .i64 a.obj] T')) _).cell (by simp)]; simp
  · rw [(alloc_below ((w.alloc (.cells #[.int .i64 n, .slice y.p.o y.p.n y.p.c, .slice y.l.o y.l.n y.l.c] T)).alloc (.cells #[.int .i64 a.kind, .int .i64 a.core, .int .i64 a.obj] T')) _).cell (by simp)]; simp
  · have h := inE_new ((w.alloc (.cells #[.int .i64 n, .slice y.p.o y.p.n y.p.c, .slice y.l.o y.l.n y.l.c] T)).alloc (.cells #[.int .i64 a.kind, .int .i64 a.core, .int .i64 a.obj] T')) 0 WE.zero T
    have e : ((w.alloc (.cells #[.int .i64 n, .slice y.p.o y.p.n y.p.c, .slice y.l.o y.l.n y.l.c] T)).alloc (.cells #[.int .i64 a.kind, .int .i64 a.core, .int .i64 a.obj] T')).heap.size = w.heap.size + 1 + 1 := by simp
    rw [e] at h
    exact h
theorem B3.below {w wr w' : World} {n : Int} {y : WE} {a : Ac} (h : B3 w wr n y a) (b : Below wr.heap.size wr w') : B3 w w' n y a :=
  ⟨q_trans h.low b, h.e.below b, (b.cell (World.block_lt_of_cell? wr _ h.k0)).trans h.k0, (b.cell (World.block_lt_of_cell? wr _ h.k1)).trans h.k1, (b.cell (World.block_lt_of_cell? wr _ h.k2)).trans h.k2, h.r.below b⟩
theorem fin_hasR {w0 : World} {Av : Nat → Prop} {z : WE} {f : E} {r : Nat} (h : HasE w0 (fun i => Av i ∨ i = r) z f) (u v x : Value) : HasE (((w0.setCell ⟨r, 0, none⟩ u).setCell ⟨r, 1, none⟩ v).setCell ⟨r, 2, none⟩ x) Av z f :=
  (h.kept (kept_store w0 _ u v x) (fun _ s => .inr s)).less (fun _ s => .inl s)
theorem fin_lowR {w w0 : World} {r : Nat} (h : Below w.heap.size w w0) (hr : w.heap.size ≤ r) (u v x : Value) : Below w.heap.size w (((w0.setCell ⟨r, 0, none⟩ u).setCell ⟨r, 1, none⟩ v).setCell ⟨r, 2, none⟩ x) :=
  q_set (q_set (q_set h hr _) hr _) hr _
theorem arg_hasR {w w0 : World} {Av : Nat → Prop} {y : WE} {e : E} {r : Nat} (h : HasE w Av y e) (hb : Below w.heap.size w w0) (hr : w.heap.size ≤ r) : HasE w0 (fun i => Av i ∨ i = r) y e :=
  (h.new.less (fun i s => by rcases s with s | s; exact .inl s; exact .inr (by omega))).below hb
theorem arg_ltR {w w0 : World} {Av : Nat → Prop} {r : Nat} (hA : ∀ i, Av i → i < w.heap.size) (hb : w.heap.size ≤ w0.heap.size) (hr : r < w0.heap.size) : ∀ i, (Av i ∨ i = r) → i < w0.heap.size := by
  intro i s
  rcases s with s | s
  · have := hA i s; omega
  · omega
theorem now_pin (e : E) (c : Int) : (pinA e c).now = e.now := by unfold pinA; split <;> rfl
theorem now_un (e : E) (c : Int) : (unA e c).now = e.now := by unfold unA; split <;> rfl
theorem now_re (e : E) (c o : Int) : (reA e c o).now = e.now := by unfold reA; split <;> rfl
theorem now_rp (e : E) (c : Int) : (rpA e c).now = e.now := by unfold rpA; split <;> rfl
/-- A list's row stays, where the result's box is written. -/
theorem has_store {w0 : World} {r : Nat} {o : Option Addr} {m c : Nat} {l : List Int} (h : Has w0 o m c l) (hr : ∀ a, o = some a → 0 < l.length → a.block ≠ r) (u v x : Value) : Has (((w0.setCell ⟨r, 0, none⟩ u).setCell ⟨r, 1, none⟩ v).setCell ⟨r, 2, none⟩ x) o m c l :=
  h.kept (kept_store w0 r u v x) (fun h0 a e s => hr a e (by rw [len_vals] at h0; exact h0) s)

set_option maxRecDepth 100000 in
set_option maxHeartbeats 4000000 in
theorem model_any (y : WE) (e : E) (a : Ac) (Av : Nat → Prop) (w : World) (hA : Hid (∀ i, Av i → i < w.heap.size)) (HS : Hid (Sm e)) (HE : Hid (HasE w Av y e)) :
    Calls Try.prog 12 #[(.agg #[.int .i64 e.now, .slice y.p.o y.p.n y.p.c, .slice y.l.o y.l.n y.l.c]), (.agg #[.int .i64 a.kind, .int .i64 a.core, .int .i64 a.obj])] w fun r w' => ∃ (z : WE) (o : Option Addr) (cp : Nat), r = .returned (.tuple #[(.agg #[.int .i64 (doE e a).now, .slice z.p.o z.p.n z.p.c, .slice z.l.o z.l.n z.l.c]), .slice o (doL e a).length cp, .int .i64 (doN e a)]) ∧ HasE w' Av z (doE e a) ∧ Has w' o (doL e a).length cp (doL e a) ∧ Below w.heap.size w w' := by
  obtain ⟨n, hn⟩ : ∃ n, e.now = n := ⟨_, rfl⟩
  by_cases h0 : a.kind = 0
  · skip
    have HR : Hid (doE e a = pinA e a.core ∧ doL e a = [] ∧ doN e a = pinE e a.core) := by
      refine ⟨?_, ?_, ?_⟩
      · simp [doE, h0]
      · simp [doL, h0]
      · simp [doN, h0]
    have b0 := beq_yes h0
    have HC := hid (fun (wm : World) (Av' : Nat → Prop) (hA' : ∀ i, Av' i → i < wm.heap.size) (h : HasE wm Av' y e) => rPin_any y e a.core Av' wm hA' HS h)
    have HN2 : Hid ((pinA e a.core).now = n) := (now_pin e a.core).trans hn
    rw [hn] at HC ⊢
    clear hn h0
    go_enter Try.func12, Try.ntmps12
    go_wp2_with fail
    have HB := hid (b3_start w n y a 25 27)
    generalize (((w.alloc (.cells #[.int .i64 n, .slice y.p.o y.p.n y.p.c, .slice y.l.o y.l.n y.l.c] 25)).alloc (.cells #[.int .i64 a.kind, .int .i64 a.core, .int .i64 a.obj] 27)).alloc (.cells #[.int .i64 0, .slice none 0 0, .slice none 0 0] 25)) = w0 at HB ⊢
    refine (HC.out _ (fun i => Av i ∨ i = w.heap.size + 1 + 1) (arg_ltR hA.out HB.out.low.size HB.out.r.lt) (arg_hasR HE.out HB.out.low (by omega))).mono ?_
    rintro r w1 ⟨z, rfl, hz, b1⟩
    have HZ := hid hz
    have HB1 := hid (HB.out.below b1)
    have hlt : w.heap.size + 1 + 1 < w1.heap.size := HB1.out.r.lt
    obtain ⟨z0, z1, z2, zf⟩ := HB1.out.r
    clear b1 hz
    generalize hm : pinE e a.core = m at HR ⊢
    go_wp2_with fail
    refine bodyPost_ret (v := .tuple #[(.agg #[.int .i64 n, .slice z.p.o z.p.n z.p.c, .slice z.l.o z.l.n z.l.c]), .slice none 0 0, .int .i64 m]) (by simp [results, Try.results12, go_sem, *]) rfl ⟨z, none, 0, ?_, ?_, ?_, q_alloc (fin_lowR HB1.out.low (by omega) _ _ _) _⟩
    · rw [HR.out.1, HR.out.2.1, HR.out.2.2, HN2.out]; rfl
    · rw [HR.out.1]; exact (fin_hasR HZ.out _ _ _).below (alloc_below _ _)
    · rw [HR.out.2.1]; exact has_nil _
  · skip
    by_cases h1 : a.kind = 1
    · skip
      have HR : Hid (doE e a = unA e a.core ∧ doL e a = [] ∧ doN e a = unE e a.core) := by
        refine ⟨?_, ?_, ?_⟩
        · simp [doE, h1]
        · simp [doL, h1]
        · simp [doN, h1]
      have b0 := beq_no h0
      have b1 := beq_yes h1
      have HC := hid (fun (wm : World) (Av' : Nat → Prop) (hA' : ∀ i, Av' i → i < wm.heap.size) (h : HasE wm Av' y e) => rUnpin_any y e a.core Av' wm hA' HS h)
      have HN2 : Hid ((unA e a.core).now = n) := (now_un e a.core).trans hn
      rw [hn] at HC ⊢
      clear hn h0 h1
      go_enter Try.func12, Try.ntmps12
      go_wp2_with fail
      have HB := hid (b3_start w n y a 25 27)
      generalize (((w.alloc (.cells #[.int .i64 n, .slice y.p.o y.p.n y.p.c, .slice y.l.o y.l.n y.l.c] 25)).alloc (.cells #[.int .i64 a.kind, .int .i64 a.core, .int .i64 a.obj] 27)).alloc (.cells #[.int .i64 0, .slice none 0 0, .slice none 0 0] 25)) = w0 at HB ⊢
      refine (HC.out _ (fun i => Av i ∨ i = w.heap.size + 1 + 1) (arg_ltR hA.out HB.out.low.size HB.out.r.lt) (arg_hasR HE.out HB.out.low (by omega))).mono ?_
      rintro r w1 ⟨z, rfl, hz, b1⟩
      have HZ := hid hz
      have HB1 := hid (HB.out.below b1)
      have hlt : w.heap.size + 1 + 1 < w1.heap.size := HB1.out.r.lt
      obtain ⟨z0, z1, z2, zf⟩ := HB1.out.r
      clear b1 hz
      generalize hm : unE e a.core = m at HR ⊢
      go_wp2_with fail
      refine bodyPost_ret (v := .tuple #[(.agg #[.int .i64 n, .slice z.p.o z.p.n z.p.c, .slice z.l.o z.l.n z.l.c]), .slice none 0 0, .int .i64 m]) (by simp [results, Try.results12, go_sem, *]) rfl ⟨z, none, 0, ?_, ?_, ?_, q_alloc (fin_lowR HB1.out.low (by omega) _ _ _) _⟩
      · rw [HR.out.1, HR.out.2.1, HR.out.2.2, HN2.out]; rfl
      · rw [HR.out.1]; exact (fin_hasR HZ.out _ _ _).below (alloc_below _ _)
      · rw [HR.out.2.1]; exact has_nil _
    · skip
      by_cases h2 : a.kind = 2
      · skip
        have HR : Hid (doE e a = reA e a.core a.obj ∧ doL e a = [] ∧ doN e a = reE e a.core a.obj) := by
          refine ⟨?_, ?_, ?_⟩
          · simp [doE, h2]
          · simp [doL, h2]
          · simp [doN, h2]
        have b0 := beq_no h0
        have b1 := beq_no h1
        have b2 := beq_yes h2
        have HC := hid (fun (wm : World) (Av' : Nat → Prop) (hA' : ∀ i, Av' i → i < wm.heap.size) (h : HasE wm Av' y e) => rRet_any y e a.core a.obj Av' wm hA' HS h)
        have HN2 : Hid ((reA e a.core a.obj).now = n) := (now_re e a.core a.obj).trans hn
        rw [hn] at HC ⊢
        clear hn h0 h1 h2
        go_enter Try.func12, Try.ntmps12
        go_wp2_with fail
        have HB := hid (b3_start w n y a 25 27)
        generalize (((w.alloc (.cells #[.int .i64 n, .slice y.p.o y.p.n y.p.c, .slice y.l.o y.l.n y.l.c] 25)).alloc (.cells #[.int .i64 a.kind, .int .i64 a.core, .int .i64 a.obj] 27)).alloc (.cells #[.int .i64 0, .slice none 0 0, .slice none 0 0] 25)) = w0 at HB ⊢
        refine (HC.out _ (fun i => Av i ∨ i = w.heap.size + 1 + 1) (arg_ltR hA.out HB.out.low.size HB.out.r.lt) (arg_hasR HE.out HB.out.low (by omega))).mono ?_
        rintro r w1 ⟨z, rfl, hz, b1⟩
        have HZ := hid hz
        have HB1 := hid (HB.out.below b1)
        have hlt : w.heap.size + 1 + 1 < w1.heap.size := HB1.out.r.lt
        obtain ⟨z0, z1, z2, zf⟩ := HB1.out.r
        clear b1 hz
        generalize hm : reE e a.core a.obj = m at HR ⊢
        go_wp2_with fail
        refine bodyPost_ret (v := .tuple #[(.agg #[.int .i64 n, .slice z.p.o z.p.n z.p.c, .slice z.l.o z.l.n z.l.c]), .slice none 0 0, .int .i64 m]) (by simp [results, Try.results12, go_sem, *]) rfl ⟨z, none, 0, ?_, ?_, ?_, q_alloc (fin_lowR HB1.out.low (by omega) _ _ _) _⟩
        · rw [HR.out.1, HR.out.2.1, HR.out.2.2, HN2.out]; rfl
        · rw [HR.out.1]; exact (fin_hasR HZ.out _ _ _).below (alloc_below _ _)
        · rw [HR.out.2.1]; exact has_nil _
      · skip
        by_cases h3 : a.kind = 3
        · skip
          have HR : Hid (doE e a = adA e ∧ doL e a = [] ∧ doN e a = (if adB e then 1000 else 0)) := by
            refine ⟨?_, ?_, ?_⟩
            · simp [doE, h3]
            · simp [doL, h3]
            · simp [doN, h3]
          have b0 := beq_no h0
          have b1 := beq_no h1
          have b2 := beq_no h2
          have b3 := beq_yes h3
          have HC := hid (fun (wm : World) (Av' : Nat → Prop) (_ : ∀ i, Av' i → i < wm.heap.size) (h : HasE wm Av' y e) => rAdv_any y e Av' wm HS h)
          have HN2 : Hid ((adA e).now = (adA e).now) := rfl
          rw [hn] at HC ⊢
          clear hn h0 h1 h2 h3
          go_enter Try.func12, Try.ntmps12
          go_wp2_with fail
          have HB := hid (b3_start w n y a 25 27)
          generalize (((w.alloc (.cells #[.int .i64 n, .slice y.p.o y.p.n y.p.c, .slice y.l.o y.l.n y.l.c] 25)).alloc (.cells #[.int .i64 a.kind, .int .i64 a.core, .int .i64 a.obj] 27)).alloc (.cells #[.int .i64 0, .slice none 0 0, .slice none 0 0] 25)) = w0 at HB ⊢
          refine (HC.out _ (fun i => Av i ∨ i = w.heap.size + 1 + 1) (arg_ltR hA.out HB.out.low.size HB.out.r.lt) (arg_hasR HE.out HB.out.low (by omega))).mono ?_
          rintro r w1 ⟨z, rfl, hz, b1⟩
          have HZ := hid hz
          have HB1 := hid (HB.out.below b1)
          have hlt : w.heap.size + 1 + 1 < w1.heap.size := HB1.out.r.lt
          obtain ⟨z0, z1, z2, zf⟩ := HB1.out.r
          clear b1 hz
          cases hb : adB e with
          | true =>
            generalize hm : (adA e).now = m at HZ HN2 ⊢
            rw [hb] at HR
            go_wp2_with fail
            refine bodyPost_ret (v := .tuple #[(.agg #[.int .i64 m, .slice z.p.o z.p.n z.p.c, .slice z.l.o z.l.n z.l.c]), .slice none 0 0, .int .i64 1000]) (by simp [results, Try.results12, go_sem, *]) rfl ⟨z, none, 0, ?_, ?_, ?_, q_alloc (fin_lowR HB1.out.low (by omega) _ _ _) _⟩
            · rw [HR.out.1, HR.out.2.1, HR.out.2.2, hm]; rfl
            · rw [HR.out.1]; exact (fin_hasR HZ.out _ _ _).below (alloc_below _ _)
            · rw [HR.out.2.1]; exact has_nil _
          | false =>
            generalize hm : (adA e).now = m at HZ HN2 ⊢
            rw [hb] at HR
            go_wp2_with fail
            refine bodyPost_ret (v := .tuple #[(.agg #[.int .i64 m, .slice z.p.o z.p.n z.p.c, .slice z.l.o z.l.n z.l.c]), .slice none 0 0, .int .i64 0]) (by simp [results, Try.results12, go_sem, *]) rfl ⟨z, none, 0, ?_, ?_, ?_, q_alloc (fin_lowR HB1.out.low (by omega) _ _ _) _⟩
            · rw [HR.out.1, HR.out.2.1, HR.out.2.2, hm]; rfl
            · rw [HR.out.1]; exact (fin_hasR HZ.out _ _ _).below (alloc_below _ _)
            · rw [HR.out.2.1]; exact has_nil _
        · skip
          have HR : Hid (doE e a = rpA e a.core ∧ doL e a = rpL e a.core ∧ doN e a = 0) := by
            refine ⟨?_, ?_, ?_⟩
            · simp [doE, h0, h1, h2, h3]
            · simp [doL, h0, h1, h2, h3]
            · simp [doN, h0, h1, h2, h3]
          have b0 := beq_no h0
          have b1 := beq_no h1
          have b2 := beq_no h2
          have b3 := beq_no h3
          have HC := hid (fun (wm : World) (Av' : Nat → Prop) (hA' : ∀ i, Av' i → i < wm.heap.size) (h : HasE wm Av' y e) => rReap_any y e a.core Av' wm hA' HS h)
          have HN2 : Hid ((rpA e a.core).now = n) := (now_rp e a.core).trans hn
          rw [hn] at HC ⊢
          clear hn h0 h1 h2 h3
          go_enter Try.func12, Try.ntmps12
          go_wp2_with fail
          have HB := hid (b3_start w n y a 25 27)
          generalize (((w.alloc (.cells #[.int .i64 n, .slice y.p.o y.p.n y.p.c, .slice y.l.o y.l.n y.l.c] 25)).alloc (.cells #[.int .i64 a.kind, .int .i64 a.core, .int .i64 a.obj] 27)).alloc (.cells #[.int .i64 0, .slice none 0 0, .slice none 0 0] 25)) = w0 at HB ⊢
          refine (HC.out _ (fun i => Av i ∨ i = w.heap.size + 1 + 1) (arg_ltR hA.out HB.out.low.size HB.out.r.lt) (arg_hasR HE.out HB.out.low (by omega))).mono ?_
          rintro r w1 ⟨z, oL, cL, rfl, hz, hl, ho, b1⟩
          have HZ := hid hz
          have HL := hid hl
          have HO := hid ho
          have HB1 := hid (HB.out.below b1)
          have hlt : w.heap.size + 1 + 1 < w1.heap.size := HB1.out.r.lt
          obtain ⟨z0, z1, z2, zf⟩ := HB1.out.r
          clear b1 hz hl ho
          generalize hm : (rpL e a.core).length = m at HL ⊢
          go_wp2_with fail
          refine bodyPost_ret (v := .tuple #[(.agg #[.int .i64 n, .slice z.p.o z.p.n z.p.c, .slice z.l.o z.l.n z.l.c]), .slice oL m cL, .int .i64 0]) (by simp [results, Try.results12, go_sem, *]) rfl ⟨z, oL, cL, ?_, ?_, ?_, q_alloc (fin_lowR HB1.out.low (by omega) _ _ _) _⟩
          · rw [HR.out.1, HR.out.2.1, HR.out.2.2, HN2.out, hm]
          · rw [HR.out.1]; exact (fin_hasR HZ.out _ _ _).below (alloc_below _ _)
          · rw [HR.out.2.1, hm]
            exact (has_store HL.out (fun a ea h0 s => HO.out (by rw [len_vals]; exact h0) a ea (.inr s)) _ _ _).below (alloc_below _ _)
end Go.Proofs.Ytejghoncihdfkaa.Ep
