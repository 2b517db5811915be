/- What the document's Reap does. -/
import Derived.Test.YtejghoncihdfkaaEpRRet
namespace Go.Proofs.Ytejghoncihdfkaa.Ep
open Go.RowKit

theorem own_ne {w : World} {B B' n n' size size' : Nat} {e e' : TypeId} {v v' : Value} {cs cs' : List Value} (h : w.ownsRow B e size v n cs) (h' : w.ownsRow B' e' size' v' n' cs') (he : e ≠ e') {k : Nat} (hk : v.ownBlock = some k) (hk' : v'.ownBlock = some k) : False := by
  rcases h.2 with ⟨rfl, _⟩ | ⟨g, cap, cur, rfl, _, hg, _⟩
  · cases hk
  · rcases h'.2 with ⟨rfl, _⟩ | ⟨g', cap', cur', rfl, _, hg', _⟩
    · cases hk'
    · cases hk
      cases hk'
      rw [hg] at hg'
      injection hg' with h1
      injection h1 with _ h2
      exact he h2
theorem InE.upto {w w' : World} {B b : Nat} {n : Int} {y : WE} (h : InE w b n y) (k : Below B w w') (hb : b < B) : InE w' b n y :=
  ⟨(k.cell (p := ⟨b, 0, none⟩) hb).trans h.c0, (k.cell (p := ⟨b, 1, none⟩) hb).trans h.c1, (k.cell (p := ⟨b, 2, none⟩) hb).trans h.c2, fun i => (k.frozen (p := ⟨b, i, none⟩) hb).trans (h.f i)⟩
theorem B2.upto {w wr w' : World} {n m : Int} {y z : WE} (h : B2 w wr n m y z) (k : Below (w.heap.size + 2) wr w') : B2 w w' n m y z :=
  ⟨h.low.trans (k.mono (by omega)), h.a.upto k (by omega), h.b.upto k (by omega)⟩
theorem one_int (w : World) (x : Int) (T : TypeId) : Row (w.alloc (.cells #[.int .i64 x] T)) (some ⟨w.heap.size, 0, none⟩) (vals [x]) := by
  refine ⟨fun j u hu => ⟨_, rfl, ?_⟩⟩
  match j, hu with
  | 0, hu => simp [vals] at hu; subst hu; simp [Addr.add]
/-- What was reaped, what is left, of the first i. -/
def outs (n : Int) (l : List W) (i : Nat) : List Int := ((l.take i).filter (fun a => decide (a.2 ≤ n - 2))).map (·.1)
def lefts (n : Int) (l : List W) (i : Nat) : List W := (l.take i).filter (fun a => !decide (a.2 ≤ n - 2))
theorem wtake_snoc {l : List W} {k : Nat} (h : k < l.length) : l.take (k + 1) = l.take k ++ [l.getD k (0, 0)] := by
  rw [List.take_add_one]
  simp [List.getD, h]
theorem outs_yes {n : Int} {l : List W} {i : Nat} {z : W} (hi : i < l.length) (hz : l.getD i (0, 0) = z) (h : z.2 ≤ n - 2) : outs n l (i + 1) = outs n l i ++ [z.1] ∧ lefts n l (i + 1) = lefts n l i := by
  unfold outs lefts
  rw [wtake_snoc hi, hz]
  simp [h]
theorem outs_no {n : Int} {l : List W} {i : Nat} {z : W} (hi : i < l.length) (hz : l.getD i (0, 0) = z) (h : ¬ z.2 ≤ n - 2) : outs n l (i + 1) = outs n l i ∧ lefts n l (i + 1) = lefts n l i ++ [z] := by
  unfold outs lefts
  rw [wtake_snoc hi, hz]
  simp [h]
theorem outs_all {e : E} {c : Int} (h : coB e c = true) {l : List W} (hl : limOf e c = l) {i : Nat} (hi : l.length ≤ i) : rpL e c = outs e.now l i ∧ rpA e c = setL e c (lefts e.now l i) := by
  unfold outs lefts rpL rpA
  rw [List.take_of_length_le hi, if_pos h, if_pos h, hl]
  exact ⟨rfl, rfl⟩
/-- While the list is gone over. -/
structure Rq (w wr : World) (n : Int) (y : WE) (l : List W) (i : Nat) (oo : Option Addr) (on oc : Nat) (fo : Option Addr) (fn fc : Nat) : Prop where
  box : B2 w wr n 0 y WE.zero
  out : wr.ownsRow (w.heap.size + 2) 3 1 (.slice oo on oc) on (vals (outs n l i))
  left : wr.ownsRow (w.heap.size + 2) 51 2 (.slice fo fn fc) fn (wts (lefts n l i))
  s1 : on ≤ i
  s2 : fn ≤ i
theorem tne : (3 : TypeId) ≠ 51 := by decide
section
variable {w wr wm w3 : World} {n : Int} {y : WE} {l : List W} {i : Nat} {oo : Option Addr} {on oc : Nat} {fo : Option Addr} {fn fc : Nat} {z : W}
theorem Rq.below (h : Rq w wr n y l i oo on oc fo fn fc) (b : Below wr.heap.size wr wm) : Rq w wm n y l i oo on oc fo fn fc := ⟨h.box.below b, own_below h.out b, own_below h.left b, h.s1, h.s2⟩
theorem rq_start (h : B2 w wr n 0 y WE.zero) : Rq w wr n y l 0 none 0 0 none 0 0 := ⟨h, World.ownsRow_nil _ _ _ _, World.ownsRow_nil _ _ _ _, Nat.le_refl _, Nat.le_refl _⟩
theorem Rq.base (h : Rq w wr n y l i oo on oc fo fn fc) : w.heap.size + 2 ≤ wr.heap.size := h.box.b.lt
theorem Rq.more {ao3 : Option Addr} {cap3 : Nat} (h : Rq w wm n y l i oo on oc fo fn fc) (hi : i < l.length) (hz : l.getD i (0, 0) = z) (hg : z.2 ≤ n - 2)
    (own3 : w3.ownsRow (w.heap.size + 2) 3 1 (.slice ao3 (on + 1) cap3) (on + 1) (vals (outs n l i) ++ vals [z.1])) (grow : wm.grownBy w3 (Value.ownBlock (.slice oo on oc))) : Rq w w3 n y l (i + 1) ao3 (on + 1) cap3 fo fn fc := by
  have hb : Below (w.heap.size + 2) wm w3 := (Below.refl _ wm).grown grow h.base (fun k e => (h.out.lt k e).1)
  obtain ⟨e1, e2⟩ := outs_yes hi hz hg
  refine ⟨h.box.upto hb, ?_, ?_, Nat.succ_le_succ h.s1, Nat.le_succ_of_le h.s2⟩
  · rw [e1, show vals (outs n l i ++ [z.1]) = vals (outs n l i) ++ vals [z.1] by simp]; exact own3
  · rw [e2]
    exact own_kept h.left (kept_grown grow) (fun k e s => own_ne h.out h.left tne s.symm e)
theorem Rq.stay {ao3 : Option Addr} {cap3 : Nat} (h : Rq w wm n y l i oo on oc fo fn fc) (hi : i < l.length) (hz : l.getD i (0, 0) = z) (hg : ¬ z.2 ≤ n - 2)
    (own3 : w3.ownsRow (w.heap.size + 2) 51 2 (.slice ao3 (fn + 1) cap3) (fn + 1) (wts (lefts n l i) ++ wts [z])) (grow : wm.grownBy w3 (Value.ownBlock (.slice fo fn fc))) : Rq w w3 n y l (i + 1) oo on oc ao3 (fn + 1) cap3 := by
  have hb : Below (w.heap.size + 2) wm w3 := (Below.refl _ wm).grown grow h.base (fun k e => (h.left.lt k e).1)
  obtain ⟨e1, e2⟩ := outs_no hi hz hg
  refine ⟨h.box.upto hb, ?_, ?_, Nat.le_succ_of_le h.s1, Nat.succ_le_succ h.s2⟩
  · rw [e1]
    exact own_kept h.out (kept_grown grow) (fun k e s => own_ne h.out h.left tne e s.symm)
  · rw [e2, wts_app]; exact own3
end
theorem ret_es {v : Value} {o : Option Addr} {n m c : Nat} (h : n = m) : Ending.returned (.tuple #[v, .slice o n c]) = .returned (.tuple #[v, .slice o m c]) := by rw [h]
set_option maxRecDepth 100000 in
set_option maxHeartbeats 4000000 in
theorem rReap_any (y : WE) (e : E) (c : Int) (Av : Nat → Prop) (w : World) (hA : Hid (∀ i, Av i → i < w.heap.size)) (HS : Hid (Sm e)) (HE : Hid (HasE w Av y e)) :
    Calls Try.prog 30 #[(.agg #[.int .i64 e.now, .slice y.p.o y.p.n y.p.c, .slice y.l.o y.l.n y.l.c]), .int .i64 c] w fun r w' => ∃ (z : WE) (o : Option Addr) (cp : Nat), r = .returned (.tuple #[(.agg #[.int .i64 e.now, .slice z.p.o z.p.n z.p.c, .slice z.l.o z.l.n z.l.c]), .slice o (rpL e c).length cp]) ∧ HasE w' Av z (rpA e c) ∧ Has w' o (rpL e c).length cp (rpL e c) ∧ Off Av o (vals (rpL e c)) ∧ Below w.heap.size w w' := by
  obtain ⟨⟨po, P, pc⟩, ⟨lo, L, lc⟩⟩ := y
  have HP : Hid (L = e.lim.length) := HE.out.ln
  cases hco : coB e c with
  | false =>
    have HR := hid (rp_same hco)
    have HI := hid (fun (W : World) (h : HasE W Av ⟨⟨po, P, pc⟩, ⟨lo, L, lc⟩⟩ e) => is_rcore HS.out h hco)
    clear hco
    generalize e.now = n at HI ⊢
    go_enter Try.func30, Try.ntmps30
    go_wp2_with fail
    have HB : Hid (B2 w ((w.alloc (.cells #[.int .i64 n, .slice po P pc, .slice lo L lc] 25)).alloc (.cells #[.int .i64 0, .slice none 0 0, .slice none 0 0] 25)) n 0 ⟨⟨po, P, pc⟩, ⟨lo, L, lc⟩⟩ WE.zero) := b2_start w n 0 ⟨⟨po, P, pc⟩, ⟨lo, L, lc⟩⟩ WE.zero 25
    refine (HI.out _ (HE.out.below HB.out.low)).mono ?_
    rintro r w1 ⟨rfl, b1⟩
    replace HB := hid (HB.out.below b1)
    clear b1
    obtain ⟨x0, x1, x2, xf⟩ := HB.out.a
    obtain ⟨z0, z1, z2, zf⟩ := HB.out.b
    have hb1 : w.heap.size < w1.heap.size := HB.out.a.lt
    have hb2 : w.heap.size + 1 < w1.heap.size := HB.out.b.lt
    go_wp2_with fail
    refine bodyPost_ret (v := .tuple #[.agg #[.int .i64 n, .slice po P pc, .slice lo L lc], .slice none 0 0]) (by simp [results, Try.results30, go_sem, *]) rfl ⟨⟨⟨po, P, pc⟩, ⟨lo, L, lc⟩⟩, none, 0, by rw [HR.out.2]; rfl, ?_, ?_, fun _ _ h => (by cases h), fin_low HB.out.low _ _ _⟩
    · rw [HR.out.1]
      exact fin_has (arg_has HE.out HB.out.low) _ _ _
    · rw [HR.out.2]; exact has_nil _
  | true =>
    obtain ⟨hok, c0, c1⟩ := co_iff.1 hco
    have HLe := hid hok.len
    have n1 : 1 ≤ e.now := hok.now1
    have n2 : e.now ≤ 1099511627776 := hok.now2
    obtain ⟨k, rfl⟩ : ∃ k : Nat, c = (k : Int) := ⟨c.toNat, by omega⟩
    have hkL : k < L := by have := HP.out; have := HLe.out; omega
    have i1 : (0 : Int) ≤ (k : Int) := by omega
    have i2 : (k : Int) < (L : Int) := by omega
    have HI := hid (fun (W : World) (h : HasE W Av ⟨⟨po, P, pc⟩, ⟨lo, L, lc⟩⟩ e) => is_rcore HS.out h hco)
    have HLi := hid (fun (W : World) (h : HasE W Av ⟨⟨po, P, pc⟩, ⟨lo, L, lc⟩⟩ e) => h.list k (by have := HP.out; omega))
    obtain ⟨l, hl⟩ : ∃ l, e.lim.getD k [] = l := ⟨_, rfl⟩
    have hl30 : l.length ≤ 30 := by rw [← hl]; exact HS.out.each k (by have := HP.out; omega)
    have HRs := hid (fun i hi => outs_all hco (show limOf e (k : Int) = l by unfold limOf; simpa using hl) (i := i) hi)
    rw [hl] at HLi
    have HLm := hid (fun (wm : World) (Av' : Nat → Prop) (hA' : ∀ i, Av' i → i < wm.heap.size) (x : Hd) (ll : List W) (h : HasE wm Av' ⟨⟨po, P, pc⟩, ⟨lo, L, lc⟩⟩ e) (hx : HasW wm x.o x.n x.c ll) (hxo : Off Av' x.o (wts ll)) => rlimbo_any po lo P L pc lc k e x ll Av' wm hA' HS h hkL hx hxo)
    clear hco hok hl
    generalize e.now = n at HI HRs HLm n1 n2 ⊢
    go_enter Try.func30, Try.ntmps30
    go_wp2_with fail
    have HB : Hid (B2 w ((w.alloc (.cells #[.int .i64 n, .slice po P pc, .slice lo L lc] 25)).alloc (.cells #[.int .i64 0, .slice none 0 0, .slice none 0 0] 25)) n 0 ⟨⟨po, P, pc⟩, ⟨lo, L, lc⟩⟩ WE.zero) := b2_start w n 0 ⟨⟨po, P, pc⟩, ⟨lo, L, lc⟩⟩ WE.zero 25
    refine (HI.out _ (HE.out.below HB.out.low)).mono ?_
    rintro r w1 ⟨rfl, b1⟩
    replace HB := hid (HB.out.below b1)
    clear b1
    obtain ⟨b, lo', m, lc', eb, cb, hw, _⟩ := HLi.out w HE.out
    obtain rfl : lo = some b := eb
    have HWk := hid hw
    have hm : m = l.length := hw.len
    have hm30 : m ≤ 30 := by omega
    have HM := hid hm
    have HCB := hid (fun (wx : World) (hx : Below w.heap.size w wx) => (hx.cell (World.block_lt_of_cell? _ _ cb)).trans cb)
    clear hw hm hl30 cb
    obtain ⟨x0, x1, x2, xf⟩ := HB.out.a
    go_wp2_with fail
    clear x0 x1 x2 xf
    go_loopw [6, 7, 8] (fun s6 s7 s8 wr => ∃ (i on oc fn fc : Nat) (oo fo : Option Addr), i ≤ m ∧ s6 = .slice oo on oc ∧ s7 = .slice fo fn fc ∧ s8 = .int .i64 i ∧ Hid (Rq w wr n ⟨⟨po, P, pc⟩, ⟨some b, L, lc⟩⟩ l i oo on oc fo fn fc)) (fun _ _ s _ => m - (intOf s).toNat)
    case atStart => exact ⟨0, 0, 0, 0, 0, none, none, Nat.zero_le _, rfl, rfl, rfl, rq_start HB.out⟩
    case round =>
      obtain ⟨i, on, oc, fn, fc, oo, fo, hi, rfl, rfl, rfl, HQ⟩ := hrel
      obtain ⟨x0, x1, x2, xf⟩ := HQ.out.box.a
      have cb := HCB.out wr HQ.out.box.low
      by_cases hlt : i < m
      · have j1 : (0 : Int) ≤ (i : Int) := by omega
        have j2 : (i : Int) < (m : Int) := by omega
        obtain ⟨a2, e3, cz⟩ := atW_of (HWk.out.row.below HQ.out.box.low) i (by have := HM.out; omega)
        subst e3
        obtain ⟨z, hz⟩ : ∃ z, l.getD i (0, 0) = z := ⟨_, rfl⟩
        rw [hz] at cz
        have HZ := hid hz
        clear hz
        obtain ⟨c0, c1⟩ := cz
        have hzn : IntKind.i64.wrap (n - 2) = n - 2 := by rw [IntKind.wrap_i64]; omega
        by_cases hg : z.2 ≤ n - 2
        · have d : decide (z.2 ≤ n - 2) = true := by simp [hg]
          have HG := hid hg
          go_wp2_with fail
          go_quiet (fail)
          have HQ2 := hid (HQ.out.below (q_drewN (Below.refl _ _) nq))
          obtain ⟨wd, hwd⟩ : ∃ wd, wr.drewN nq = wd := ⟨_, rfl⟩
          rw [hwd] at HQ2
          clear x0 x1 x2 xf cb c0 c1 hg
          obtain ⟨x0, x1, x2, xf⟩ := HQ2.out.box.a
          have cb := HCB.out wd HQ2.out.box.low
          obtain ⟨a3, e4, c0, c1⟩ := atW_of (HWk.out.row.below HQ2.out.box.low) i (by have := HM.out; omega)
          cases e4
          rw [HZ.out] at c0 c1
          have HO := hid (own_below HQ2.out.out (alloc_below wd (.cells #[.int .i64 z.1] 3)))
          have HRw := hid (one_int wd z.1 3)
          have HBs : Hid (w.heap.size + 2 ≤ (wd.alloc (.cells #[.int .i64 z.1] 3)).heap.size) := Nat.le_trans HQ2.out.base (alloc_below _ _).size
          have HSm : Hid (on ≤ 30) := Nat.le_trans HQ2.out.s1 (by omega)
          rw [hwd]
          clear hwd
          go_wp2_with (at_builtin; go_loud (refine wpList_append_row _ rfl (.tmp 37) (.tmp 47) 30 3 _ 1 8 rfl Try.underlying30 infoN rfl (by decide) (by decide) (w.heap.size + 2) _ on (vals (outs n l i)) rfl HO.out _ 1 1 (vals [z.1]) rfl rfl (fun h => by cases h) HRw.out (vals_one _) (by have := HSm.out; omega) HBs.out ?_; intro ao3 cap3 w3 own3 grow3; apply Hid.out))
          have HQ3 := hid ((HQ2.out.below (alloc_below wd (.cells #[.int .i64 z.1] 3))).more (by have := HM.out; omega) HZ.out HG.out own3 grow3)
          clear own3 grow3 HO HRw HBs
          unfold Hid
          go_wp2_with fail
          go_roundw
          case rel => exact ⟨i + 1, on + 1, cap3, fn, fc, ao3, fo, by omega, rfl, rfl, by go_num, HQ3⟩
          case measure => simp [intOf]; omega
        · have d : decide (z.2 ≤ n - 2) = false := by simp; omega
          have HG := hid hg
          clear hg
          go_wp2_with fail
          go_quiet (fail)
          have HQ2 := hid (HQ.out.below (q_drewN (Below.refl _ _) nq))
          obtain ⟨wd, hwd⟩ : ∃ wd, wr.drewN nq = wd := ⟨_, rfl⟩
          rw [hwd] at HQ2
          clear x0 x1 x2 xf cb c0 c1
          obtain ⟨x0, x1, x2, xf⟩ := HQ2.out.box.a
          have cb := HCB.out wd HQ2.out.box.low
          obtain ⟨a3, e4, c0, c1⟩ := atW_of (HWk.out.row.below HQ2.out.box.low) i (by have := HM.out; omega)
          cases e4
          rw [HZ.out] at c0 c1
          have HO := hid (own_below HQ2.out.left (alloc_below wd (.cells #[.int .i64 z.1, .int .i64 z.2] 51)))
          have HRw := hid (one_waste wd z 51)
          have HBs : Hid (w.heap.size + 2 ≤ (wd.alloc (.cells #[.int .i64 z.1, .int .i64 z.2] 51)).heap.size) := Nat.le_trans HQ2.out.base (alloc_below _ _).size
          have HSm : Hid (fn ≤ 30) := Nat.le_trans HQ2.out.s2 (by omega)
          rw [hwd]
          clear hwd
          go_wp2_with (at_builtin; go_loud (refine wpList_append_row _ rfl (.tmp 49) (.tmp 58) 49 51 _ 2 16 rfl Try.underlying49 infoW rfl (by decide) (by decide) (w.heap.size + 2) _ fn (wts (lefts n l i)) rfl HO.out _ 1 1 (wts [z]) rfl rfl (fun h => by cases h) HRw.out (wts_one _) (by have := HSm.out; omega) HBs.out ?_; intro ao3 cap3 w3 own3 grow3; apply Hid.out))
          have HQ3 := hid ((HQ2.out.below (alloc_below wd (.cells #[.int .i64 z.1, .int .i64 z.2] 51))).stay (by have := HM.out; omega) HZ.out (by have := HG.out; omega) own3 grow3)
          clear own3 grow3 HO HRw HBs
          unfold Hid
          go_wp2_with fail
          go_roundw
          case rel => exact ⟨i + 1, on, oc, fn + 1, cap3, oo, ao3, by omega, rfl, rfl, by go_num, HQ3⟩
          case measure => simp [intOf]; omega
      · have HR := hid (HRs.out i (by have := HM.out; omega))
        have HLn : Hid (on = (outs n l i).length ∧ fn = (lefts n l i).length) := by
          have h1 := HQ.out.out.1
          have h2 := HQ.out.left.1
          rw [len_vals] at h1
          rw [len_wts] at h2
          exact ⟨by omega, by omega⟩
        go_wp2_with fail
        refine (HLm.out _ (fun j => Av j ∨ j = w.heap.size + 1) (arg_lt hA.out HQ.out.box.b.lt) ⟨fo, fn, fc⟩ (lefts n l i) (arg_has HE.out HQ.out.box.low) (own_hasW HQ.out.left HLn.out.2) (own_off HQ.out.left (fun j s => by rcases s with s | s; (have := hA.out j s; omega); omega))).mono ?_
        rintro r w5 ⟨z, rfl, hz, b5⟩
        have HZ := hid hz
        have HQ5 := hid (HQ.out.below b5)
        clear hz b5 x0 x1 x2 xf cb
        obtain ⟨x0, x1, x2, xf⟩ := HQ5.out.box.a
        obtain ⟨z0, z1, z2, zf⟩ := HQ5.out.box.b
        have hb1 : w.heap.size < w5.heap.size := HQ5.out.box.a.lt
        have hb2 : w.heap.size + 1 < w5.heap.size := HQ5.out.box.b.lt
        go_wp2_with fail
        refine bodyPost_ret (v := .tuple #[(.agg #[.int .i64 n, .slice z.p.o z.p.n z.p.c, .slice z.l.o z.l.n z.l.c]), .slice oo on oc]) (by simp [results, Try.results30, go_sem, *]) rfl ⟨z, oo, oc, ?_, ?_, ?_, own_off HQ5.out.out (fun j s => by have := hA.out j s; omega), fin_low HQ5.out.box.low _ _ _⟩
        · exact ret_es (by rw [HR.out.1]; exact HLn.out.1)
        · rw [HR.out.2]; exact fin_has HZ.out _ _ _
        · rw [HR.out.1, ← HLn.out.1]
          exact (own_mine (own_kept HQ5.out.out (kept_store w5 (w.heap.size + 1) _ _ _) (fun j ej sj => by have := (HQ5.out.out.lt j ej).1; omega))).has
end Go.Proofs.Ytejghoncihdfkaa.Ep
