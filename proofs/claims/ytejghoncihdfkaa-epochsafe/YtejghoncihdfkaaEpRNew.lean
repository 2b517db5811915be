/- What the document's New does. -/
import Derived.Test.YtejghoncihdfkaaEpRReap
namespace Go.Proofs.Ytejghoncihdfkaa.Ep
open Go.RowKit

theorem one_head (w : World) (T : TypeId) : Row (w.alloc (.cells #[.slice none 0 0] T)) (some ⟨w.heap.size, 0, none⟩) (hds [Hd.zero]) := by
  refine ⟨fun j u hu => ⟨_, rfl, ?_⟩⟩
  match j, hu with
  | 0, hu => simp [hds, Hd.v, Hd.zero] at hu; subst hu; simp [Addr.add]
theorem rep_vals (i : Nat) : vals (List.replicate i 0) ++ vals [0] = vals (List.replicate (i + 1) 0) := by rw [List.replicate_succ']; simp
theorem rep_hds (i : Nat) : hds (List.replicate i Hd.zero) ++ hds [Hd.zero] = hds (List.replicate (i + 1) Hd.zero) := by rw [List.replicate_succ']; simp [hds]
theorem tne2 : (2 : TypeId) ≠ 49 := by decide
/-- While cores are laid: i of them are. -/
structure Nw (w wr : World) (i : Nat) (po : Option Addr) (pc : Nat) (lo : Option Addr) (j lc : Nat) : Prop where
  low : Below w.heap.size w wr
  res : InE wr w.heap.size 0 WE.zero
  box : InE wr (w.heap.size + 1) 1 ⟨⟨po, i, pc⟩, ⟨lo, j, lc⟩⟩
  pins : wr.ownsRow (w.heap.size + 2) 2 1 (.slice po i pc) i (vals (List.replicate i 0))
  lim : wr.ownsRow (w.heap.size + 2) 49 1 (.slice lo j lc) j (hds (List.replicate j Hd.zero))
section
variable {w wr wm w3 : World} {i j pc lc : Nat} {po lo : Option Addr}
theorem Nw.below (h : Nw w wr i po pc lo j lc) (b : Below wr.heap.size wr wm) : Nw w wm i po pc lo j lc := ⟨q_trans h.low b, h.res.below b, h.box.below b, own_below h.pins b, own_below h.lim b⟩
theorem Nw.base (h : Nw w wr i po pc lo j lc) : w.heap.size + 2 ≤ wr.heap.size := h.box.lt
theorem InE.setP {w : World} {b : Nat} {n : Int} {y : WE} (h : InE w b n y) (q : Hd) : InE (w.setCell ⟨b, 1, none⟩ (.slice q.o q.n q.c)) b n ⟨q, y.l⟩ := by
  refine ⟨?_, set_same _ h.c1, ?_, fun i => by rw [World.frozen?_setCell]; exact h.f i⟩
  · rw [set_other _ (by decide)]; exact h.c0
  · rw [set_other _ (by decide)]; exact h.c2
theorem InE.setL {w : World} {b : Nat} {n : Int} {y : WE} (h : InE w b n y) (q : Hd) : InE (w.setCell ⟨b, 2, none⟩ (.slice q.o q.n q.c)) b n ⟨y.p, q⟩ := by
  refine ⟨?_, ?_, set_same _ h.c2, fun i => by rw [World.frozen?_setCell]; exact h.f i⟩
  · rw [set_other _ (by decide)]; exact h.c0
  · rw [set_other _ (by decide)]; exact h.c1
/-- One more pin, put into the box. -/
theorem Nw.pin {ao3 : Option Addr} {cap3 : Nat} (h : Nw w wm i po pc lo j lc) (own3 : w3.ownsRow (w.heap.size + 2) 2 1 (.slice ao3 (i + 1) cap3) (i + 1) (vals (List.replicate i 0) ++ vals [0])) (grow : wm.grownBy w3 (Value.ownBlock (.slice po i pc))) :
    Nw w (w3.setCell ⟨w.heap.size + 1, 1, none⟩ (.slice ao3 (i + 1) cap3)) (i + 1) ao3 cap3 lo j lc := by
  have hb : Below (w.heap.size + 2) wm w3 := (Below.refl _ wm).grown grow h.base (fun k e => (h.pins.lt k e).1)
  have hk : Kept (fun k => k = w.heap.size + 1) w3 (w3.setCell ⟨w.heap.size + 1, 1, none⟩ (.slice ao3 (i + 1) cap3)) := kept_set _ w3 _ _ rfl
  refine ⟨q_set (h.low.trans (hb.mono (by omega))) (Nat.le_succ _) _, (h.res.upto hb (by omega)).kept hk (by omega), (h.box.upto hb (by omega)).setP ⟨ao3, i + 1, cap3⟩, ?_, ?_⟩
  · rw [← rep_vals]
    exact own_kept own3 hk (fun k e s => by have := (own3.lt k e).1; omega)
  · exact own_kept (own_kept h.lim (kept_grown grow) (fun k e s => own_ne h.pins h.lim tne2 s.symm e)) hk (fun k e s => by have := (h.lim.lt k e).1; omega)
/-- One more list, put into the box. -/
theorem Nw.list {ao3 : Option Addr} {cap3 : Nat} (h : Nw w wm i po pc lo j lc) (own3 : w3.ownsRow (w.heap.size + 2) 49 1 (.slice ao3 (j + 1) cap3) (j + 1) (hds (List.replicate j Hd.zero) ++ hds [Hd.zero])) (grow : wm.grownBy w3 (Value.ownBlock (.slice lo j lc))) :
    Nw w (w3.setCell ⟨w.heap.size + 1, 2, none⟩ (.slice ao3 (j + 1) cap3)) i po pc ao3 (j + 1) cap3 := by
  have hb : Below (w.heap.size + 2) wm w3 := (Below.refl _ wm).grown grow h.base (fun k e => (h.lim.lt k e).1)
  have hk : Kept (fun k => k = w.heap.size + 1) w3 (w3.setCell ⟨w.heap.size + 1, 2, none⟩ (.slice ao3 (j + 1) cap3)) := kept_set _ w3 _ _ rfl
  refine ⟨q_set (h.low.trans (hb.mono (by omega))) (Nat.le_succ _) _, (h.res.upto hb (by omega)).kept hk (by omega), (h.box.upto hb (by omega)).setL ⟨ao3, j + 1, cap3⟩, ?_, ?_⟩
  · exact own_kept (own_kept h.pins (kept_grown grow) (fun k e s => own_ne h.pins h.lim tne2 e s.symm)) hk (fun k e s => by have := (h.pins.lt k e).1; omega)
  · rw [← rep_hds]
    exact own_kept own3 hk (fun k e s => by have := (own3.lt k e).1; omega)
end
theorem nw_start (w : World) (T : TypeId) : Nw w ((w.alloc (.cells #[.int .i64 0, .slice none 0 0, .slice none 0 0] T)).alloc (.cells #[.int .i64 1, .slice none 0 0, .slice none 0 0] T)) 0 none 0 none 0 0 := by
  have h := b2_start w 0 1 WE.zero WE.zero T
  exact ⟨h.low, h.a, h.b, World.ownsRow_nil _ _ _ _, World.ownsRow_nil _ _ _ _⟩
/-- Epochs that were laid so. -/
theorem Nw.has {w wr wf : World} {c : Nat} {po lo : Option Addr} {pc lc : Nat} {Av : Nat → Prop} (h : Nw w wr c po pc lo c lc) (hk : Kept (fun k => k = w.heap.size) wr wf) (hA : ∀ i, Av i → i < w.heap.size) : HasE wf Av ⟨⟨po, c, pc⟩, ⟨lo, c, lc⟩⟩ ⟨1, List.replicate c 0, List.replicate c []⟩ := by
  have o1 := own_kept h.pins hk (fun k e s => by have := (h.pins.lt k e).1; omega)
  have o2 := own_kept h.lim hk (fun k e s => by have := (h.lim.lt k e).1; omega)
  obtain ⟨r1, r2, r3, r4⟩ := own_row o2
  refine ⟨(own_mine o1).has, own_off o1 (fun i s => by have := hA i s; omega), List.replicate c Hd.zero, ?_⟩
  have z : ∀ i, i < c → (List.replicate c Hd.zero).getD i Hd.zero = Hd.zero ∧ (List.replicate c ([] : List W)).getD i [] = [] := by
    intro i hi
    exact ⟨by simp [List.getD, hi], by simp [List.getD, hi]⟩
  refine ⟨by simp, by simp, r3, r2, r1, own_off o2 (fun i s => by have := hA i s; omega), fun i hi => ?_, fun i hi => ?_⟩
  · simp only [List.length_replicate] at hi
    rw [(z i hi).1, (z i hi).2]
    exact hasW_nil _
  · simp only [List.length_replicate] at hi
    rw [(z i hi).1, (z i hi).2]
    exact fun h0 => absurd h0 (by decide)
set_option maxRecDepth 100000 in
set_option maxHeartbeats 4000000 in
theorem rNew_any (n : Int) (Av : Nat → Prop) (w : World) (hA : Hid (∀ i, Av i → i < w.heap.size)) :
    Calls Try.prog 14 #[.int .i64 n] w fun r w' => ∃ z : WE, r = .returned (.tuple #[(.agg #[.int .i64 (newA n).now, .slice z.p.o z.p.n z.p.c, .slice z.l.o z.l.n z.l.c]), .int .i64 (newE n)]) ∧ HasE w' Av z (newA n) ∧ Below w.heap.size w w' := by
  by_cases h : 1 ≤ n ∧ n ≤ 64
  · obtain ⟨c, rfl⟩ : ∃ c : Nat, n = (c : Int) := ⟨n.toNat, by omega⟩
    have HR : Hid (newA (c : Int) = ⟨1, List.replicate c 0, List.replicate c []⟩ ∧ newE (c : Int) = 0) := by
      refine ⟨?_, by unfold newE; rw [if_pos h]⟩
      unfold newA
      rw [if_pos h]
      simp
    obtain ⟨h1, h2⟩ := h
    go_enter Try.func14, Try.ntmps14
    go_wp2_with fail
    have HN := hid (nw_start w 25)
    go_loopw [5] (fun s5 wr => ∃ (i pc lc : Nat) (po lo : Option Addr), i ≤ c ∧ s5 = .int .i64 i ∧ Hid (Nw w wr i po pc lo i lc)) (fun s _ => c - (intOf s).toNat)
    case atStart => exact ⟨0, 0, 0, none, none, Nat.zero_le _, rfl, HN⟩
    case round =>
      obtain ⟨i, pc, lc, po, lo, hi, rfl, HQ⟩ := hrel
      clear HN
      obtain ⟨x0, x1, x2, xf⟩ := HQ.out.box
      have hlt1 : w.heap.size + 1 < wr.heap.size := HQ.out.box.lt
      by_cases hlt : i < c
      · have HO := hid (own_below HQ.out.pins (alloc_below wr (.cells #[.int .i64 0] 2)))
        have HRw := hid (one_int wr 0 2)
        have HBs : Hid (w.heap.size + 2 ≤ (wr.alloc (.cells #[.int .i64 0] 2)).heap.size) := Nat.le_trans HQ.out.base (alloc_below _ _).size
        go_wp2_with (at_builtin; go_loud (refine wpList_append_row _ rfl (.tmp 20) (.tmp 21) 22 2 _ 1 8 rfl Try.underlying22 infoI rfl (by decide) (by decide) (w.heap.size + 2) _ i (vals (List.replicate i 0)) rfl HO.out _ 1 1 (vals [0]) rfl rfl (fun h => by cases h) HRw.out (vals_one _) (by omega) HBs.out ?_; intro ao3 cap3 w3 own3 grow3; apply Hid.out))
        have HQ3 := hid ((HQ.out.below (alloc_below wr (.cells #[.int .i64 0] 2))).pin own3 grow3)
        have hb3 : Below (w.heap.size + 2) (wr.alloc (.cells #[.int .i64 0] 2)) w3 := (Below.refl _ _).grown grow3 HBs.out (fun k e => (HO.out.lt k e).1)
        have HX3 := hid ((HQ.out.box.below (alloc_below wr (.cells #[.int .i64 0] 2))).upto hb3 (by omega))
        clear own3 grow3 HO HRw HBs x0 x1 x2 xf hb3 hlt1
        obtain ⟨x0, x1, x2, xf⟩ := HX3.out
        unfold Hid
        go_upto_region 8 with fail
        generalize w3.setCell ⟨w.heap.size + 1, 1, none⟩ (.slice ao3 (i + 1) cap3) = W4 at HQ3 ⊢
        clear x0 x1 x2 xf HX3
        obtain ⟨x0, x1, x2, xf⟩ := HQ3.out.box
        have hlt1 : w.heap.size + 1 < W4.heap.size := HQ3.out.box.lt
        have HO := hid (own_below HQ3.out.lim (alloc_below W4 (.cells #[.slice none 0 0] 49)))
        have HRw := hid (one_head W4 49)
        have HBs : Hid (w.heap.size + 2 ≤ (W4.alloc (.cells #[.slice none 0 0] 49)).heap.size) := Nat.le_trans HQ3.out.base (alloc_below _ _).size
        go_wp2_with (at_builtin; go_loud (refine wpList_append_row _ rfl (.tmp 25) (.tmp 26) 23 49 _ 1 24 rfl Try.underlying23 infoS rfl (by decide) (by decide) (w.heap.size + 2) _ i (hds (List.replicate i Hd.zero)) rfl HO.out _ 1 1 (hds [Hd.zero]) rfl rfl (fun h => by cases h) HRw.out (hds_one _) (by omega) HBs.out ?_; intro ao5 cap5 w5 own5 grow5; apply Hid.out))
        have HQ5 := hid ((HQ3.out.below (alloc_below W4 (.cells #[.slice none 0 0] 49))).list own5 grow5)
        have hb5 : Below (w.heap.size + 2) (W4.alloc (.cells #[.slice none 0 0] 49)) w5 := (Below.refl _ _).grown grow5 HBs.out (fun k e => (HO.out.lt k e).1)
        have HX5 := hid ((HQ3.out.box.below (alloc_below W4 (.cells #[.slice none 0 0] 49))).upto hb5 (by omega))
        clear own5 grow5 HO HRw HBs x0 x1 x2 xf hb5 hlt1
        obtain ⟨x0, x1, x2, xf⟩ := HX5.out
        unfold Hid
        go_wp2_with fail
        go_roundw
        case rel => exact ⟨i + 1, cap3, cap5, ao3, ao5, by omega, by go_num, HQ5⟩
        case measure => simp [intOf]; omega
      · obtain rfl : i = c := by omega
        obtain ⟨z0, z1, z2, zf⟩ := HQ.out.res
        have hlt0 : w.heap.size < wr.heap.size := HQ.out.res.lt
        go_wp2_with fail
        refine bodyPost_ret (v := .tuple #[.agg #[.int .i64 1, .slice po i pc, .slice lo i lc], .int .i64 0]) (by simp [results, Try.results14, go_sem, *]) rfl ⟨⟨⟨po, i, pc⟩, ⟨lo, i, lc⟩⟩, ?_, ?_, ?_⟩
        · rw [HR.out.1, HR.out.2]
        · rw [HR.out.1]
          exact HQ.out.has (kept_store wr w.heap.size _ _ _) hA.out
        · exact q_set (q_set (q_set HQ.out.low (Nat.le_refl _) _) (Nat.le_refl _) _) (Nat.le_refl _) _
  · have HR : Hid (newA n = ⟨0, [], []⟩ ∧ newE n = 2) := ⟨by unfold newA; rw [if_neg h], by unfold newE; rw [if_neg h]⟩
    by_cases h1 : 1 ≤ n
    · have h2 : ¬ n ≤ 64 := fun h2 => h ⟨h1, h2⟩
      clear h
      go_enter Try.func14, Try.ntmps14
      go_wp2_with fail
      refine bodyPost_ret (v := .tuple #[.agg #[.int .i64 0, .slice none 0 0, .slice none 0 0], .int .i64 2]) (by simp [results, Try.results14, go_sem, *]) rfl ⟨WE.zero, ?_, ?_, ?_⟩
      · rw [HR.out.1, HR.out.2]; rfl
      · rw [HR.out.1]; exact hasE_zero _ _
      · exact alloc_below _ _
    · clear h
      go_enter Try.func14, Try.ntmps14
      go_wp2_with fail
      refine bodyPost_ret (v := .tuple #[.agg #[.int .i64 0, .slice none 0 0, .slice none 0 0], .int .i64 2]) (by simp [results, Try.results14, go_sem, *]) rfl ⟨WE.zero, ?_, ?_, ?_⟩
      · rw [HR.out.1, HR.out.2]; rfl
      · rw [HR.out.1]; exact hasE_zero _ _
      · exact alloc_below _ _
end Go.Proofs.Ytejghoncihdfkaa.Ep
