/- What the program's below tells: the contract of its iterator. -/
import Derived.RangeFuncNested
import Derived.RangeFuncBound
import Derived.RangeFuncCalls
import Derived.RangeFuncLeaves
import Derived.Shelf.Abstract
import Derived.Shelf.RegionOpen
import Derived.WalkKit
import Derived.OwnWalkIn
import Derived.TacticsInMore
import Derived.LoopNIn
import Derived.LoopIn
import Derived.Test.YtcldnacpddebcaaTrW4
import Derived.Test.YtcldnacpddebcaaTrRBel
namespace Go.Proofs.Ytcldnacpddebcaa.Tr
open Go.RowKit Go.Shelf
attribute [local go_sem] Oper.semAt_some

theorem grown_below {w w' : World} (h : Below w.heap.size w w') : w.grownBy w' none := ⟨h.os, h.tape, h.output, h.size, fun k hk _ => h.block k hk⟩
theorem keeps_below {W W' : World} (h : Below W.heap.size W W') : KeepsOthers W W' := ⟨h.size, fun k _ hk _ => (h.block k (Array.getElem?_eq_some_iff.1 hk).1).trans hk⟩
theorem abide {β : Type} {B : Nat} {J : β → World → Prop} (h : AbidesFrom B J) {s : β} {W W' : World} (hs : J s W) (hb : Below W.heap.size W W') : J s W' := h s W W' none hs (grown_below hb) (fun r e => by cases e)
/-- WHAT A ROUND KEEPS: all below n0, and the box B. -/
def KB (n0 B : Nat) (W W' : World) : Prop := Below n0 W W' ∧ ∀ v, W.cell? ⟨B, 0, none⟩ = some v → W'.cell? ⟨B, 0, none⟩ = some v
theorem kb_t {n0 B : Nat} {a b c : World} (h : KB n0 B a b) (k : KB n0 B b c) : KB n0 B a c := ⟨h.1.trans k.1, fun v hv => k.2 v (h.2 v hv)⟩
theorem kb_b {n0 B : Nat} {w : World} (hn : n0 ≤ w.heap.size) (W : World) (l : Nat) (o o' : Obj) (hl : w.heap.size ≤ l) (h : W.heap[l]? = some o) (ho : o.isCells = false) (hw : o.isWalk = false) : KB n0 B W (W.putObj l o') :=
  ⟨belowK_b (w := w) hn W l o o' hl h ho hw, fun _ hv => cell_kept hv (grownBy_putObj' W l o') (fun r e => by cases e; exact ⟨o, h, ho⟩)⟩
theorem kb_below {n0 B : Nat} {W W' : World} (hn : n0 ≤ W.heap.size) (h : Below W.heap.size W W') : KB n0 B W W' :=
  ⟨h.mono hn, fun _ hv => (h.cell (World.block_lt_of_cell? W _ hv)).trans hv⟩
theorem kb_set {n0 B c j : Nat} (W : World) (u : Value) (hc : n0 ≤ c) (hne : c ≠ B) : KB n0 B W (W.setCell ⟨c, j, none⟩ u) :=
  ⟨(Below.refl n0 W).setCell (p := ⟨c, j, none⟩) hc u, fun _ hv => (World.cell?_setCell_other _ _ _ _ (far0 (.inl hne))).trans hv⟩
theorem bl_at {t : List Br} {k : P} {i q : Nat} (h : fd k t = some i) (hq : q < ct t i) : i + 1 + q < t.length ∧ D t i < D t (i + 1 + q) ∧ (blL t k).take (q + 1) = (blL t k).take q ++ [Ky t (i + 1 + q)] := by
  have h1 := bl_get h (n := q) (by rw [len_bl h]; exact hq)
  refine ⟨h1.1, ?_, ?_⟩
  · have := (ds_ct (t := t) (i := i) (j := i + 1 + q)).2 ⟨by omega, by omega⟩
    exact this.2.2 _ this.1 (Nat.le_refl _)
  · rw [xtake_snoc _ _ (by rw [len_bl h]; exact hq), h1.2]
theorem ct_stop {t : List Br} {i : Nat} (h : i + 1 + ct t i < t.length) : ¬ D t i < D t (i + 1 + ct t i) := fun hd => by
  have h1 : Ds t i (i + 1 + ct t i) := by
    refine ⟨by omega, h, fun m h1 h2 => ?_⟩
    rcases Nat.lt_or_ge m (i + 1 + ct t i) with y | y
    · have := (ds_ct (t := t) (i := i) (j := m)).2 ⟨h1, by omega⟩
      exact this.2.2 m this.1 (Nat.le_refl _)
    · obtain rfl : m = i + 1 + ct t i := by omega
      exact hd
  have := (ds_ct.1 h1).2
  omega
set_option maxRecDepth 100000 in
set_option maxHeartbeats 2000000 in
theorem below1_in (n : Nat) (hn : 1 ≤ n) (l Bt Bk : Nat) (ao : Option Addr) (m cap : Nat) (t : List Br) (k : P) (w0 : World) (hm : m ≤ 1000) (HH : Hid (HasB w0 ao m cap t)) (J Jx : List P → World → Prop) (HJ : Hid (∀ s W W', J s W → Below W.heap.size W W' → J s W'))
    (hY : ∀ pre (x : P) W, J pre W → pre.length < 1000 → YieldAt Fence.wide (n - 1) Try.prog l #[(.agg #[.int .i64 x.1, .int .i64 x.2])] W fun e W' =>
      (e = .returned (.bool true) ∧ J (pre ++ [x]) W' ∧ KB w0.heap.size Bt W W') ∨ (e = .returned (.bool false) ∧ Jx (pre ++ [x]) W'))
    (W : World) (HB : Hid (Below w0.heap.size w0 W)) (HT : Hid (W.cell? ⟨Bt, 0, none⟩ = some (.slice ao m cap))) (HK : Hid (AtP W ⟨Bk, 0, none⟩ k)) (H0 : Hid (J [] W)) :
    CallsIn Fence.wide n Try.prog 66 #[.func (.yield l) #[] #[], .pointer (some ⟨Bt, 0, none⟩), .pointer (some ⟨Bk, 0, none⟩)] W fun e W' => (∃ v, e = .returned v) ∧
      ((∃ ys, ys = blL t k ∧ J ys W') ∨ (∃ pre, pre <+: blL t k ∧ Jx pre W')) := by
  have HN := hid HH.out.len
  refine callsIn_of_wp Try.func66 rfl trivial ?_ rfl
  simp only [Try.ntmps66, List.size_toArray, List.length_cons, List.length_nil, Nat.reduceAdd, Nat.reduceSub, Array.replicate_succ, Array.replicate_zero, List.push_toArray, List.append_toArray, List.nil_append, List.cons_append]
  have c0 := HT.out
  obtain ⟨k0, k1⟩ := HK.out
  gi_wp2_with (refine ⟨trivial, ?_⟩; gi_at_call 31; refine (callsIn_wide.2 (find_any ao m cap t k _ (by omega) (HH.out.below HB.out))).mono ?_; rintro e w1 ⟨rfl, b1⟩; apply Hid.out)
  have HB1 := hid (q_trans HB.out b1)
  have HT1 : Hid (w1.cell? ⟨Bt, 0, none⟩ = some (.slice ao m cap)) := (b1.cell (World.block_lt_of_cell? W _ HT.out)).trans HT.out
  have HJ1 := hid (HJ.out _ _ _ H0.out b1)
  clear b1 c0 k0 k1
  cases h3 : hasK t k with
  | false =>
    have HE : Hid (blL t k = []) := by unfold Hid blL; rw [has_no h3]
    clear h3
    unfold Hid
    gi_wp2
    refine bodyPost_ret (results_none rfl _ _ _) rfl ?_
    exact ⟨⟨_, rfl⟩, .inl ⟨[], HE.out.symm, HJ1.out⟩⟩
  | true =>
    obtain ⟨i, hi⟩ := has_fd h3
    have HF := hid hi
    have hin : i < m := by have := (fd_some.1 hi).1; have := HN.out; omega
    have hcl := ct_in (fd_some.1 hi).1
    obtain ⟨c, hc⟩ : ∃ c, ct t i = c := ⟨_, rfl⟩
    have HC := hid hc
    have hic : i + c < m := by have := HN.out; omega
    rw [plc_of hi]
    clear h3 hi hcl hc
    have hi1 : (i : Int) ≤ 1000 := by omega
    have hi0 : (i : Int) < (m : Int) := by omega
    have hi2 : (0 : Int) ≤ (i : Int) := by omega
    unfold Hid
    gi_wp2
    gi_loopw [6] (fun x wr => ∃ q p : Nat, q ≤ c ∧ Hid (p = i + 1 + q) ∧ x = .int .i64 p ∧ Hid (J ((blL t k).take q) wr) ∧ Hid (wr.cell? ⟨Bt, 0, none⟩ = some (.slice ao m cap)) ∧ Hid (Below w0.heap.size w0 wr)) (fun x _ => 2000 - (intOf x).toNat)
    case atStart => exact ⟨0, i + 1, Nat.zero_le _, rfl, by go_num, HJ1, HT1, HB1⟩
    case round =>
      obtain ⟨q, p, hq, HP, rfl, HJs, HTs, HBs⟩ := hrel
      clear HB1 HT1 HJ1
      have hp0 : (0 : Int) ≤ (p : Int) := by omega
      have hpm : (p : Int) ≤ 1000 := by have := HP.out; omega
      have c0 : ∀ g : Later wr, g.now.cell? ⟨Bt, 0, none⟩ = some (.slice ao m cap) := fun g => g.cell HTs.out
      have hne : Nonempty (Later wr) := ⟨⟨_, Below.refl _ _⟩⟩
      by_cases hlt : q < c
      · have HA := hid (bl_at HF.out (q := q) (by rw [HC.out]; exact hlt))
        have hpn : p < m := by have := HP.out; omega
        have i2 : (p : Int) < (m : Int) := by omega
        obtain ⟨a, rfl, ca⟩ := (HH.out.below HBs.out).at i hin
        obtain ⟨a2, ea, cb⟩ := (HH.out.below HBs.out).at p hpn
        cases ea
        obtain ⟨x, hx⟩ : ∃ b, D t i = b := ⟨_, rfl⟩
        obtain ⟨y, hy⟩ : ∃ b, D t p = b := ⟨_, rfl⟩
        obtain ⟨z, hz⟩ : ∃ b, Ky t p = b := ⟨_, rfl⟩
        have HZ := hid hz
        obtain ⟨_, _, g2, _⟩ := ca.always
        obtain ⟨_, _, g3, _⟩ := cb.always
        have HCB := hid cb
        rw [show (t.getD i zB).2.1 = x from hx] at g2
        rw [show (t.getD p zB).2.1 = y from hy] at g3
        have hd : x < y := by
          have h1 := HA.out.2.1
          rw [← HP.out, hx, hy] at h1
          exact h1
        have HTk : Hid ((blL t k).take (q + 1) = (blL t k).take q ++ [z]) := by
          unfold Hid
          rw [HA.out.2.2, ← HP.out, HZ.out]
        clear ca cb hx hy hz
        gi_wp2_with fail
        have hd2 : y > x := hd
        refine wpIn_wide.2 (wp_region_later (by kernel_rfl) (by kernel_rfl) ?_)
        repeat (go_big_quiet_step (fail))
        refine wpQuiet_nil ?_
        rintro w9 ⟨⟨_, b9⟩, rfl⟩
        have HB9 := hid (q_trans HBs.out b9)
        have HT9 : Hid (w9.cell? ⟨Bt, 0, none⟩ = some (.slice (some a) m cap)) := (b9.cell (World.block_lt_of_cell? wr _ HTs.out)).trans HTs.out
        have c9 := HT9.out
        obtain ⟨f0, f1, _, _⟩ := HCB.out.below b9
        rw [show (t.getD p zB).1 = z from HZ.out] at f0 f1
        obtain ⟨fn, tmps, assign, body, hy, hR⟩ := hY ((blL t k).take q) z w9 (HJ.out _ _ _ HJs.out b9) (by rw [List.length_take]; omega)
        clear b9 g2 g3 c0 hne
        gi_wp2
        refine hR.mono ?_
        rintro e W3 (⟨rfl, hJ3, hk3⟩ | ⟨rfl, hJx3⟩)
        · have HB3 := hid (HB9.out.trans hk3.1)
          have HT3 := hid (hk3.2 _ HT9.out)
          have HJ3 := hid hJ3
          clear hJ3 hk3 c9 f0 f1
          gi_wp2
          go_roundw
          case rel => exact ⟨q + 1, p + 1, by omega, by have := HP.out; unfold Hid; omega, by go_num, by rw [HTk.out]; exact HJ3, HT3, HB3⟩
          case measure => simp [intOf]; omega
        · gi_wp2
          refine bodyPost_ret (results_none rfl _ _ _) rfl ?_
          exact ⟨⟨_, rfl⟩, .inr ⟨_, by rw [← HTk.out]; exact List.take_prefix _ _, hJx3⟩⟩
      · obtain rfl : q = c := by omega
        have HAll : Hid ((blL t k).take q = blL t k) := List.take_of_length_le (by rw [len_bl HF.out, HC.out]; exact Nat.le_refl _)
        by_cases hpn : p < m
        · have i2 : (p : Int) < (m : Int) := by omega
          obtain ⟨a, rfl, ca⟩ := (HH.out.below HBs.out).at i hin
          obtain ⟨a2, ea, cb⟩ := (HH.out.below HBs.out).at p hpn
          cases ea
          obtain ⟨x, hx⟩ : ∃ b, D t i = b := ⟨_, rfl⟩
          obtain ⟨y, hy⟩ : ∃ b, D t p = b := ⟨_, rfl⟩
          obtain ⟨_, _, g2, _⟩ := ca.always
          obtain ⟨_, _, g3, _⟩ := cb.always
          rw [show (t.getD i zB).2.1 = x from hx] at g2
          rw [show (t.getD p zB).2.1 = y from hy] at g3
          have hd : ¬ x < y := by
            have h1 := ct_stop (t := t) (i := i) (by rw [HC.out]; have := HN.out; have := HP.out; omega)
            rw [HC.out, ← HP.out, hx, hy] at h1
            exact h1
          clear ca cb hx hy
          gi_wp2_with fail
          have hd2 : ¬ y > x := by omega
          refine wpIn_wide.2 (wp_region_later (by kernel_rfl) (by kernel_rfl) ?_)
          repeat (go_big_quiet_step (fail))
          refine wpQuiet_nil ?_
          rintro w9 ⟨⟨_, b9⟩, rfl⟩
          have HJ9 := hid (HJ.out _ _ _ HJs.out b9)
          clear b9 g2 g3 c0 hne
          gi_wp2
          go_end0
          exact ⟨⟨_, rfl⟩, .inl (by have h := HJ9.out; rwa [HAll.out] at h)⟩
        · gi_wp2_with fail
          have i2 : ¬ (p : Int) < (m : Int) := by omega
          refine wpIn_wide.2 (wp_region_later (by kernel_rfl) (by kernel_rfl) ?_)
          repeat (go_big_quiet_step (fail))
          refine wpQuiet_nil ?_
          rintro w9 ⟨⟨_, b9⟩, rfl⟩
          have HJ9 := hid (HJ.out _ _ _ HJs.out b9)
          clear b9 c0 hne
          gi_wp2
          go_end0
          exact ⟨⟨_, rfl⟩, .inl (by have h := HJ9.out; rwa [HAll.out] at h)⟩
end Go.Proofs.Ytcldnacpddebcaa.Tr
