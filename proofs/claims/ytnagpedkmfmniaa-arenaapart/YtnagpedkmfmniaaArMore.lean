/- One more at a list's end: a new list. -/
import Derived.Test.YtnagpedkmfmniaaArAft
import Derived.Deep.AppendSrc
import Derived.Deep.Upon
namespace Go.Proofs.Ytnagpedkmfmniaa.Ar
open Go.RowKit Go.Proofs.Ytnagpedkmfmniaa.Ha

theorem run_three (ao : Option Addr) (n cap : Nat) (hn : n ≤ cap) (W : World) :
    (Instr.slice 49 (.slice ao n cap) none (some (.int .i64 n)) (some (.int .i64 n))).run Try.prog W = .ok (.slice ao n n) W := by
  have hb := fun code => run_sliceBound (P := Try.prog) (w := W) .i64 (n : Int) cap code (by omega) (by omega)
  have hb2 := fun code => run_sliceBound (P := Try.prog) (w := W) .i64 (n : Int) n code (by omega) (by omega)
  have ha : ao.map (fun a => a.add 0) = ao := by cases ao <;> simp [Addr.add]
  simp [Instr.slice, Instr.sliceBounds, run_underlying Try.underlying49, hb, hb2, Try.sizeOf3, ha]
theorem run_more (ty : TypeId) (ao : Option Addr) (n : Nat) (l : List Int) (p : Int) (ad : Addr) (w : World) (hl : n = l.length) (hr : Row w ao (vals l)) (hp : w.cell? ad = some (.int .i64 p)) (hn : n ≤ 1000) :
    ∃ cap' w', (Builtin.append_ #[49, 49] ty #[.slice ao n n, .slice (some ad) 1 1]).run Try.prog w = .ok (.slice (some ⟨w.heap.size, 0, none⟩) (n + 1) cap') w' ∧ w'.ownsRow w.heap.size 3 1 (.slice (some ⟨w.heap.size, 0, none⟩) (n + 1) cap') (n + 1) (vals (l ++ [p])) ∧ Below w.heap.size w w' := by
  obtain ⟨i0, hi, hz0, hz1, hz2⟩ := info_of infoN
  have hs : Src Try.prog i0.size 49 (.slice (some ad) 1 1) 1 [.int .i64 p] w := by
    rw [hz1]
    refine Src.ofSlice w Try.underlying49 ad 1 1 [.int .i64 p] rfl (fun j u hu => ?_) (fun u hu => by simp at hu; subst hu; rfl)
    cases j with
    | zero => simp at hu; subst hu; simpa [Addr.add] using hp
    | succ j => simp at hu
  have hold : (Builtin.firstCells i0.size n (.slice ao n n)).run Try.prog w.drew = .ok (vals l).toArray w.drew := by
    rw [hz1]
    cases ao with
    | none =>
      have h0 := row_none hr
      have hn0 : n = 0 := by rw [hl]; simpa using h0
      subst hn0
      rw [h0]
      exact run_firstCells_none w.drew 1 0 0 0
    | some b =>
      refine run_firstCells_some w.drew 1 n b n n (vals l) (by simp; omega) (fun j u hu => ?_)
      obtain ⟨b', e, hc⟩ := hr.cell j u hu
      cases e
      simpa using hc
  have hfit : Builtin.nextslicecap (n + 1) n * i0.bytes ≤ 281474976710656 := growslice_fits (by omega) (by rw [hz2]; omega)
  have hrun := run_append_grow_src (P := Try.prog) w 49 49 ty 3 i0 (.int .i64 0) Try.underlying49 hi hz0 ao n n (vals l) hold (.slice (some ad) 1 1) 1 [.int .i64 p] hs (by omega) (by omega) hfit
  have hge := grownCap_ge w (n + 1) n 3
  have hcm := grownCap_le_maxLen w (n + 1) n 3 (by unfold maxLen; omega)
  generalize grownCap w (n + 1) n 3 = C at hrun hge hcm
  refine ⟨C, _, hrun, ⟨by simp; omega, .inr ⟨w.heap.size, C, _, rfl, Nat.le_refl _, heap_alloc_new w.drew _, hge, hcm, ?_, ?_⟩⟩, (Below.refl _ w).drew.alloc (Nat.le_refl _) _⟩
  · simp [size_zeroCells, Value.cells]
    omega
  · simp only [Array.toList_append, vals, List.map_append, List.map_cons, List.map_nil]
    rw [List.take_append_of_le_length (by simp; omega), List.take_of_length_le (by simp; omega)]
theorem wpList_append_full (w : World) {ops : Array Oper} {rest : List Oper} {o : Oper} {a : Act} {Q : Exit → Act → World → Prop} (hgd : o.guard = none) (s x : Operand)
    (ho : o.op = .call { callee := .builtin .append, args := #[s, x], argTypes := #[49, 49] }) (ao : Option Addr) (n : Nat) (l : List Int) (p : Int) (ad : Addr) (hs : a.eval s = .slice ao n n) (hx : a.eval x = .slice (some ad) 1 1)
    (hl : n = l.length) (hr : Row w ao (vals l)) (hp : w.cell? ad = some (.int .i64 p)) (hn : n ≤ 1000)
    (h : ∀ cap' w', w'.ownsRow w.heap.size 3 1 (.slice (some ⟨w.heap.size, 0, none⟩) (n + 1) cap') (n + 1) (vals (l ++ [p])) → Below w.heap.size w w' → wpList Try.prog ops Q rest (a.put o.dst (.slice (some ⟨w.heap.size, 0, none⟩) (n + 1) cap')) w') : wpList Try.prog ops Q (o :: rest) a w := by
  refine wpList_plain hgd fun K hK' => ?_
  obtain ⟨cap', w', hrun, h1, h2⟩ := run_more o.type ao n l p ad w hl hr hp hn
  unfold Oper.wp
  simp [execOp, ho, resolve, invoke, builtin, hs, hx, hrun, Result.andThen]
  exact hK' _ _ (h cap' w' h1 h2)
set_option maxRecDepth 100000 in
set_option maxHeartbeats 1000000 in
/-- oneMore. -/
theorem more_any (ao : Option Addr) (n cap : Nat) (l : List Int) (p : Int) (w : World) (hn : n ≤ 1000) (H : Hid (Has w ao n cap l)) :
    Calls Try.prog 29 #[.slice ao n cap, .int .i64 p] w fun e w' => ∃ y : Hd, e = .returned (.slice y.o y.n y.c) ∧ Mine w' w.heap.size y.o y.n y.c (l ++ [p]) ∧ Below w.heap.size w w' := by
  have h3 := run_three ao n cap H.out.le
  go_enter Try.func29, Try.ntmps29
  go_wp2_with (at_builtin; go_loud (refine wpList_append_full _ rfl (.tmp 10) (.tmp 12) rfl ao n l p ⟨w.heap.size, 0, none⟩ rfl rfl H.out.len (H.out.row.below (alloc_below w _)) (by simp) hn ?_; intro cap1 w1 hown1 hb1; apply Hid.out))
  rw [show (w.alloc (.cells #[.int .i64 p] 3)).heap.size = w.heap.size + 1 by simp] at hown1
  have HO := hid (own_mine hown1)
  have HB := hid (q_trans (alloc_below w _) hb1)
  clear hown1 hb1
  unfold Hid
  go_wp2_with fail
  go_ret
  refine ⟨⟨_, n + 1, cap1⟩, rfl, ⟨HO.out.has, fun a e => ?_⟩, HB.out⟩
  have h5 := HO.out.new a e
  omega
end Go.Proofs.Ytnagpedkmfmniaa.Ar
