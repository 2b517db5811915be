/- What Parse does. -/
import Derived.Test.YtaooijjppdfnfabDoorScSplit
import Derived.RangeFuncBox
import Derived.Maps.AppendAt
namespace Go.Proofs.YtaooijjppdfnfabDoor.Sc
open Go.RowKit Go.Shelf
attribute [local go_sem] Oper.semAt_some

/-- The library's two errors lie in their variables. -/
structure Errs (w : World) : Prop where
  s : ∃ te pe, w.cell? ⟨0, 0, none⟩ = some (.iface te pe)
  r : ∃ te pe, w.cell? ⟨1, 0, none⟩ = some (.iface te pe)
theorem Errs.below {w w' : World} (h : Errs w) (hb : Below w.heap.size w w') : Errs w' := by
  obtain ⟨⟨te, pe, h1⟩, ⟨te', pe', h2⟩⟩ := h
  exact ⟨⟨te, pe, (hb.cell (World.block_lt_of_cell? w _ h1)).trans h1⟩, ⟨te', pe', (hb.cell (World.block_lt_of_cell? w _ h2)).trans h2⟩⟩
theorem atoi_ok (S : ByteArray) (v : Int) (w : World) (hS : S.size ≤ 100000) (h : numA S.data.toList = some v) :
    Calls Tryd.prog 17 #[.string S] w fun e w' => e = .returned (.tuple #[.int .i64 v, .nilIface]) ∧ Below w.heap.size w w' := by
  have h0 : Lib.atoiAll S.data.toList = .ok v := by
    unfold numA at h
    split at h
    · rename_i u e; injection h with h; rw [e, h]
    · cases h
  refine (Tryd.strconv_Atoi_ok S (by omega) v h0 w).mono ?_
  rintro e w' ⟨rfl, h | ⟨t, h⟩⟩
  · rw [h]; exact ⟨rfl, Below.refl _ _⟩
  · rw [h]; exact ⟨rfl, Lib.bytesWorld_below _ _ _⟩
theorem atoi_no (S : ByteArray) (w : World) (hS : S.size ≤ 100000) (HE : Errs w) (h : numA S.data.toList = none) :
    Calls Tryd.prog 17 #[.string S] w fun e w' => ∃ x q, e = .returned (.tuple #[.int .i64 x, .iface 64 (.pointer (some q))]) ∧ Below w.heap.size w w' := by
  obtain ⟨⟨te, pe, h1⟩, ⟨te', pe', h2⟩⟩ := HE
  unfold numA at h
  rcases e : Lib.atoiAll S.data.toList with v | _ | _
  · rw [e] at h; cases h
  · have k : Calls Tryd.prog 17 #[.string S] w fun e w' => ∃ N, e = .returned (.tuple #[.int .i64 0, .iface 64 (.pointer (some ⟨N, 0, none⟩))]) ∧ w.heap.size ≤ N ∧ w'.heap[N]? = some (.cells #[.string ⟨#[65, 116, 111, 105]⟩, .string S, .iface te pe] 76 (0, 0)) ∧ Below w.heap.size w w' :=
      Any.strconv_Atoi_syntax Tryd.laysC172 S (by omega) e _ w h1 (.inr ⟨_, _, rfl⟩)
    refine k.mono ?_
    rintro e w' ⟨N, rfl, _, _, hb⟩
    exact ⟨_, _, rfl, hb⟩
  · refine (Tryd.strconv_Atoi_range S (by omega) e _ w h2 (.inr ⟨_, _, rfl⟩)).mono ?_
    rintro e w' ⟨N, rfl, _, _, hb⟩
    exact ⟨_, _, rfl, hb⟩

/-- Between two rounds: the results' boxes, the list's box, the list's row, what lay before. -/
structure PS (w : World) (n0 : Nat) (W : World) (ao : Option Addr) (cap : Nat) (ls : List Int) : Prop where
  r0 : Boxed W n0 22 (.slice none 0 0)
  r1 : Boxed W (n0 + 1) 24 (.int .i64 0)
  bl : Boxed W (n0 + 2) 22 (.slice ao ls.length cap)
  own : W.ownsRow (n0 + 6) 3 1 (.slice ao ls.length cap) ls.length (vals ls)
  low : Below n0 w W
  size : n0 + 6 ≤ W.heap.size
theorem grown_below {w w' : World} (h : Below w.heap.size w w') : w.grownBy w' none := ⟨h.os, h.tape, h.output, h.size, fun k hk _ => h.block k hk⟩
theorem PS.grown {w W W' : World} {n0 cap : Nat} {ao : Option Addr} {ls : List Int} {row : Option Nat} (h : PS w n0 W ao cap ls) (hg : W.grownBy W' row)
    (hr : ∀ r, row = some r → n0 + 3 ≤ r ∧ Value.ownBlock (.slice ao ls.length cap) ≠ some r) : PS w n0 W' ao cap ls := by
  have hsz := h.r0.lt
  refine ⟨h.r0.kept hg (fun e => ?_), h.r1.kept hg (fun e => ?_), h.bl.kept hg (fun e => ?_), own_kept h.own (kept_grown hg) (fun i e e' => (hr i e'.symm).2 e), h.low.grown hg (by omega) (fun k e => ?_), Nat.le_trans h.size hg.size⟩
  · have := (hr _ e.symm).1; omega
  · have := (hr _ e.symm).1; omega
  · have := (hr _ e.symm).1; omega
  · have := (hr _ e).1; omega
theorem PS.below {w W W' : World} {n0 cap : Nat} {ao : Option Addr} {ls : List Int} (h : PS w n0 W ao cap ls) (hb : Below W.heap.size W W') : PS w n0 W' ao cap ls :=
  h.grown (grown_below hb) (fun r e => by cases e)
theorem own_block {w : World} {B n size : Nat} {e : TypeId} {v : Value} {cs : List Value} (h : w.ownsRow B e size v n cs) {i : Nat} (hi : v.ownBlock = some i) : B ≤ i ∧ ∃ o : Obj, w.heap[i]? = some o ∧ o.isCells = true := by
  rcases h.2 with ⟨rfl, _⟩ | ⟨g, cap, cur, rfl, hb, hg, _⟩
  · cases hi
  · simp only [Value.ownBlock, Option.some.injEq] at hi
    subst hi
    exact ⟨hb, _, hg, rfl⟩
/-- What is said between two rounds. -/
def PI (w : World) (n0 : Nat) (pre : List Pc) (W : World) : Prop := ∃ ls ao cap, allA (lists pre) = some ls ∧ PS w n0 W ao cap ls
/-- A round has left. -/
def PX (w : World) (n0 : Nat) (c : Code) (pre : List Pc) (W : World) : Prop := c = .ret ∧ allA (lists pre) = none ∧ Boxed W n0 22 (.slice none 0 0) ∧ Boxed W (n0 + 1) 24 (.int .i64 2) ∧ Below n0 w W
theorem pi_own (w : World) (n0 : Nat) : OwnFrom (n0 + 6) (PI w n0) := by
  rintro pre W W' row ⟨ls, ao, cap, hA, h⟩ hg hr
  refine ⟨ls, ao, cap, hA, h.grown hg (fun r e => ⟨by have := (hr r e).1; omega, fun e' => ?_⟩)⟩
  obtain ⟨_, o, ho, hc⟩ := hr r e
  obtain ⟨_, o', ho', hc'⟩ := own_block h.own e'
  rw [ho] at ho'; cases ho'; rw [hc] at hc'; cases hc'
theorem px_own (w : World) (n0 : Nat) (c : Code) : OwnFrom (n0 + 6) (PX w n0 c) := by
  rintro pre W W' row ⟨hc, hA, h0, h1, hb⟩ hg hr
  have := h0.lt
  refine ⟨hc, hA, h0.kept hg (fun e => by have := (hr _ e.symm).1; omega), h1.kept hg (fun e => by have := (hr _ e.symm).1; omega), hb.grown hg (by omega) (fun k e => by have := (hr _ e).1; omega)⟩
theorem pi_bears (w : World) (n0 : Nat) : Bears (Ab1 (n0 + 3)) (PI w n0) := by
  rintro pre W W' ⟨ls, ao, cap, hA, h⟩ ⟨v, rfl⟩
  refine ⟨ls, ao, cap, hA, h.grown (grownBy_setCell' W _ v) (fun r e => ⟨by cases e; omega, fun e' => ?_⟩)⟩
  have := (own_block h.own e').1
  cases e
  omega
theorem px_bears (w : World) (n0 : Nat) (c : Code) : Bears (Ab1 (n0 + 3)) (PX w n0 c) := by
  rintro pre W W' ⟨hc, hA, h0, h1, hb⟩ ⟨v, rfl⟩
  have hg := grownBy_setCell' W (n0 + 3) v
  have := h0.lt
  refine ⟨hc, hA, h0.kept hg (fun e => by cases e), h1.kept hg (fun e => by simp at e), hb.grown hg (by omega) (fun k e => by cases e; omega)⟩
theorem allA_snoc (ps : List (List UInt8)) (p : List UInt8) (ls : List Int) (h : allA ps = some ls) : allA (ps ++ [p]) = match numA p with
    | none => none
    | some v => some (ls ++ [v]) := by
  induction ps generalizing ls with
  | nil =>
    simp only [allA, Option.some.injEq] at h
    subst h
    simp only [List.nil_append, allA]
    cases numA p <;> rfl
  | cons q r ih =>
    unfold allA at h
    cases hq : numA q with
    | none => rw [hq] at h; cases h
    | some u =>
      rw [hq] at h
      cases hr : allA r with
      | none => rw [hr] at h; cases h
      | some m =>
        rw [hr] at h
        simp only [Option.some.injEq] at h
        subst h
        rw [List.cons_append, allA, hq, ih m hr]
        cases numA p <;> rfl
theorem allA_pre {ps qs : List (List UInt8)} (h : ps <+: qs) (hn : allA ps = none) : allA qs = none := by
  obtain ⟨r, rfl⟩ := h
  induction ps with
  | nil => cases hn
  | cons p ps ih =>
    rw [List.cons_append]
    unfold allA at hn ⊢
    cases hp : numA p with
    | none => rfl
    | some v =>
      rw [hp] at hn
      cases hq : allA ps with
      | none => rw [ih hq]
      | some l => rw [hq] at hn; cases hn

/-- Behind the append, and the store into the list's box. -/
theorem PS.app {w W w1 : World} {n0 cap g cap' : Nat} {ao : Option Addr} {ls : List Int} {x : Int} {tmp : Obj} (h : PS w n0 W ao cap ls) (hsz : n0 + 6 ≤ W.heap.size)
    (hown' : w1.ownsRow (n0 + 6) 3 1 (.slice (some ⟨g, 0, none⟩) (ls.length + 1) cap') (ls.length + 1) (vals ls ++ [.int .i64 x])) (hgrow : (W.alloc tmp).grownBy w1 (Value.ownBlock (.slice ao ls.length cap))) :
    Boxed w1 (n0 + 2) 22 (.slice ao ls.length cap) ∧ KeepsOthers W (w1.setCell ⟨n0 + 2, 0, none⟩ (.slice (some ⟨g, 0, none⟩) (ls.length + 1) cap')) ∧
      Kp3 (n0 + 3) W (w1.setCell ⟨n0 + 2, 0, none⟩ (.slice (some ⟨g, 0, none⟩) (ls.length + 1) cap')) ∧ PS w n0 (w1.setCell ⟨n0 + 2, 0, none⟩ (.slice (some ⟨g, 0, none⟩) (ls.length + 1) cap')) (some ⟨g, 0, none⟩) cap' (ls ++ [x]) := by
  have ob : ∀ i, Value.ownBlock (.slice ao ls.length cap) = some i → n0 + 6 ≤ i := fun i e => (own_block h.own e).1
  have hne : ∀ {B : Nat}, B < n0 + 6 → some B ≠ Value.ownBlock (.slice ao ls.length cap) := fun hB e => by have := ob _ e.symm; omega
  have s0 := hgrow.size
  simp only [World.size_alloc] at s0
  have b0 := (h.r0.alloc tmp).kept hgrow (hne (by omega))
  have b1 := (h.r1.alloc tmp).kept hgrow (hne (by omega))
  have b2 := (h.bl.alloc tmp).kept hgrow (hne (by omega))
  have hb1 : Below n0 w w1 := (h.low.alloc (by omega) tmp).grown hgrow (by simp; omega) (fun k e => by have := ob k e; omega)
  have gs := grownBy_setCell' w1 (n0 + 2) (.slice (some ⟨g, 0, none⟩) (ls.length + 1) cap')
  refine ⟨b2, ?_, ?_, ⟨b0.kept gs (by simp), b1.kept gs (by simp), ?_, ?_, hb1.setCell (p := ⟨n0 + 2, 0, none⟩) (by simp) _, by have := gs.size; omega⟩⟩
  · refine ((KeepsOthers.alloc W tmp).trans (KeepsOthers.of_grownBy hgrow fun j o ej hj => ?_)).trans (KeepsOthers.setCell _ _ _)
    obtain ⟨_, o', ho', hc'⟩ := own_block (h.own.alloc tmp) ej
    rw [hj] at ho'; cases ho'; exact hc'
  · intro k k1 k2
    exact ((Below.heap_setCell _ _ _ k (by simp; omega)).trans (hgrow.block k (by simp; omega) (hne (by omega)))).trans (Below.heap_alloc W tmp k (by omega))
  · have := b2.set (.slice (some ⟨g, 0, none⟩) (ls.length + 1) cap')
    simpa using this
  · have k1 : (w1.setCell ⟨n0 + 2, 0, none⟩ (.slice (some ⟨g, 0, none⟩) (ls.length + 1) cap')).ownsRow (n0 + 6) 3 1 (.slice (some ⟨g, 0, none⟩) (ls.length + 1) cap') (ls.length + 1) (vals ls ++ [.int .i64 x]) :=
      own_kept hown' (kept_grown gs) (fun i e e' => by have := (own_block hown' e).1; simp at e'; omega)
    simpa [vals] using k1

theorem keeps_below {W W' : World} (h : Below W.heap.size W W') : KeepsOthers W W' := ⟨h.size, fun k _ hk _ => (h.block k (Array.getElem?_eq_some_iff.1 hk).1).trans hk⟩
theorem kp3_below {W W' : World} {C : Nat} (hC : C + 3 ≤ W.heap.size) (h : Below W.heap.size W W') : Kp3 C W W' := fun k _ h2 => h.block k (by omega)
set_option maxRecDepth 100000 in
set_option maxHeartbeats 2000000 in
theorem parse_in (S : ByteArray) (w : World) (hS : S.size ≤ 100000) (hS0 : Hid (¬ S.size = 0)) (HE : Hid (Errs w)) :
    CallsIn Fence.wide 5 Tryd.prog 9 #[.string S] w fun e w' => (∃ ls ao cap, parP S.data.toList = some ls ∧ e = .returned (.tuple #[.slice ao ls.length cap, .int .i64 0]) ∧ Mine w' w.heap.size ao cap ls ∧ Below w.heap.size w w') ∨ (parP S.data.toList = none ∧ e = .returned (.tuple #[.slice none 0 0, .int .i64 2]) ∧ Below w.heap.size w w') := by
  have hne : S.toList.isEmpty = false := by
    rw [ByteArray.toList_eq]
    cases h : S.data.toList with
    | nil => exact absurd (by rw [← ByteArray.size_data, ← Array.length_toList, h]; rfl) hS0.out
    | cons c r => rfl
  refine callsIn_of_wp_marks Tryd.func9 rfl trivial ?_ rfl
  simp only [Tryd.ntmps9, List.size_toArray, List.length_cons, List.length_nil, Nat.reduceAdd, Nat.reduceSub, Array.replicate_succ, Array.replicate_zero, List.push_toArray, List.append_toArray, List.nil_append, List.cons_append]
  gi_wp2_with (refine ⟨trivial, ?_⟩; gi_at_call 16; refine (callsIn_wide.2 (splitSeq_any S _)).mono ?_; rintro e w' ⟨rfl, rfl⟩)
  obtain ⟨W0, hW0⟩ : ∃ W0, (((((w.alloc (.cells #[.slice none 0 0] 22)).alloc (.cells #[.int .i64 0] 24)).alloc (.cells #[.slice none 0 0] 22)).alloc (.cells #[.string S] 9)).alloc (.cells #[.string ⟨#[32]⟩] 9)).alloc (.cells #[.int .i64 0] 3) = W0 := ⟨_, rfl⟩
  have hsz : W0.heap.size = w.heap.size + 6 := by rw [← hW0]; simp
  have hits : Its (w.heap.size + 3) W0 S := by
    have := its_new S (((w.alloc (.cells #[.slice none 0 0] 22)).alloc (.cells #[.int .i64 0] 24)).alloc (.cells #[.slice none 0 0] 22))
    rw [hW0] at this
    simpa using this
  have hps0 : PS w w.heap.size W0 none 0 [] := by
    have b0 := Boxed.new w 22 (.slice none 0 0)
    have b1 := Boxed.new (w.alloc (.cells #[.slice none 0 0] 22)) 24 (.int .i64 0)
    have b2 := Boxed.new ((w.alloc (.cells #[.slice none 0 0] 22)).alloc (.cells #[.int .i64 0] 24)) 22 (.slice none 0 0)
    simp only [World.size_alloc] at b1 b2
    refine ⟨?_, ?_, ?_, World.ownsRow_nil _ _ _ _, ?_, by omega⟩
    · rw [← hW0]; exact ((((b0.alloc _).alloc _).alloc _).alloc _).alloc _
    · rw [← hW0]; exact (((b1.alloc _).alloc _).alloc _).alloc _
    · rw [← hW0]; exact ((b2.alloc _).alloc _).alloc _
    · rw [← hW0]; exact (((((alloc_below w _).alloc (by simp) _).alloc (by simp; omega) _).alloc (by simp; omega) _).alloc (by simp; omega) _).alloc (by simp; omega) _
  rw [hW0]
  clear hW0
  refine range_own (n := 5) rfl (by decide) (gf := 29) (lb := #[.pointer (some ⟨w.heap.size + 3 + 1, 0, none⟩), .pointer (some ⟨w.heap.size + 3, 0, none⟩), .pointer (some ⟨w.heap.size + 3 + 2, 0, none⟩)]) rfl trivial (enters_of Tryd.func29 (by kernel_rfl) rfl)
    (split_own 4 (by decide) (w.heap.size + 3) S hS W0 hits (by omega)) (fun A B h => ab1_keeps A B h) kp3_t (kp3_b (by omega)) (fun _ => rfl)
    (PI w w.heap.size) (PX w w.heap.size) (by rw [hsz]; exact pi_own w _) (fun c => by rw [hsz]; exact px_own w _ c) (pi_bears w _) (px_bears w _) ⟨[], none, 0, rfl, hps0⟩
    (fun x => { tmps := #[.string S, undef, .pointer (some ⟨w.heap.size, 0, none⟩), .pointer (some ⟨w.heap.size + 1, 0, none⟩), .pointer (some ⟨w.heap.size + 2, 0, none⟩), .string x.1, undef, undef, .string S, .bool false, .string S, .func (.func 29) #[] #[.pointer (some ⟨w.heap.size + 3 + 1, 0, none⟩), .pointer (some ⟨w.heap.size + 3, 0, none⟩), .pointer (some ⟨w.heap.size + 3 + 2, 0, none⟩)], .string x.1, undef, undef, undef, undef, undef, undef, undef, undef, undef, undef, undef, undef, undef, undef, undef, undef], defers := [] }) ?assign ?body ?done ?stop
  case assign =>
    intro l x W K hK
    gi_wp2
    exact hK
  case body =>
    rintro l pre x W ⟨ls, ao, cap, hA, hps⟩ hlen
    have HA := hid hA
    have hll : Hid (ls.length ≤ 100000) := by
      have h1 := allA_len hA
      simp only [lists, List.length_map] at h1
      show ls.length ≤ 100000
      omega
    have HEW : Hid (Errs W) := by
      obtain ⟨⟨te, pe, g1⟩, ⟨te', pe', g2⟩⟩ := HE.out
      exact ⟨⟨te, pe, (hps.low.cell (World.block_lt_of_cell? w _ g1)).trans g1⟩, ⟨te', pe', (hps.low.cell (World.block_lt_of_cell? w _ g2)).trans g2⟩⟩
    have HSZ : Hid (w.heap.size + 6 ≤ W.heap.size) := hps.size
    have HPS := hid hps
    clear hA hps
    cases hv : numA x.1.data.toList with
    | some v =>
      have HV := hid hv
      clear hv
      gi_wp2_with (refine ⟨trivial, ?_⟩; gi_at_call 17; refine (CallsIn.inRound l (callsIn_wide.2 (atoi_ok x.1 v _ x.2 HV.out))).mono ?_; rintro e W1 ⟨rfl, hb1⟩; apply Hid.out)
      have hps1 := HPS.out.below hb1
      have HP1 := hid hps1
      have HS1 : Hid (w.heap.size + 6 ≤ W1.heap.size) := Nat.le_trans HSZ.out hb1.size
      have HB1 := hid hb1
      have cb := hps1.bl.cell
      obtain ⟨i0, hi, hz0, hz1, hz2⟩ := info_parts infoI
      clear hps1 hb1
      unfold Hid
      gi_wp2_with (gi_at_builtin; refine wpListIn_append_own _ rfl _ _ 22 rfl (w.heap.size + 6) 3 i0 (.int .i64 0) 1 8 Tryd.underlying22 hi hz0 hz1 hz2 rfl (by decide) _ _ _ rfl (HP1.out.own.alloc _) ⟨W1.heap.size, 0, none⟩ 1 1 [.int .i64 v] rfl rfl (cell_one_new _ _ _) (by simp [Value.oneCell']) (by have := hll.out; unfold maxLen; omega) (by have := hll.out; omega) (by have := HS1.out; simp; omega) ?_; intro v' w2 hown' hgrow _; apply Hid.out)
      obtain ⟨g', cap', rfl⟩ := ownsRow_succ hown'
      obtain ⟨hv1, hk2, hp3, hps2⟩ := HP1.out.app HS1.out hown' hgrow
      have hc1 := hv1.cell
      have hf1 := hv1.frozen
      have HK2 := hid hk2
      have HP3 := hid hp3
      have HPS2 := hid hps2
      clear hv1 hk2 hp3 hps2 hown' hgrow
      unfold Hid
      gi_wp2
      exact ⟨((keeps_below HB1.out).trans HK2.out).from _, kp3_t (kp3_below HSZ.out HB1.out) HP3.out, ⟨ls ++ [v], _, _, by rw [show lists (pre ++ [x]) = lists pre ++ [x.1.data.toList] by simp [lists], allA_snoc _ _ _ HA.out, HV.out], HPS2.out⟩⟩
    | none =>
      have HV := hid hv
      clear hv
      gi_wp2_with (refine ⟨trivial, ?_⟩; gi_at_call 17; refine (CallsIn.inRound l (callsIn_wide.2 (atoi_no x.1 _ x.2 HEW.out HV.out))).mono ?_; rintro e W1 ⟨y, q, rfl, hb1⟩; apply Hid.out)
      have hps1 := HPS.out.below hb1
      have c0 := hps1.r0.cell
      have f0 := hps1.r0.frozen
      have c1 := hps1.r1.cell
      have f1 := hps1.r1.frozen
      have HP1 := hid hps1
      have HB1 := hid hb1
      clear hps1 hb1
      unfold Hid
      gi_wp2
      have k0 := (HP1.out.r0.set (.slice none 0 0)).kept (grownBy_setCell' _ (w.heap.size + 1) (.int .i64 2)) (by simp)
      have k1 := (HP1.out.r1.kept (grownBy_setCell' _ w.heap.size (.slice none 0 0)) (by simp)).set (.int .i64 2)
      exact ⟨(((keeps_below HB1.out).trans (KeepsOthers.setCell _ _ _)).trans (KeepsOthers.setCell _ _ _)).from _, rfl, by rw [show lists (pre ++ [x]) = lists pre ++ [x.1.data.toList] by simp [lists], allA_snoc _ _ _ HA.out, HV.out], k0, k1, (HP1.out.low.setCell (p := ⟨w.heap.size, 0, none⟩) (Nat.le_refl _) _).setCell (p := ⟨w.heap.size + 1, 0, none⟩) (by simp) _⟩
  case done =>
    rintro D ys W hD hys ⟨ls, ao, cap, hA, hps⟩ hK
    rw [hys] at hA
    have HA := hid hA
    have hll : Hid (ls.length ≤ 100001) := by
      have h1 := allA_len hA
      have h2 := pieces_len S.data.toList
      have h3 : S.data.toList.length = S.size := rfl
      show ls.length ≤ 100001
      omega
    have cb := hps.bl.cell
    have HPS := hid hps
    have HK := hid hK
    have HD := hid hD
    clear hA hps hK hD hys
    by_cases hp : putT ls = S.data.toList
    · gi_wp2_with (refine ⟨trivial, ?_⟩; gi_at_call 11; refine (callsIn_wide.2 (put_any ao ls ls.length cap _ rfl (by have := hll.out; omega) (own_row HPS.out.own).1)).mono ?_; rintro e W1 ⟨rfl, hb1⟩; apply Hid.out)
      have hps1 := HPS.out.below hb1
      have c0 := hps1.r0.cell
      have f0 := hps1.r0.frozen
      have c1 := hps1.r1.cell
      have f1 := hps1.r1.frozen
      have c2 := hps1.bl.cell
      have HK1 : Hid (W1.heap[D]? = some (.deferred (some []))) := (keeps_below hb1).same D _ HK.out rfl
      have HP1 := hid hps1
      clear hps1 hb1
      unfold Hid
      gi_wp2
      have hk2 := ((KeepsOthers.setCell W1 ⟨w.heap.size, 0, none⟩ (.slice ao ls.length cap)).trans (KeepsOthers.setCell _ ⟨w.heap.size + 1, 0, none⟩ (.int .i64 0))).same D _ HK1.out rfl
      have k0 := (HP1.out.r0.set (.slice ao ls.length cap)).kept (grownBy_setCell' _ (w.heap.size + 1) (.int .i64 0)) (by simp)
      have k1 := (HP1.out.r1.kept (grownBy_setCell' _ w.heap.size (.slice ao ls.length cap)) (by simp)).set (.int .i64 0)
      have hown := own_base HP1.out.own (B' := w.heap.size) (fun k e => by have := (own_block HP1.out.own e).1; omega)
      have ho6 := fun k e => (own_block HP1.out.own (i := k) e).1
      have hown2 := own_kept (own_kept hown (kept_grown (grownBy_setCell' _ w.heap.size (.slice ao ls.length cap))) (fun i e e' => by have := ho6 i e; simp at e'; omega)) (kept_grown (grownBy_setCell' _ (w.heap.size + 1) (.int .i64 0))) (fun i e e' => by have := ho6 i e; simp at e'; omega)
      have hb2 := (HP1.out.low.setCell (p := ⟨w.heap.size, 0, none⟩) (Nat.le_refl _) (.slice ao ls.length cap)).setCell (p := ⟨w.heap.size + 1, 0, none⟩) (by simp) (.int .i64 0)
      refine ⟨by simp, .inl ⟨_, _, rfl, run_takeDeferred hk2, ?_⟩⟩
      have hc5 := cell_kept k0.cell (grownBy_putObj' _ D (.deferred none)) (fun r e => by cases e; exact ⟨_, hk2, rfl⟩)
      have hc6 := cell_kept k1.cell (grownBy_putObj' _ D (.deferred none)) (fun r e => by cases e; exact ⟨_, hk2, rfl⟩)
      refine ⟨.tuple #[.slice ao ls.length cap, .int .i64 0], ?_, .inl ⟨ls, ao, cap, ?_, rfl, ownsRow_putObj hown2 _ hk2 rfl, hb2.trans (belowK_b (w := w) (Nat.le_refl _) _ D _ _ (by have := HD.out; omega) hk2 rfl rfl)⟩⟩
      · simp [results, Tryd.f9, go_sem, hc5, hc6]
      · unfold parP
        rw [if_neg (by intro e; exact hS0.out (by rw [← ByteArray.size_data, ← Array.length_toList, e]; rfl)), HA.out]
        simp [hp]
    · have hpb : (putT ls == S.toList) = false := by rw [ByteArray.toList_eq]; simpa using hp
      gi_wp2_with (refine ⟨trivial, ?_⟩; gi_at_call 11; refine (callsIn_wide.2 (put_any ao ls ls.length cap _ rfl (by have := hll.out; omega) (own_row HPS.out.own).1)).mono ?_; rintro e W1 ⟨rfl, hb1⟩; apply Hid.out)
      have hps1 := HPS.out.below hb1
      have c0 := hps1.r0.cell
      have f0 := hps1.r0.frozen
      have c1 := hps1.r1.cell
      have f1 := hps1.r1.frozen
      have c2 := hps1.bl.cell
      have HK1 : Hid (W1.heap[D]? = some (.deferred (some []))) := (keeps_below hb1).same D _ HK.out rfl
      have HP1 := hid hps1
      clear hps1 hb1
      unfold Hid
      gi_wp2
      have hk2 := ((KeepsOthers.setCell W1 ⟨w.heap.size, 0, none⟩ (.slice none 0 0)).trans (KeepsOthers.setCell _ ⟨w.heap.size + 1, 0, none⟩ (.int .i64 2))).same D _ HK1.out rfl
      have k0 := (HP1.out.r0.set (.slice none 0 0)).kept (grownBy_setCell' _ (w.heap.size + 1) (.int .i64 2)) (by simp)
      have k1 := (HP1.out.r1.kept (grownBy_setCell' _ w.heap.size (.slice none 0 0)) (by simp)).set (.int .i64 2)
      have hb2 := (HP1.out.low.setCell (p := ⟨w.heap.size, 0, none⟩) (Nat.le_refl _) (.slice none 0 0)).setCell (p := ⟨w.heap.size + 1, 0, none⟩) (by simp) (.int .i64 2)
      refine ⟨by simp, .inl ⟨_, _, rfl, run_takeDeferred hk2, ?_⟩⟩
      have hc5 := cell_kept k0.cell (grownBy_putObj' _ D (.deferred none)) (fun r e => by cases e; exact ⟨_, hk2, rfl⟩)
      have hc6 := cell_kept k1.cell (grownBy_putObj' _ D (.deferred none)) (fun r e => by cases e; exact ⟨_, hk2, rfl⟩)
      refine ⟨.tuple #[.slice none 0 0, .int .i64 2], ?_, .inr ⟨?_, rfl, hb2.trans (belowK_b (w := w) (Nat.le_refl _) _ D _ _ (by have := HD.out; omega) hk2 rfl rfl)⟩⟩
      · simp [results, Tryd.f9, go_sem, hc5, hc6]
      · unfold parP
        rw [if_neg (by intro e; exact hS0.out (by rw [← ByteArray.size_data, ← Array.length_toList, e]; rfl)), HA.out]
        simp [hp]
  case stop =>
    rintro D c pre W hD hpre ⟨rfl, hA, h0, h1, hB⟩ hK
    gi_wp2
    refine ⟨by simp, .inl ⟨_, _, rfl, run_takeDeferred hK, ?_⟩⟩
    have hc5 := cell_kept h0.cell (grownBy_putObj' _ D (.deferred none)) (fun r e => by cases e; exact ⟨_, hK, rfl⟩)
    have hc6 := cell_kept h1.cell (grownBy_putObj' _ D (.deferred none)) (fun r e => by cases e; exact ⟨_, hK, rfl⟩)
    refine ⟨.tuple #[.slice none 0 0, .int .i64 2], ?_, .inr ⟨?_, rfl, hB.trans (belowK_b (w := w) (Nat.le_refl _) W D _ _ (by omega) hK rfl rfl)⟩⟩
    · simp [results, Tryd.f9, go_sem, hc5, hc6]
    · unfold parP
      rw [if_neg (by intro e; exact hS0.out (by rw [← ByteArray.size_data, ← Array.length_toList, e]; rfl)), allA_pre hpre hA]

set_option maxRecDepth 100000 in
set_option maxHeartbeats 1000000 in
theorem parse_none (w : World) :
    Calls Tryd.prog 9 #[.string ⟨#[]⟩] w fun e w' => e = .returned (.tuple #[.slice none 0 0, .int .i64 0]) ∧ Below w.heap.size w w' := by
  go_enter Tryd.func9, Tryd.ntmps9
  go_wp2
  refine bodyPost_ret (v := .tuple #[.slice none 0 0, .int .i64 0]) (by simp [results, Tryd.f9, go_sem]) rfl ⟨rfl, ?_⟩
  exact (alloc_below w _).alloc (by simp) _
/-- PARSE: THE SCRIPT WHOSE TEXT IT IS; NONE, AND 2. -/
theorem parse_any (S : ByteArray) (w : World) (hS : S.size ≤ 100000) (HE : Errs w) :
    Calls Tryd.prog 9 #[.string S] w fun e w' => (∃ ls ao cap, parP S.data.toList = some ls ∧ e = .returned (.tuple #[.slice ao ls.length cap, .int .i64 0]) ∧ Mine w' w.heap.size ao cap ls ∧ Below w.heap.size w w') ∨ (parP S.data.toList = none ∧ e = .returned (.tuple #[.slice none 0 0, .int .i64 2]) ∧ Below w.heap.size w w') := by
  by_cases h0 : S.size = 0
  · obtain ⟨⟨d⟩⟩ := S
    have hd : d = [] := List.eq_nil_of_length_eq_zero (by simpa [ByteArray.size] using h0)
    subst hd
    refine (parse_none w).mono ?_
    rintro e w' ⟨rfl, hb⟩
    exact .inl ⟨[], none, 0, rfl, rfl, mine_nil _ _, hb⟩
  · exact (callsIn_wide (n := 5)).1 (parse_in S w hS h0 HE)
/-- A script's own text: the script. -/
theorem parse_yes (S : ByteArray) (ls : List Int) (w : World) (hS : S.size ≤ 100000) (HE : Errs w) (h : parP S.data.toList = some ls) :
    Calls Tryd.prog 9 #[.string S] w fun e w' => ∃ ao cap, e = .returned (.tuple #[.slice ao ls.length cap, .int .i64 0]) ∧ Mine w' w.heap.size ao cap ls ∧ Below w.heap.size w w' := by
  refine (parse_any S w hS HE).mono ?_
  rintro e w' (⟨m, ao, cap, h1, rfl, h2, h3⟩ | ⟨h1, _⟩)
  · rw [h] at h1
    injection h1 with h1
    subst h1
    exact ⟨ao, cap, rfl, h2, h3⟩
  · rw [h] at h1; cases h1
theorem parse_no (S : ByteArray) (w : World) (hS : S.size ≤ 100000) (HE : Errs w) (h : parP S.data.toList = none) :
    Calls Tryd.prog 9 #[.string S] w fun e w' => e = .returned (.tuple #[.slice none 0 0, .int .i64 2]) ∧ Below w.heap.size w w' := by
  refine (parse_any S w hS HE).mono ?_
  rintro e w' (⟨m, ao, cap, h1, _⟩ | ⟨_, rfl, h3⟩)
  · rw [h] at h1; cases h1
  · exact ⟨rfl, h3⟩
end Go.Proofs.YtaooijjppdfnfabDoor.Sc
