/- What strings.SplitSeq hands over at a blank: what lies between the blanks, one piece behind the other. -/
import Derived.Test.YtaooijjppdfnfabDoorScRPut
import Derived.Lib.IndexLaws
namespace Go.Proofs.YtaooijjppdfnfabDoor.Sc
open Go.RowKit Go.Shelf
attribute [local go_sem] Oper.semAt_some

/-- The blocks C, C + 1, C + 2 lie as they lay. -/
def Kp3 (C : Nat) (W W' : World) : Prop := ∀ k, C ≤ k → k < C + 3 → W'.heap[k]? = W.heap[k]?
/-- The first of them is written. -/
def Ab1 (C : Nat) (W W' : World) : Prop := ∃ v, W' = W.setCell ⟨C, 0, none⟩ v
theorem kp3_t {C : Nat} {a b c : World} (h : Kp3 C a b) (k : Kp3 C b c) : Kp3 C a c := fun i h1 h2 => (k i h1 h2).trans (h i h1 h2)
theorem kp3_b {C : Nat} {w : World} (hC : C + 3 ≤ w.heap.size) (W : World) (l : Nat) (o o' : Obj) (hl : w.heap.size ≤ l) (_ : W.heap[l]? = some o) (_ : o.isCells = false) (_ : o.isWalk = false) : Kp3 C W (W.putObj l o') :=
  fun k _ h2 => World.putObj_heap_other (by omega)
theorem ab1_keeps {C d : Nat} (A B : World) (h : Ab1 C A B) : KeepsFrom d A B := by
  obtain ⟨v, rfl⟩ := h
  exact (KeepsOthers.setCell _ _ _).from _
/-- The iterator's three variables. -/
structure Its (C : Nat) (W : World) (S : ByteArray) : Prop where
  s : W.heap[C]? = some (.cells #[.string S] 9 (0, 0))
  sep : W.heap[C + 1]? = some (.cells #[.string ⟨#[32]⟩] 9 (0, 0))
  save : W.heap[C + 2]? = some (.cells #[.int .i64 0] 3 (0, 0))
theorem Its.kept {C : Nat} {W W' : World} {S : ByteArray} (h : Its C W S) (k : Kp3 C W W') : Its C W' S :=
  ⟨(k _ (by omega) (by omega)).trans h.s, (k _ (by omega) (by omega)).trans h.sep, (k _ (by omega) (by omega)).trans h.save⟩
theorem Its.set {C : Nat} {W : World} {S : ByteArray} (h : Its C W S) (S' : ByteArray) : Its C (W.setCell ⟨C, 0, none⟩ (.string S')) S' := by
  refine ⟨?_, (Below.heap_setCell _ _ _ _ (by simp)).trans h.sep, (Below.heap_setCell _ _ _ _ (by simp)).trans h.save⟩
  simp [World.setCell, Array.getElem?_modify, h.s]
theorem Its.cells {C : Nat} {W : World} {S : ByteArray} (h : Its C W S) : W.cell? ⟨C, 0, none⟩ = some (.string S) ∧ W.frozen? ⟨C, 0, none⟩ = false ∧ W.cell? ⟨C + 1, 0, none⟩ = some (.string ⟨#[32]⟩) ∧ W.cell? ⟨C + 2, 0, none⟩ = some (.int .i64 0) :=
  ⟨by simp [World.cell?, h.s], by simp [World.frozen?, h.s], by simp [World.cell?, h.sep], by simp [World.cell?, h.save]⟩
def left (C : Nat) (W : World) : Nat := match W.cell? ⟨C, 0, none⟩ with
  | some (.string S) => S.size
  | _ => 0
theorem Its.left {C : Nat} {W : World} {S : ByteArray} (h : Its C W S) : left C W = S.size := by simp [Sc.left, h.cells.1]
theorem ext_max {S : ByteArray} (h : S.size ≤ 100000) (o : Nat) : (S.extract 0 o).size ≤ 100000 := by rw [ByteArray.size_extract]; omega
/-- A piece that is not too long. -/
abbrev Pc := { x : ByteArray // x.size ≤ 100000 }
def lists (xs : List Pc) : List (List UInt8) := xs.map fun x => x.1.data.toList

theorem piece_none {l : List UInt8} (h : Lib.indexByte l 32 = -1) : pieces l = [l] := pieces_none fun c hc e => by
  obtain ⟨k, hk⟩ := List.getElem?_of_mem hc
  exact Lib.indexByte_none h k (by rw [hk, e])
theorem piece_some {l : List UInt8} {o : Nat} (h : Lib.indexByte l 32 = o) : o < l.length ∧ pieces l = l.take o :: pieces (l.drop (o + 1)) := by
  obtain ⟨h1, h2⟩ := Lib.indexByte_some h
  obtain ⟨ho, he⟩ := List.getElem?_eq_some_iff.1 h1
  refine ⟨ho, ?_⟩
  have hsplit : l = l.take o ++ 32 :: l.drop (o + 1) := by
    rw [← he, List.getElem_cons_drop, List.take_append_drop]
  conv => lhs; rw [hsplit]
  refine pieces_blank _ fun c hc e => ?_
  obtain ⟨k, hk⟩ := List.getElem?_of_mem hc
  have hk2 := (List.getElem?_eq_some_iff.1 hk).1
  have : k < o := by simp at hk2; omega
  refine h2 k this ?_
  rw [List.getElem?_take_of_lt this] at hk
  rw [hk, e]
theorem ba_take (S : ByteArray) (o : Nat) : (S.extract 0 o).data.toList = S.data.toList.take o := by simp
theorem ba_drop (S : ByteArray) (o : Nat) : (S.extract o S.size).data.toList = S.data.toList.drop o := by
  rw [ByteArray.data_extract, Array.toList_extract, List.extract_eq_take_drop]
  exact List.take_of_length_le (by rw [List.length_drop, Array.length_toList]; exact Nat.le_refl _)

set_option maxRecDepth 100000 in
set_option maxHeartbeats 2000000 in
theorem split1_in (n : Nat) (hn : 1 ≤ n) (l C : Nat) (S0 : ByteArray) (hS0 : Hid (S0.size ≤ 100000)) (J Jx : List Pc → World → Prop) (hJ : Hid (Bears (Ab1 C) J))
    (hY : ∀ pre x W, J pre W → pre.length < S0.size + 1 → YieldAt Fence.wide (n - 1) Tryd.prog l #[.string x.1] W fun e W' =>
      (e = .returned (.bool true) ∧ J (pre ++ [x]) W' ∧ Kp3 C W W') ∨ (e = .returned (.bool false) ∧ Jx (pre ++ [x]) W'))
    (W : World) (hI : Hid (Its C W S0)) (h0 : Hid (J [] W)) :
    CallsIn Fence.wide n Tryd.prog 29 #[.func (.yield l) #[] #[], .pointer (some ⟨C + 1, 0, none⟩), .pointer (some ⟨C, 0, none⟩), .pointer (some ⟨C + 2, 0, none⟩)] W fun e W' => (∃ v, e = .returned v) ∧
      ((∃ ys, lists ys = pieces S0.data.toList ∧ J ys W') ∨ (∃ pre, lists pre <+: pieces S0.data.toList ∧ Jx pre W')) := by
  refine callsIn_of_wp Tryd.func29 rfl trivial ?_ rfl
  simp only [Tryd.ntmps29, List.size_toArray, List.length_cons, List.length_nil, Nat.reduceAdd, Nat.reduceSub, Array.replicate_succ, Array.replicate_zero, List.push_toArray, List.append_toArray, List.nil_append, List.cons_append]
  obtain ⟨c1, c2, c3, c4⟩ := hI.out.cells
  gi_wp2
  clear c1 c2 c3 c4
  gi_loopw [7] (fun _ wr => ∃ (pre : List Pc) (S : ByteArray), Hid (lists pre ++ pieces S.data.toList = pieces S0.data.toList) ∧ Hid (Its C wr S) ∧ Hid (J pre wr) ∧ Hid (pre.length + S.size ≤ S0.size)) (fun _ wr => left C wr)
  case atStart => exact ⟨[], S0, by simp [lists, Hid], hI, h0, by simp [Hid]⟩
  case round =>
    obtain ⟨pre, S, HP, HI, HJ, HL⟩ := hrel
    obtain ⟨c1, c2, c3, c4⟩ := HI.out.cells
    have hx := Lib.indexByte_ge S.data.toList 32
    have hSmax : S.size ≤ 100000 := by have := HL.out; have := hS0.out; omega
    by_cases hm : Lib.indexByte S.data.toList 32 = -1
    · obtain ⟨fn, tmps, assign, body, hy, hR⟩ := hY pre ⟨S, hSmax⟩ wr HJ.out (by have := HL.out; omega)
      dsimp only at hy
      have HM : Hid (lists (pre ++ [⟨S, hSmax⟩]) = pieces S0.data.toList) := by
        show lists (pre ++ [⟨S, hSmax⟩]) = _
        rw [← HP.out, piece_none hm]; simp [lists]
      gi_wp2_with (refine ⟨trivial, ?_⟩; gi_at_call 31; refine (callsIn_wide.2 (Tryd.strings_Index_one S 32 _)).mono ?_; rintro e w' ⟨rfl, rfl⟩)
      refine hR.mono ?_
      rintro e W3 (⟨rfl, hJ3, hk3⟩ | ⟨rfl, hJx3⟩)
      · gi_wp2
        go_end0
        exact ⟨⟨_, rfl⟩, .inl ⟨_, HM.out, hJ3⟩⟩
      · gi_wp2
        go_end0
        exact ⟨⟨_, rfl⟩, .inr ⟨_, by rw [HM.out]; exact List.prefix_refl _, hJx3⟩⟩
    · obtain ⟨o, ho⟩ : ∃ o : Nat, Lib.indexByte S.data.toList 32 = o := ⟨(Lib.indexByte S.data.toList 32).toNat, by omega⟩
      obtain ⟨ho1, ho2⟩ := piece_some ho
      have hoS : o < S.size := by rw [Array.length_toList] at ho1; exact ho1
      have HO2 := hid ho2
      clear ho1 ho2 hm hx
      obtain ⟨fn, tmps, assign, body, hy, hR⟩ := hY pre ⟨S.extract 0 o, ext_max hSmax o⟩ wr HJ.out (by have := HL.out; omega)
      dsimp only at hy
      gi_wp2_with (refine ⟨trivial, ?_⟩; gi_at_call 31; refine (callsIn_wide.2 (Tryd.strings_Index_one S 32 _)).mono ?_; rintro e w' ⟨rfl, rfl⟩)
      refine hR.mono ?_
      rintro e W3 (⟨rfl, hJ3, hk3⟩ | ⟨rfl, hJx3⟩)
      · obtain ⟨d1, d2, d3, d4⟩ := (HI.out.kept hk3).cells
        have HI3 := hid (HI.out.kept hk3)
        have HJ3 := hid hJ3
        clear hJ3 hk3
        gi_wp2
        go_roundw
        case rel =>
          refine ⟨_, S.extract (o + 1) S.size, ?_, hid (HI3.out.set _), hid (hJ.out _ _ _ HJ3.out ⟨_, rfl⟩), ?_⟩
          · show _ = _
            rw [ba_drop, ← HP.out, HO2.out]
            simp [lists]
          · have := HL.out
            show _ ≤ _
            rw [ByteArray.size_extract, List.length_append]
            simp
            omega
        case measure =>
          rw [(HI3.out.set _).left, HI.out.left, ByteArray.size_extract]
          omega
      · gi_wp2
        refine bodyPost_ret (results_none rfl _ _ _) rfl ?_
        refine ⟨⟨_, rfl⟩, .inr ⟨_, ?_, hJx3⟩⟩
        rw [← HP.out, HO2.out]
        simp [lists]

set_option maxHeartbeats 1000000 in
theorem splitSeq_any (S : ByteArray) (w : World) :
    Calls Tryd.prog 16 #[.string S, .string ⟨#[32]⟩] w fun e w' => e = .returned (.func (.func 29) #[] #[.pointer (some ⟨w.heap.size + 1, 0, none⟩), .pointer (some ⟨w.heap.size, 0, none⟩), .pointer (some ⟨w.heap.size + 2, 0, none⟩)]) ∧
      w' = ((w.alloc (.cells #[.string S] 9)).alloc (.cells #[.string ⟨#[32]⟩] 9)).alloc (.cells #[.int .i64 0] 3) := by
  go_enter Tryd.func16, Tryd.ntmps16
  go_wp2
  go_ret
  exact ⟨by simp, rfl⟩
theorem its_new (S : ByteArray) (w : World) : Its w.heap.size (((w.alloc (.cells #[.string S] 9)).alloc (.cells #[.string ⟨#[32]⟩] 9)).alloc (.cells #[.int .i64 0] 3)) S := by
  have a1 := World.alloc_heap_new w (.cells #[.string S] 9)
  have a2 := World.alloc_heap_new (w.alloc (.cells #[.string S] 9)) (.cells #[.string ⟨#[32]⟩] 9)
  have a3 := World.alloc_heap_new ((w.alloc (.cells #[.string S] 9)).alloc (.cells #[.string ⟨#[32]⟩] 9)) (.cells #[.int .i64 0] 3)
  simp only [World.size_alloc] at a2 a3
  exact ⟨(Below.heap_alloc _ _ _ (by simp; omega)).trans ((Below.heap_alloc _ _ _ (by simp)).trans a1), (Below.heap_alloc _ _ _ (by simp)).trans a2, a3⟩
theorem split_own (n : Nat) (hn : 1 ≤ n) (C : Nat) (S : ByteArray) (hS : S.size ≤ 100000) (w : World) (hI : Its C w S) (hC : C + 3 ≤ w.heap.size) :
    SeqOwn Fence.wide n Tryd.prog 29 #[.pointer (some ⟨C + 1, 0, none⟩), .pointer (some ⟨C, 0, none⟩), .pointer (some ⟨C + 2, 0, none⟩)] (fun x : Pc => #[Value.string x.1]) (Ab1 C) (Kp3 C)
      (fun ys => lists ys = pieces S.data.toList) (fun pre => lists pre <+: pieces S.data.toList) (S.size + 1) w := fun l J Jx W hW hJ _ hY h0 =>
  split1_in n hn l C S hS J Jx hJ hY W (hI.kept fun k _ h2 => hW.block k (by omega)) h0
end Go.Proofs.YtaooijjppdfnfabDoor.Sc
