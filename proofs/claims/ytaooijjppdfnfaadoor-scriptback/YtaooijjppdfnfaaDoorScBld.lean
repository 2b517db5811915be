/- What a strings.Builder's copyCheck, WriteByte, WriteString do at a builder that the call has made itself. -/
import Derived.Test.YtaooijjppdfnfaaDoorScShelf
import Derived.Test.YtaooijjppdfnfaaDoorScW1
namespace Go.Proofs.YtaooijjppdfnfaaDoor.Sc
open Go.RowKit

theorem sizeB : (Tryd.prog.info? 51).map (·.size) = some 2 := by kernel_rfl
theorem liesB : liesAt Tryd.prog Tryd.prog.depth 51 (2 / Tryd.prog.cellsOf 51) 0 51 1 = true := by kernel_rfl
theorem infoU8 : (Tryd.prog.info? 5).map (fun i => (i.zero, i.size, i.bytes)) = some (some (.int .u8 0), 1, 1) := by kernel_rfl

theorem conv_to (b : Nat) (w : World) (hsh : w.shape? b = some (51, 2)) : (convert 48 72 (.pointer (some ⟨b, 0, none⟩))).run Tryd.prog w = .ok (.pointer (some ⟨b, 0, none⟩)) w := by
  obtain ⟨j, hj, hjs⟩ := Option.map_eq_some_iff.1 sizeB
  simp only [convert, Sem.run_bind, run_underlying Tryd.underlying48, run_underlying Tryd.underlying72, Result.andThen_ok]
  show Sem.run Tryd.prog (Sem.program _) w = _
  simp [Sem.run, Sem.run_bind', Tryd.underlying48, run_underlying Tryd.underlying72, Conv.seenAt, viewAt, cellsIn, hsh, hj, hjs, sizeOf, typeInfo]
theorem conv_from (b : Nat) (w : World) (hsh : w.shape? b = some (51, 2)) : (convert 72 48 (.pointer (some ⟨b, 0, none⟩))).run Tryd.prog w = .ok (.pointer (some ⟨b, 0, none⟩)) w := by
  obtain ⟨j, hj, hjs⟩ := Option.map_eq_some_iff.1 sizeB
  simp only [convert, Sem.run_bind, run_underlying Tryd.underlying48, run_underlying Tryd.underlying72, Result.andThen_ok]
  show Sem.run Tryd.prog (Sem.program _) w = _
  simp [Sem.run, Sem.run_bind', Tryd.underlying72, run_underlying Tryd.underlying48, Conv.seenAt, viewAt, variablesAt, liesB, hsh, hj, hjs, sizeOf, typeInfo]

set_option maxHeartbeats 1000000 in
set_option maxRecDepth 100000 in
theorem copy_used (b : Nat) (w : World) (h0 : w.cell? ⟨b, 0, none⟩ = some (.pointer (some ⟨b, 0, none⟩))) :
    Calls Tryd.prog 40 #[.pointer (some ⟨b, 0, none⟩)] w fun e w' => e = .returned (.tuple #[]) ∧ w' = w := by
  obtain ⟨j, hj, _⟩ := Option.map_eq_some_iff.1 sizeB
  have q := Lib.run_neq_ptr_same (P := Tryd.prog) w ⟨b, 0, none⟩ Tryd.underlying48 hj
  go_enter Tryd.func40, Tryd.ntmps40
  go_wp2
  go_end0
  exact ⟨rfl, rfl⟩

set_option maxHeartbeats 1000000 in
set_option maxRecDepth 100000 in
theorem copy_fresh (b : Nat) (w : World) (h0 : w.cell? ⟨b, 0, none⟩ = some (.pointer none)) (hsh : w.shape? b = some (51, 2)) (hfz : w.frozen? ⟨b, 0, none⟩ = false) :
    Calls Tryd.prog 40 #[.pointer (some ⟨b, 0, none⟩)] w fun e w' => e = .returned (.tuple #[]) ∧ w' = w.setCell ⟨b, 0, none⟩ (.pointer (some ⟨b, 0, none⟩)) := by
  obtain ⟨j, hj, _⟩ := Option.map_eq_some_iff.1 sizeB
  have q := fun W => Lib.run_neq_ptr_same (P := Tryd.prog) W ⟨b, 0, none⟩ Tryd.underlying48 hj
  have q1 := conv_to b w hsh
  have q2 := conv_from b w hsh
  go_enter Tryd.func40, Tryd.ntmps40
  go_wp2
  rw [run_callFunc_extern Tryd.func51 (by kernel_rfl) (by kernel_rfl) (by kernel_rfl) (e := Extern.AbiNoEscape.same) (by kernel_rfl)]
  rw [Lib.run_noEscape]
  simp only [Result.andThen]
  rw [Oper.upon_value]
  go_wp2
  go_end0
  exact ⟨rfl, rfl⟩

theorem copy_any (B b : Nat) (bs : List Value) (w : World) (h : Lib.IsBuilder 51 5 B b bs w) :
    Calls Tryd.prog 40 #[.pointer (some ⟨b, 0, none⟩)] w fun e w' => e = .returned (.tuple #[]) ∧ Lib.BuilderAt 51 5 B b (.pointer (some ⟨b, 0, none⟩)) bs w' ∧ Below B w w' := by
  rcases h with h | h
  · refine (copy_fresh b w h.cell0 h.shape h.frozen0).mono ?_
    rintro e w' ⟨rfl, rfl⟩
    exact ⟨rfl, h.used _, (Below.refl B w).setCell (p := ⟨b, 0, none⟩) h.1 _⟩
  · refine (copy_used b w h.cell0).mono ?_
    rintro e w' ⟨rfl, rfl⟩
    exact ⟨rfl, h, Below.refl B _⟩

/-- A buffer that has grown, beside the builder itself. -/
theorem bld_kept {w w' : World} {b : Nat} {p v : Value} {row : Option Nat} (hb : w.heap[b]? = some (.cells #[p, v] 51 (0, 0))) (hg : w.grownBy w' row) (hne : row ≠ some b) : w'.heap[b]? = some (.cells #[p, v] 51 (0, 0)) :=
  (hg.block b (Array.getElem?_eq_some_iff.1 hb).1 (fun e => hne e.symm)).trans hb

set_option maxHeartbeats 2000000 in
set_option maxRecDepth 100000 in
theorem wbyte_any (B b : Nat) (bs : List Value) (c : Int) (w : World) (h : Hid (Lib.IsBuilder 51 5 B b bs w)) (hlen : Hid (bs.length + 1 ≤ 100000000)) (hBw : Hid (B ≤ w.heap.size)) :
    Calls Tryd.prog 30 #[.pointer (some ⟨b, 0, none⟩), .int .u8 c] w fun e w' => e = .returned .nilIface ∧ Lib.BuilderAt 51 5 B b (.pointer (some ⟨b, 0, none⟩)) (bs ++ [.int .u8 c]) w' ∧ Below B w w' := by
  obtain ⟨i0, hi, hz0, hz1, hz2⟩ := info_parts infoU8
  go_enter Tryd.func30, Tryd.ntmps30
  go_wp2_with (go_at_call 40; refine (copy_any B b bs _ h.out).mono ?_; rintro e w1 ⟨rfl, h1, hb1⟩; obtain ⟨hB, v, hbk, hown, hne⟩ := h1; apply Hid.out)
  have HB1 := hid hb1
  have HBK := hid hbk
  have HOW := hid hown
  have HNE := hid hne
  have HB0 := hid hB
  have hsz := hid hb1.size
  have c1 : w1.cell? ⟨b, 1, none⟩ = some v := by rw [Lib.cell_of_heap hbk]; rfl
  clear hb1 hbk hown hne hB
  unfold Hid
  go_wp2_with (at_builtin; refine wpList_append_own _ rfl _ _ 49 rfl B 5 i0 (.int .u8 0) 1 1 Tryd.underlying49 hi hz0 hz1 hz2 rfl (by decide) _ _ _ rfl (HOW.out.alloc _) ⟨w1.heap.size, 0, none⟩ 1 1 [.int .u8 c] rfl rfl (by intro t u ht; match t, ht with | 0, ht => simp at ht; subst ht; simp [Addr.add]) (by intro u hu; simp at hu; subst hu; rfl) (by have := hlen.out; unfold maxLen; omega) (by have := hlen.out; omega) (by have := hBw.out; have := hsz.out; simp; omega) ?_; intro v' w2 hown' hgrow _; apply Hid.out)
  have hbk1 : (w1.alloc (.cells #[.int .u8 c] 5)).heap[b]? = some (.cells #[.pointer (some ⟨b, 0, none⟩), v] 51 (0, 0)) := (Lib.alloc_old w1 _ b (Array.getElem?_eq_some_iff.1 HBK.out).1).trans HBK.out
  have hbk2 := bld_kept hbk1 hgrow HNE.out
  have HB2 := hid hbk2
  have d1 : w2.cell? ⟨b, 1, none⟩ = some v := by rw [Lib.cell_of_heap hbk2]; rfl
  have f1 : w2.frozen? ⟨b, 1, none⟩ = false := Lib.frozen_of_heap hbk2 1
  obtain ⟨g, cap, rfl⟩ : ∃ g cap, v' = .slice (some ⟨g, 0, none⟩) (bs.length + 1) cap := by
    rcases hown'.2 with ⟨_, h0⟩ | ⟨g, cap, cur, hv, _⟩
    · omega
    · exact ⟨g, cap, hv⟩
  have HO2 := hid hown'
  have HLOW : Hid (Below B w w2) := (HB1.out.alloc (by have := hBw.out; have := hsz.out; omega) _).grown hgrow (by have := hBw.out; have := hsz.out; simp; omega) (fun k hk => (HOW.out.lt k hk).1)
  clear hbk1 hbk2 hown' hgrow
  unfold Hid
  go_wp2
  go_ret
  exact ⟨rfl, Lib.BuilderAt.put (T := 51) (e := 5) HB0.out HB2.out (bs' := bs ++ [.int .u8 c]) (by simpa using HO2.out) (by decide), HLOW.out.setCell (p := ⟨b, 1, none⟩) HB0.out _⟩

set_option maxHeartbeats 2000000 in
set_option maxRecDepth 100000 in
theorem wstr_any (B b : Nat) (bs : List Value) (s : ByteArray) (w : World) (h : Hid (Lib.IsBuilder 51 5 B b bs w)) (hlen : Hid (bs.length + s.size ≤ 100000000)) (hBw : Hid (B ≤ w.heap.size)) :
    Calls Tryd.prog 31 #[.pointer (some ⟨b, 0, none⟩), .string s] w fun e w' => e = .returned (.tuple #[.int .i64 s.size, .nilIface]) ∧ Lib.BuilderAt 51 5 B b (.pointer (some ⟨b, 0, none⟩)) (bs ++ Lib.strCells s) w' ∧ Below B w w' := by
  obtain ⟨i0, hi, hz0, hz1, hz2⟩ := info_parts infoU8
  go_enter Tryd.func31, Tryd.ntmps31
  go_wp2_with (go_at_call 40; refine (copy_any B b bs _ h.out).mono ?_; rintro e w1 ⟨rfl, h1, hb1⟩; obtain ⟨hB, v, hbk, hown, hne⟩ := h1; apply Hid.out)
  have HB1 := hid hb1
  have HBK := hid hbk
  have HOW := hid hown
  have HNE := hid hne
  have HB0 := hid hB
  have hsz := hid hb1.size
  have c1 : w1.cell? ⟨b, 1, none⟩ = some v := by rw [Lib.cell_of_heap hbk]; rfl
  clear hb1 hbk hown hne hB
  unfold Hid
  go_wp2_with (at_builtin; refine Lib.wpList_append_own_string _ rfl _ _ 49 9 rfl B 5 i0 Tryd.underlying49 Tryd.underlying9 hi hz0 hz1 hz2 _ _ _ rfl HOW.out s rfl (by have := hlen.out; unfold maxLen; omega) (by have := hlen.out; omega) (by have := hBw.out; have := hsz.out; omega) ?_; intro v' w2 hown' hgrow _; apply Hid.out)
  have hbk2 := bld_kept HBK.out hgrow HNE.out
  have HB2 := hid hbk2
  have d1 : w2.cell? ⟨b, 1, none⟩ = some v := by rw [Lib.cell_of_heap hbk2]; rfl
  have f1 : w2.frozen? ⟨b, 1, none⟩ = false := Lib.frozen_of_heap hbk2 1
  obtain ⟨ao, n', cap, rfl⟩ : ∃ ao n' cap, v' = .slice ao n' cap := by
    rcases hown'.2 with ⟨hv, _⟩ | ⟨g, cap, cur, hv, _⟩
    · exact ⟨_, _, _, hv⟩
    · exact ⟨_, _, _, hv⟩
  have HO2 := hid hown'
  have HLOW : Hid (Below B w w2) := HB1.out.grown hgrow (by have := hBw.out; have := hsz.out; omega) (fun k hk => (HOW.out.lt k hk).1)
  clear hbk2 hown' hgrow
  unfold Hid
  go_wp2
  go_ret2
  exact ⟨rfl, Lib.BuilderAt.put (T := 51) (e := 5) HB0.out HB2.out (bs' := bs ++ Lib.strCells s) (by simpa [Lib.strCells_length] using HO2.out) (by decide), HLOW.out.setCell (p := ⟨b, 1, none⟩) HB0.out _⟩
end Go.Proofs.YtaooijjppdfnfaaDoor.Sc
