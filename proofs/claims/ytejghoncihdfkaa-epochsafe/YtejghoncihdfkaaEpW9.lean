/- What the program's New does. -/
import Derived.Test.YtejghoncihdfkaaEpW4
import Derived.Test.YtejghoncihdfkaaEpRNew
namespace Go.Proofs.Ytejghoncihdfkaa.Ep
open Go.RowKit

theorem hds_zero (m : Nat) : hds (List.replicate m Hd.zero) = List.replicate m (.slice none 0 0) := by simp [hds, Hd.v, Hd.zero]
theorem made_one (u : Value) (m : Nat) : (madeCells #[u] m).toList = List.replicate m u := by
  apply List.ext_getElem
  · simp [madeCells]
  · intro i h1 h2
    simp only [madeCells, Array.toList_map, List.getElem_map, List.getElem_replicate]
    have : ∀ j, j < 1 → (#[u])[j]! = u := by
      intro j hj
      obtain rfl : j = 0 := by omega
      rfl
    exact this _ (Nat.mod_lt _ (by simp))
theorem make_I (m : Nat) (hm : m ≤ 1000) : ∃ CI : Array Value, CI.toList = vals (List.replicate m 0) ∧ ∀ w : World, (Instr.makeSlice 22 (.int .i64 m) (.int .i64 m)).run Try.prog w = .ok (.slice (some ⟨w.heap.size, 0, none⟩) m m) (w.alloc (.cells CI 2)) := by
  obtain ⟨i0, hi, hz0, hz1, hz2⟩ := info_of infoI
  refine ⟨madeCells #[Value.int .i64 0] m, by rw [made_one]; simp [vals], fun w => ?_⟩
  have h := run_make (P := Try.prog) w 22 2 i0 _ Try.underlying22 hi hz0 .i64 .i64 m m (by omega) (by omega) (by rw [hz2]; omega) (by omega)
  rw [hz1] at h
  simpa [Value.cells] using h
theorem make_L (m : Nat) (hm : m ≤ 1000) : ∃ CL : Array Value, CL.toList = hds (List.replicate m Hd.zero) ∧ ∀ w : World, (Instr.makeSlice 23 (.int .i64 m) (.int .i64 m)).run Try.prog w = .ok (.slice (some ⟨w.heap.size, 0, none⟩) m m) (w.alloc (.cells CL 49)) := by
  obtain ⟨i0, hi, hz0, hz1, hz2⟩ := info_of infoS
  refine ⟨madeCells #[Value.slice none 0 0] m, by rw [made_one, hds_zero], fun w => ?_⟩
  have h := run_make (P := Try.prog) w 23 49 i0 _ Try.underlying23 hi hz0 .i64 .i64 m m (by omega) (by omega) (by rw [hz2]; omega) (by omega)
  rw [hz1] at h
  simpa [Value.cells] using h
theorem own_made {V : World} {B p m : Nat} {T : TypeId} {C : Array Value} {cs : List Value} (hm : m ≤ 1000) (hB : B ≤ p) (hC : C.toList = cs) (hl : cs.length = m) (h : V.heap[p]? = some (.cells C T (0, 0))) : V.ownsRow B T 1 (.slice (some ⟨p, 0, none⟩) m m) m cs := by
  have hs : C.size = m := by rw [← Array.length_toList, hC, hl]
  refine ⟨by rw [hl]; omega, .inr ⟨p, m, C, rfl, hB, h, Nat.le_refl _, by unfold maxLen; omega, by omega, ?_⟩⟩
  rw [hC, List.take_of_length_le (by rw [hl]; omega)]
/-- New epochs: their two lists, each in a block of its own. -/
theorem new_has {w V wf : World} {p q m : Nat} {CI CL : Array Value} {Av : Nat → Prop} (hm : m ≤ 1000) (hCI : CI.toList = vals (List.replicate m 0)) (hCL : CL.toList = hds (List.replicate m Hd.zero)) (hp : V.heap[p]? = some (.cells CI 2 (0, 0))) (hq : V.heap[q]? = some (.cells CL 49 (0, 0))) (bp : w.heap.size + 1 ≤ p) (bq : w.heap.size + 1 ≤ q)
    (hk : Kept (fun i => i = w.heap.size) V wf) (hA : ∀ i, Av i → i < w.heap.size) : HasE wf Av ⟨⟨some ⟨p, 0, none⟩, m, m⟩, ⟨some ⟨q, 0, none⟩, m, m⟩⟩ ⟨1, List.replicate m 0, List.replicate m []⟩ := by
  have o1 := own_kept (own_made (B := w.heap.size + 1) hm bp hCI (by simp) hp) hk (fun k e s => by have e2 := Option.some.inj e; simp only at e2; omega)
  have o2 := own_kept (own_made (B := w.heap.size + 1) hm bq hCL (by simp [hds]) hq) hk (fun k e s => by have e2 := Option.some.inj e; simp only at e2; omega)
  obtain ⟨r1, r2, r3, r4⟩ := own_row o2
  refine ⟨(own_mine o1).has, own_off o1 (fun i s => by have := hA i s; omega), List.replicate m Hd.zero, ?_⟩
  have z : ∀ i, i < m → (List.replicate m Hd.zero).getD i Hd.zero = Hd.zero ∧ (List.replicate m ([] : List W)).getD i [] = [] := by
    intro i hi
    exact ⟨by simp [List.getD, hi], by simp [List.getD, hi]⟩
  refine ⟨by simp, by simp, r3, r2, r1, own_off o2 (fun i s => by have := hA i s; omega), fun i hi => ?_, fun i hi => ?_⟩
  · simp only [List.length_replicate] at hi
    rw [(z i hi).1, (z i hi).2]
    exact hasW_nil _
  · simp only [List.length_replicate] at hi
    rw [(z i hi).1, (z i hi).2]
    exact fun h0 => absurd h0 (by decide)
theorem three (w : World) (o0 o1 o2 : Obj) : (((w.alloc o0).alloc o1).alloc o2).heap[w.heap.size + 1]? = some o1 ∧ (((w.alloc o0).alloc o1).alloc o2).heap[w.heap.size + 1 + 1]? = some o2 := by
  refine ⟨?_, ?_⟩
  · show (((w.heap.push o0).push o1).push o2)[w.heap.size + 1]? = _
    simp only [Array.getElem?_push, Array.size_push]
    rw [if_neg (by omega)]
    exact if_pos trivial
  · show (((w.heap.push o0).push o1).push o2)[w.heap.size + 1 + 1]? = _
    simp only [Array.getElem?_push, Array.size_push]
    exact if_pos trivial
set_option maxRecDepth 100000 in
set_option maxHeartbeats 2000000 in
theorem new_any (n : Int) (Av : Nat → Prop) (w : World) (hA : Hid (∀ i, Av i → i < w.heap.size)) :
    Calls Try.prog 13 #[.int .i64 n] w fun r w' => ∃ z : WE, r = .returned (.tuple #[(.agg #[.int .i64 (newA n).now, .slice z.p.o z.p.n z.p.c, .slice z.l.o z.l.n z.l.c]), .int .i64 (newE n)]) ∧ HasE w' Av z (newA n) ∧ Below w.heap.size w w' := by
  by_cases h : 1 ≤ n ∧ n ≤ 64
  · obtain ⟨c, rfl⟩ : ∃ c : Nat, n = (c : Int) := ⟨n.toNat, by omega⟩
    have HR : Hid (newA (c : Int) = ⟨1, List.replicate c 0, List.replicate c []⟩ ∧ newE (c : Int) = 0) := by
      refine ⟨?_, by unfold newE; rw [if_pos h]⟩
      unfold newA
      rw [if_pos h]
      simp
    obtain ⟨h1, h2⟩ := h
    obtain ⟨CI, hCI, mI⟩ := make_I c (by omega)
    obtain ⟨CL, hCL, mL⟩ := make_L c (by omega)
    have HCI := hid hCI
    have HCL := hid hCL
    clear hCI hCL
    have hz : w.heap.size < w.heap.size + 1 := by omega
    have hz1 : w.heap.size < w.heap.size + 1 + 1 := by omega
    go_enter Try.func13, Try.ntmps13
    go_upto_region 3 with fail
    go_region
    all_goals (try go_wp2_with fail)
    · refine bodyPost_ret (v := .tuple #[.agg #[.int .i64 1, .slice (some ⟨w.heap.size + 1, 0, none⟩) c c, .slice (some ⟨w.heap.size + 1 + 1, 0, none⟩) c c], .int .i64 0]) (by simp [results, Try.results13, go_sem, *]) rfl ⟨⟨⟨some ⟨w.heap.size + 1, 0, none⟩, c, c⟩, ⟨some ⟨w.heap.size + 1 + 1, 0, none⟩, c, c⟩⟩, ?_, ?_, ?_⟩
      · rw [HR.out.1, HR.out.2]
      · rw [HR.out.1]
        exact new_has (w := w) (by omega) HCI.out HCL.out (three w _ _ _).1 (three w _ _ _).2 (by omega) (by omega) (Kept.refl _ _).drew hA.out
      · exact (q_alloc (q_alloc (alloc_below w _) _) _).drew
    · refine bodyPost_ret (v := .tuple #[.agg #[.int .i64 1, .slice (some ⟨w.heap.size + 1 + 1, 0, none⟩) c c, .slice (some ⟨w.heap.size + 1, 0, none⟩) c c], .int .i64 0]) (by simp [results, Try.results13, go_sem, *]) rfl ⟨⟨⟨some ⟨w.heap.size + 1 + 1, 0, none⟩, c, c⟩, ⟨some ⟨w.heap.size + 1, 0, none⟩, c, c⟩⟩, ?_, ?_, ?_⟩
      · rw [HR.out.1, HR.out.2]
      · rw [HR.out.1]
        exact new_has (w := w) (by omega) HCI.out HCL.out (three w _ _ _).2 (three w _ _ _).1 (by omega) (by omega) (Kept.refl _ _).drew hA.out
      · exact (q_alloc (q_alloc (alloc_below w _) _) _).drew
  · have HR : Hid (newA n = ⟨0, [], []⟩ ∧ newE n = 2) := ⟨by unfold newA; rw [if_neg h], by unfold newE; rw [if_neg h]⟩
    by_cases h1 : 1 ≤ n
    · have h2 : ¬ n ≤ 64 := fun h2 => h ⟨h1, h2⟩
      clear h
      go_enter Try.func13, Try.ntmps13
      go_wp2_with fail
      refine bodyPost_ret (v := .tuple #[.agg #[.int .i64 0, .slice none 0 0, .slice none 0 0], .int .i64 2]) (by simp [results, Try.results13, go_sem, *]) rfl ⟨WE.zero, ?_, ?_, ?_⟩
      · rw [HR.out.1, HR.out.2]; rfl
      · rw [HR.out.1]; exact hasE_zero _ _
      · exact alloc_below _ _
    · clear h
      go_enter Try.func13, Try.ntmps13
      go_wp2_with fail
      refine bodyPost_ret (v := .tuple #[.agg #[.int .i64 0, .slice none 0 0, .slice none 0 0], .int .i64 2]) (by simp [results, Try.results13, go_sem, *]) rfl ⟨WE.zero, ?_, ?_, ?_⟩
      · rw [HR.out.1, HR.out.2]; rfl
      · rw [HR.out.1]; exact hasE_zero _ _
      · exact alloc_below _ _
end Go.Proofs.Ytejghoncihdfkaa.Ep
