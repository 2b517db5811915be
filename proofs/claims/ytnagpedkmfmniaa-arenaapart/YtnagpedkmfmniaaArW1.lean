/- What live, retired, there, hasCore, mayBe, nothing and frame do; the document's Live. -/
import Derived.Test.YtnagpedkmfmniaaArMem
import Derived.Test.YtnagpedkmfmniaaArStep
namespace Go.Proofs.Ytnagpedkmfmniaa.Ar
open Go.RowKit Go.Proofs.Ytnagpedkmfmniaa.Ha

set_option maxHeartbeats 400000 in
theorem live_any (t : Th) (w : World) :
    Calls Try.prog 40 #[(.agg #[.int .i64 t.ty, .int .i64 t.gen, .int .i64 t.refs, .int .i64 t.st, .int .i64 t.sz, .int .i64 t.wa, .int .i64 t.fm, .int .i64 t.va])] w fun e w' => e = .returned (.bool (liveT t)) ∧ Below w.heap.size w w' := by
  obtain ⟨ty, gen, refs, st, sz, wa, fm, va⟩ := t
  by_cases h1 : 1 ≤ ty
  · by_cases h2 : ty ≤ 5
    · have H : Hid (liveT ⟨ty, gen, refs, st, sz, wa, fm, va⟩ = true) := live_iff.2 ⟨h1, h2⟩
      go_enter Try.func40, Try.ntmps40
      go_wp2
      go_ret
      exact ⟨ret_bool H.out.symm, alloc_below _ _⟩
    · have H : Hid (liveT ⟨ty, gen, refs, st, sz, wa, fm, va⟩ = false) := live_not.2 (by simp only; omega)
      go_enter Try.func40, Try.ntmps40
      go_wp2
      go_ret
      exact ⟨ret_bool H.out.symm, alloc_below _ _⟩
  · have H : Hid (liveT ⟨ty, gen, refs, st, sz, wa, fm, va⟩ = false) := live_not.2 (by simp only; omega)
    go_enter Try.func40, Try.ntmps40
    go_wp2
    go_ret
    exact ⟨ret_bool H.out.symm, alloc_below _ _⟩
set_option maxHeartbeats 400000 in
theorem rlive_any (t : Th) (w : World) :
    Calls Try.prog 33 #[(.agg #[.int .i64 t.ty, .int .i64 t.gen, .int .i64 t.refs, .int .i64 t.st, .int .i64 t.sz, .int .i64 t.wa, .int .i64 t.fm, .int .i64 t.va])] w fun e w' => e = .returned (.bool (liveT t)) ∧ Below w.heap.size w w' := by
  obtain ⟨ty, gen, refs, st, sz, wa, fm, va⟩ := t
  by_cases h1 : 1 ≤ ty
  · by_cases h2 : ty ≤ 5
    · have H : Hid (liveT ⟨ty, gen, refs, st, sz, wa, fm, va⟩ = true) := live_iff.2 ⟨h1, h2⟩
      go_enter Try.func33, Try.ntmps33
      go_wp2
      go_ret
      exact ⟨ret_bool H.out.symm, alloc_below _ _⟩
    · have H : Hid (liveT ⟨ty, gen, refs, st, sz, wa, fm, va⟩ = false) := live_not.2 (by simp only; omega)
      go_enter Try.func33, Try.ntmps33
      go_wp2
      go_ret
      exact ⟨ret_bool H.out.symm, alloc_below _ _⟩
  · have H : Hid (liveT ⟨ty, gen, refs, st, sz, wa, fm, va⟩ = false) := live_not.2 (by simp only; omega)
    go_enter Try.func33, Try.ntmps33
    go_wp2
    go_ret
    exact ⟨ret_bool H.out.symm, alloc_below _ _⟩
def retT (t : Th) : Bool := t.gen == -1
theorem ret_iff {t : Th} : retT t = true ↔ t.gen = -1 := by simp [retT]
theorem ret_not {t : Th} : retT t = false ↔ t.gen ≠ -1 := by simp [retT]
set_option maxHeartbeats 400000 in
theorem retired_any (t : Th) (w : World) :
    Calls Try.prog 42 #[(.agg #[.int .i64 t.ty, .int .i64 t.gen, .int .i64 t.refs, .int .i64 t.st, .int .i64 t.sz, .int .i64 t.wa, .int .i64 t.fm, .int .i64 t.va])] w fun e w' => e = .returned (.bool (retT t)) ∧ Below w.heap.size w w' := by
  obtain ⟨ty, gen, refs, st, sz, wa, fm, va⟩ := t
  go_enter Try.func42, Try.ntmps42
  go_wp2
  go_ret
  exact ⟨rfl, alloc_below _ _⟩
def thB (n : Nat) (p : Int) : Bool := decide (0 ≤ p ∧ p < n)
theorem thB_yes {n : Nat} {p : Int} (h : 0 ≤ p ∧ p < n) : thB n p = true := decide_eq_true h
theorem thB_no {n : Nat} {p : Int} (h : ¬ (0 ≤ p ∧ p < n)) : thB n p = false := decide_eq_false h
set_option maxHeartbeats 400000 in
theorem there_any (x : Wh) (p : Int) (w : World) :
    Calls Try.prog 39 #[(.agg #[.slice x.t.o x.t.n x.t.c, .slice x.f.o x.f.n x.f.c]), .int .i64 p] w fun e w' => e = .returned (.bool (thB x.t.n p)) ∧ Below w.heap.size w w' := by
  obtain ⟨⟨to, tn, tc⟩, ⟨fo, fn, fc⟩⟩ := x
  by_cases h1 : 0 ≤ p
  · by_cases h2 : p < (tn : Int)
    · have H : Hid (thB tn p = true) := thB_yes ⟨h1, h2⟩
      go_enter Try.func39, Try.ntmps39
      go_wp2
      go_ret
      exact ⟨ret_bool H.out.symm, alloc_below _ _⟩
    · have H : Hid (thB tn p = false) := thB_no (by omega)
      go_enter Try.func39, Try.ntmps39
      go_wp2
      go_ret
      exact ⟨ret_bool H.out.symm, alloc_below _ _⟩
  · have H : Hid (thB tn p = false) := thB_no (by omega)
    go_enter Try.func39, Try.ntmps39
    go_wp2
    go_ret
    exact ⟨ret_bool H.out.symm, alloc_below _ _⟩
set_option maxHeartbeats 400000 in
theorem core_any (x : Wh) (p : Int) (w : World) :
    Calls Try.prog 48 #[(.agg #[.slice x.t.o x.t.n x.t.c, .slice x.f.o x.f.n x.f.c]), .int .i64 p] w fun e w' => e = .returned (.bool (thB x.f.n p)) ∧ Below w.heap.size w w' := by
  obtain ⟨⟨to, tn, tc⟩, ⟨fo, fn, fc⟩⟩ := x
  by_cases h1 : 0 ≤ p
  · by_cases h2 : p < (fn : Int)
    · have H : Hid (thB fn p = true) := thB_yes ⟨h1, h2⟩
      go_enter Try.func48, Try.ntmps48
      go_wp2
      go_ret
      exact ⟨ret_bool H.out.symm, alloc_below _ _⟩
    · have H : Hid (thB fn p = false) := thB_no (by omega)
      go_enter Try.func48, Try.ntmps48
      go_wp2
      go_ret
      exact ⟨ret_bool H.out.symm, alloc_below _ _⟩
  · have H : Hid (thB fn p = false) := thB_no (by omega)
    go_enter Try.func48, Try.ntmps48
    go_wp2
    go_ret
    exact ⟨ret_bool H.out.symm, alloc_below _ _⟩
set_option maxHeartbeats 400000 in
theorem nothing_any (g : Int) (w : World) :
    Calls Try.prog 28 #[.int .i64 g] w fun e w' => e = .returned (.agg #[.int .i64 0, .int .i64 g, .int .i64 0, .int .i64 0, .int .i64 0, .int .i64 0, .int .i64 (-1), .int .i64 0]) ∧ Below w.heap.size w w' := by
  go_enter Try.func28, Try.ntmps28
  go_wp2
  refine bodyPost_ret (v := .agg #[.int .i64 0, .int .i64 g, .int .i64 0, .int .i64 0, .int .i64 0, .int .i64 0, .int .i64 (-1), .int .i64 0]) (by simp [results, Try.results28, go_sem]) rfl ⟨rfl, ?_⟩
  exact alloc_below _ _
set_option maxHeartbeats 400000 in
theorem frame_any (w : World) :
    Calls Try.prog 24 #[] w fun e w' => e = .returned (.agg #[.int .i64 3, .int .i64 0, .int .i64 0, .int .i64 0, .int .i64 0, .int .i64 0, .int .i64 (-1), .int .i64 0]) ∧ Below w.heap.size w w' := by
  go_enter Try.func24, Try.ntmps24
  go_wp2
  refine bodyPost_ret (v := .agg #[.int .i64 3, .int .i64 0, .int .i64 0, .int .i64 0, .int .i64 0, .int .i64 0, .int .i64 (-1), .int .i64 0]) (by simp [results, Try.results24, go_sem]) rfl ⟨rfl, ?_⟩
  exact alloc_below _ _
end Go.Proofs.Ytnagpedkmfmniaa.Ar
