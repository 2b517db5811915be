/- Cells that lie in memory: what New, Steps, Len, Peek, Trace do. -/
import Derived.Test.YtaihabkacjbfjaaCeW7
namespace Go.Proofs.Ytaihabkacjbfjaa.Ce
open Go.RowKit

/-- CELLS: the block p, the values' block g, the trace. -/
structure Cel (w : World) (B p g vcap : Nat) (tao : Option Addr) (tcap : Nat) (s : S) : Prop where
  blk : w.heap[p]? = some (.cells #[.slice (some ⟨g, 0, none⟩) s.vs.length vcap, .int .i64 s.n, .slice tao s.tr.length tcap] 63 (0, 0))
  val : w.ownsRow B 2 1 (.slice (some ⟨g, 0, none⟩) s.vs.length vcap) s.vs.length (vals s.vs)
  tra : w.ownsRow B 70 7 (.slice tao s.tr.length tcap) s.tr.length (recs s.tr)
  hp : B ≤ p
  hg : B ≤ g
  hpg : p ≠ g
  htp : ∀ a, tao = some a → a.block ≠ p
  htg : ∀ a, tao = some a → a.block ≠ g
/-- The blocks of cells. -/
def foot (p g : Nat) (tao : Option Addr) : Nat → Prop := fun k => k = p ∨ k = g ∨ ∃ a, tao = some a ∧ a.block = k
theorem Cel.lt {w : World} {B p g vcap : Nat} {tao : Option Addr} {tcap : Nat} {s : S} (h : Cel w B p g vcap tao tcap s) : ∀ k, foot p g tao k → B ≤ k ∧ k < w.heap.size := by
  intro k hk
  rcases hk with rfl | rfl | ⟨a, rfl, rfl⟩
  · exact ⟨h.hp, (Array.getElem?_eq_some_iff.1 h.blk).1⟩
  · exact h.val.lt _ rfl
  · exact h.tra.lt _ rfl
theorem Cel.kept {S' : Nat → Prop} {w w' : World} {B p g vcap : Nat} {tao : Option Addr} {tcap : Nat} {s : S} (h : Cel w B p g vcap tao tcap s) (k : Kept S' w w') (hs : ∀ i, foot p g tao i → ¬ S' i) : Cel w' B p g vcap tao tcap s := {
  blk := (k.block p (Array.getElem?_eq_some_iff.1 h.blk).1 (hs p (.inl rfl))).trans h.blk
  val := own_kept h.val k (fun i e => hs i (.inr (.inl (by cases e; rfl))))
  tra := own_kept h.tra k (fun i e => hs i (.inr (.inr (by cases tao with | none => cases e | some a => cases e; exact ⟨a, rfl, rfl⟩))))
  hp := h.hp
  hg := h.hg
  hpg := h.hpg
  htp := h.htp
  htg := h.htg }
theorem Cel.below {w w' : World} {B p g vcap : Nat} {tao : Option Addr} {tcap : Nat} {s : S} (h : Cel w B p g vcap tao tcap s) (hb : Below w.heap.size w w') : Cel w' B p g vcap tao tcap s :=
  h.kept (S' := fun _ => False) (kept_below hb) (fun _ _ e => e)
theorem Cel.cells {w : World} {B p g vcap : Nat} {tao : Option Addr} {tcap : Nat} {s : S} (h : Cel w B p g vcap tao tcap s) :
    w.cell? ⟨p, 0, none⟩ = some (.slice (some ⟨g, 0, none⟩) s.vs.length vcap) ∧ w.cell? ⟨p, 1, none⟩ = some (.int .i64 s.n) ∧ w.cell? ⟨p, 2, none⟩ = some (.slice tao s.tr.length tcap) ∧ ∀ i, w.frozen? ⟨p, i, none⟩ = false := by
  simp [World.cell?, World.frozen?, h.blk]

set_option maxHeartbeats 400000 in
theorem new_no (n : Int) (w : World) (h : Hid (n < 0 ∨ 4096 < n)) :
    Calls Try.prog 24 #[.int .i64 n] w fun e w' => e = .returned (.tuple #[.pointer none, .int .i64 2]) ∧ w' = w := by
  rcases h.out with h1 | h1
  · clear h
    go_enter Try.func24, Try.ntmps24
    go_wp2
    go_ret2
    exact ⟨rfl, rfl⟩
  · have h2 : 0 ≤ n := by omega
    clear h
    go_enter Try.func24, Try.ntmps24
    go_wp2
    go_ret2
    exact ⟨rfl, rfl⟩
theorem makeI (n : Nat) (hn : n ≤ 4096) (w : World) : (Instr.makeSlice 53 (.int .i64 n) (.int .i64 n)).run Try.prog w = .ok (.slice (some ⟨w.heap.size, 0, none⟩) n n) (w.alloc (.cells (madeCells #[.int .i64 0] n) 2)) := by
  obtain ⟨i0, hi, hz0, hz1, hz2⟩ := info_of infoI
  have h := run_make (P := Try.prog) w 53 2 i0 (.int .i64 0) Try.underlying53 hi hz0 .i64 .i64 n n (by omega) (by omega) (by rw [hz2]; omega) (by omega)
  rw [hz1] at h
  simpa [Value.cells] using h
theorem made_zero (n : Nat) : (madeCells #[.int .i64 0] n).toList = vals (List.replicate n 0) := by
  apply List.ext_getElem?
  intro i
  by_cases h : i < n
  · simp [madeCells, vals, h, Nat.mod_one]
  · simp [madeCells, vals, h]
set_option maxHeartbeats 400000 in
theorem new_yes (n : Nat) (w : World) (hn : n ≤ 4096) :
    Calls Try.prog 24 #[.int .i64 n] w fun e w' => e = .returned (.tuple #[.pointer (some ⟨w.heap.size + 1, 0, none⟩), .int .i64 0]) ∧ Cel w' w.heap.size (w.heap.size + 1) w.heap.size n none 0 (S.new n) ∧ Below w.heap.size w w' := by
  have hm := makeI n hn
  have HC : Hid (Cel ((w.alloc (.cells (madeCells #[.int .i64 0] n) 2)).alloc (.cells #[.slice (some ⟨w.heap.size, 0, none⟩) n n, .int .i64 0, .slice none 0 0] 63)) w.heap.size (w.heap.size + 1) w.heap.size n none 0 (S.new n)) := by
    have o1 : (w.alloc (.cells (madeCells #[.int .i64 0] n) 2)).ownsRow w.heap.size 2 1 (.slice (some ⟨w.heap.size, 0, none⟩) n n) n (vals (List.replicate n 0)) :=
      ⟨by simp, .inr ⟨w.heap.size, n, _, rfl, Nat.le_refl _, heap_alloc_new w _, Nat.le_refl _, by unfold maxLen; omega, by simp [size_madeCells], by
        rw [made_zero, List.take_of_length_le (by simp)]⟩⟩
    have hb := heap_alloc_new (w.alloc (.cells (madeCells #[.int .i64 0] n) 2)) (.cells #[.slice (some ⟨w.heap.size, 0, none⟩) n n, .int .i64 0, .slice none 0 0] 63)
    rw [show (w.alloc (.cells (madeCells #[.int .i64 0] n) 2)).heap.size = w.heap.size + 1 by simp] at hb
    exact {
      blk := by simpa [S.new] using hb
      val := by simpa [S.new] using own_below o1 (alloc_below _ _)
      tra := World.ownsRow_nil _ _ _ _
      hp := by omega
      hg := Nat.le_refl _
      hpg := by omega
      htp := fun a e => by cases e
      htg := fun a e => by cases e }
  have hz : (w.alloc (.cells (madeCells #[.int .i64 0] n) 2)).heap.size = w.heap.size + 1 := by simp
  go_enter Try.func24, Try.ntmps24
  go_wp2
  go_ret2
  exact ⟨rfl, HC.out, q_alloc (alloc_below w _) _⟩

set_option maxHeartbeats 400000 in
theorem peek_nil (w : World) : Calls Try.prog 27 #[.pointer none] w fun e w' => e = .returned (.slice none 0 0) ∧ w' = w := by
  go_enter Try.func27, Try.ntmps27
  go_wp2
  go_ret
  exact ⟨rfl, rfl⟩
set_option maxHeartbeats 400000 in
theorem do_nil (o : O) (w : World) : Calls Try.prog 35 #[.pointer none, (.agg #[.int .i64 o.k, .int .i64 o.c, .int .i64 o.a, .int .i64 o.v, .int .i64 o.w])] w fun e w' => e = .returned (.tuple #[.int .i64 0, .bool false, .int .i64 7]) ∧ Below w.heap.size w w' := by
  go_enter Try.func35, Try.ntmps35
  go_wp2
  exact bodyPost_ret (v := .tuple #[.int .i64 0, .bool false, .int .i64 7]) (by simp [results, Try.results35, go_sem]) rfl ⟨rfl, alloc_below w _⟩

section
variable {w : World} {B p g vcap : Nat} {tao : Option Addr} {tcap : Nat} {s : S}
set_option maxHeartbeats 400000 in
theorem peek_any (h : Hid (Cel w B p g vcap tao tcap s)) (hs : s.vs.length ≤ 5000) : Calls Try.prog 27 #[.pointer (some ⟨p, 0, none⟩)] w fun e w' =>
    ∃ ao' cap', e = .returned (.slice ao' s.vs.length cap') ∧ w'.ownsRow w.heap.size 2 1 (.slice ao' s.vs.length cap') s.vs.length (vals s.vs) ∧ Below w.heap.size w w' := by
  obtain ⟨c0, c1, c2, cf⟩ := h.out.cells
  have HV := hid (own_row h.out.val)
  go_enter Try.func27, Try.ntmps27
  go_wp2_with fail
  refine (cloneI_any _ s.vs.length vcap s.vs w rfl hs HV.out.2.2.1 HV.out.1).mono ?_
  rintro e w1 ⟨ao1, cap1, rfl, own1, b1⟩
  have HO := hid own1
  clear own1
  go_wp2
  go_ret
  exact ⟨ao1, cap1, rfl, HO.out, b1⟩
end
end Go.Proofs.Ytaihabkacjbfjaa.Ce
