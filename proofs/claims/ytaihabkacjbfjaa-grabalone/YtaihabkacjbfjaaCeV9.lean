/- What note does. -/
import Derived.Test.YtaihabkacjbfjaaCeW8
import Derived.Deep.DrawnRows
import Derived.Deep.RegionLaw
namespace Go.Proofs.Ytaihabkacjbfjaa.Ce
open Go.RowKit

attribute [local go_sem ↓] Go.wp_at_zero Go.wp_at_succ

/-- Where the trace lies behind a step: where it did, or in a new block. -/
def Moved (w : World) (tao tao' : Option Addr) : Prop := ∀ a, tao' = some a → (∃ b, tao = some b ∧ b.block = a.block) ∨ w.heap.size ≤ a.block
theorem blk_set {w : World} {p i : Nat} {cs : Array Value} {T : TypeId} {fr : Nat × Nat} (u : Value) (h : w.heap[p]? = some (.cells cs T fr)) : (w.setCell ⟨p, i, none⟩ u).heap[p]? = some (.cells (cs.setIfInBounds i u) T fr) := by
  simp [World.setCell, Array.getElem?_modify, h]
theorem blk_cells {w : World} {p : Nat} {a b c : Value} {T : TypeId} (h : w.heap[p]? = some (.cells #[a, b, c] T (0, 0))) :
    w.cell? ⟨p, 0, none⟩ = some a ∧ w.cell? ⟨p, 1, none⟩ = some b ∧ w.cell? ⟨p, 2, none⟩ = some c ∧ ∀ i, w.frozen? ⟨p, i, none⟩ = false := by
  simp [World.cell?, World.frozen?, h]
theorem blk_lt {w : World} {p : Nat} {o : Obj} (h : w.heap[p]? = some o) : p < w.heap.size := (Array.getElem?_eq_some_iff.1 h).1

set_option maxRecDepth 100000 in
set_option maxHeartbeats 1000000 in
theorem note_full (r : Rc) (p : Nat) (sv : Value) (tao : Option Addr) (n m tcap : Nat) (w : World) (hm : 2000 ≤ m) (hn : n ≤ 50000)
    (HB : Hid (w.heap[p]? = some (.cells #[sv, .int .i64 n, .slice tao m tcap] 63 (0, 0)))) :
    Calls Try.prog 41 #[.pointer (some ⟨p, 0, none⟩), (.agg #[.int .i64 r.o.k, .int .i64 r.o.c, .int .i64 r.o.a, .int .i64 r.o.v, .int .i64 r.o.w, .int .i64 r.got, .bool r.ok])] w fun e w' => e = .returned (.tuple #[]) ∧ w'.heap[p]? = some (.cells #[sv, .int .i64 (n + 1), .slice tao m tcap] 63 (0, 0)) ∧ Kept (fun i => i = p) w w' := by
  obtain ⟨c0, c1, c2, cf⟩ := blk_cells HB.out
  have hlt := blk_lt HB.out
  have n1 : ¬ p = w.heap.size := by omega
  have n2 : ¬ w.heap.size = p := by omega
  go_enter Try.func41, Try.ntmps41
  go_wp2
  refine bodyPost_end (v := .tuple #[]) (by simp [results, Try.results41, go_sem]) rfl ⟨rfl, ?_, ?_⟩
  · refine ((alloc_below _ _).block p (by simpa [World.setCell] using hlt)).trans ?_
    exact blk_set _ HB.out
  · exact (kept_set (fun i => i = p) w _ _ rfl).alloc _

set_option maxRecDepth 100000 in
set_option maxHeartbeats 1000000 in
theorem note_more (r : Rc) (p : Nat) (sv : Value) (tao : Option Addr) (n m tcap : Nat) (tr : List Rc) (B : Nat) (w : World) (hm : m < 2000) (hn : n ≤ 50000)
    (HB : Hid (w.heap[p]? = some (.cells #[sv, .int .i64 n, .slice tao m tcap] 63 (0, 0))))
    (HT : Hid (w.ownsRow B 70 7 (.slice tao m tcap) m (recs tr))) (HP : Hid (∀ a, tao = some a → a.block ≠ p)) (HBP : Hid (B ≤ p)) :
    Calls Try.prog 41 #[.pointer (some ⟨p, 0, none⟩), (.agg #[.int .i64 r.o.k, .int .i64 r.o.c, .int .i64 r.o.a, .int .i64 r.o.v, .int .i64 r.o.w, .int .i64 r.got, .bool r.ok])] w fun e w' => e = .returned (.tuple #[]) ∧ ∃ tao' tcap', w'.heap[p]? = some (.cells #[sv, .int .i64 (n + 1), .slice tao' (m + 1) tcap'] 63 (0, 0)) ∧
      w'.ownsRow B 70 7 (.slice tao' (m + 1) tcap') (m + 1) (recs (tr ++ [r])) ∧ Kept (fun i => i = p ∨ ∃ a, tao = some a ∧ a.block = i) w w' ∧ Moved w tao tao' := by
  obtain ⟨c0, c1, c2, cf⟩ := blk_cells HB.out
  have hlt := blk_lt HB.out
  have n1 : ¬ p = w.heap.size := by omega
  have n2 : ¬ w.heap.size = p := by omega
  have n3 : ¬ w.heap.size + 1 = p := by omega
  obtain ⟨i0, hi, hz0, hz1, hz2⟩ := info_of infoR
  have HI := hid hi
  have HZ := hid hz0
  have HZ1 := hid hz1
  have HZ2 := hid hz2
  clear hi hz0 hz1 hz2
  have HLT := hid hlt
  go_enter Try.func41, Try.ntmps41
  go_wp2
  generalize hW : (w.setCell ⟨p, 1, none⟩ (.int .i64 (n + 1))).alloc (.cells #[.int .i64 r.o.k, .int .i64 r.o.c, .int .i64 r.o.a, .int .i64 r.o.v, .int .i64 r.o.w, .int .i64 r.got, .bool r.ok] 70) = W
  have HKW : Hid (Kept (fun i => i = p) w W) := by rw [← hW]; exact (kept_set (fun i => i = p) w _ _ rfl).alloc _
  have hzW : W.heap.size = w.heap.size + 1 := by rw [← hW]; simp [World.setCell]
  have HZW := hid hzW
  have HBW : Hid (W.heap[p]? = some (.cells #[sv, .int .i64 (n + 1), .slice tao m tcap] 63 (0, 0))) := by
    rw [← hW]
    refine ((alloc_below _ _).block p (by simpa [World.setCell] using HLT.out)).trans ?_
    exact blk_set _ HB.out
  have rW : InR W w.heap.size r := by
    rw [← hW]
    have := inR_new (w.setCell ⟨p, 1, none⟩ (.int .i64 (n + 1))) r 70
    rwa [show (w.setCell ⟨p, 1, none⟩ (.int .i64 (n + 1))).heap.size = w.heap.size by simp [World.setCell]] at this
  have HTW := hid (own_kept HT.out HKW.out (fun i e => by
    cases tao with
    | none => cases e
    | some a => cases e; exact HP.out a rfl))
  clear hW c0 c1 c2 cf
  obtain ⟨c0, c1, c2, cf⟩ := blk_cells HBW.out
  obtain ⟨r0, r1, r2, r3, r4, r5, r6, rf⟩ := rW
  clear c0 c1
  have q1 : ¬ W.heap.size = p := by have := HLT.out; omega
  have q2 : ¬ W.heap.size = w.heap.size := by omega
  have q3 : p < W.heap.size := by have := HLT.out; omega
  have q4 : w.heap.size < W.heap.size := by omega
  have q5 : ¬ p = W.heap.size := by omega
  have q6 : ¬ w.heap.size = W.heap.size := by omega
  have HFAR : Hid (∀ w', (W.drew.alloc (.cells #[.int .i64 r.o.k, .int .i64 r.o.c, .int .i64 r.o.a, .int .i64 r.o.v, .int .i64 r.o.w, .int .i64 r.got, .bool r.ok] 70)).grownBy w' (Value.ownBlock (.slice tao m tcap)) → w'.cell? ⟨p, 2, none⟩ = some (.slice tao m tcap) ∧ w'.cell? ⟨w.heap.size, 0, none⟩ = some (.int .i64 r.o.k) ∧ w'.cell? ⟨w.heap.size, 1, none⟩ = some (.int .i64 r.o.c) ∧ w'.cell? ⟨w.heap.size, 2, none⟩ = some (.int .i64 r.o.a) ∧ w'.cell? ⟨w.heap.size, 3, none⟩ = some (.int .i64 r.o.v) ∧ w'.cell? ⟨w.heap.size, 4, none⟩ = some (.int .i64 r.o.w) ∧ w'.cell? ⟨w.heap.size, 5, none⟩ = some (.int .i64 r.got) ∧ w'.cell? ⟨w.heap.size, 6, none⟩ = some (.bool r.ok)) := by
    intro w' hg
    have kg := kept_grown hg
    have k1 : Kept (fun i => some i = Value.ownBlock (.slice tao m tcap)) W w' := ((kept_below (Below.refl _ W)).drew.alloc _).trans kg (fun _ _ e => e)
    have hb : ∀ i, some i = Value.ownBlock (.slice tao m tcap) → i ≠ p ∧ i ≠ w.heap.size := by
      intro i e
      cases tao with
      | none => cases e
      | some a => cases e; exact ⟨HP.out a rfl, by have := (HT.out.lt _ rfl).2; omega⟩
    have m1 : ¬ (fun i => some i = Value.ownBlock (.slice tao m tcap)) p := fun e => (hb p e).1 rfl
    have m2 : ¬ (fun i => some i = Value.ownBlock (.slice tao m tcap)) w.heap.size := fun e => (hb _ e).2 rfl
    exact ⟨k1.cell c2 m1, k1.cell r0 m2, k1.cell r1 m2, k1.cell r2 m2, k1.cell r3 m2, k1.cell r4 m2, k1.cell r5 m2, k1.cell r6 m2⟩
  have HFR : Hid (∀ w', (W.drew.alloc (.cells #[.int .i64 r.o.k, .int .i64 r.o.c, .int .i64 r.o.a, .int .i64 r.o.v, .int .i64 r.o.w, .int .i64 r.got, .bool r.ok] 70)).grownBy w' (Value.ownBlock (.slice tao m tcap)) → w'.frozen? ⟨p, 2, none⟩ = false) := by
    intro w' hg
    have h1 : w'.heap[p]? = W.heap[p]? := (hg.block p (by simp; omega) (fun e => by
      cases tao with
      | none => cases e
      | some a => cases e; exact HP.out a rfl rfl)).trans ((alloc_below W.drew _).block p q3)
    exact (World.frozen?_of_block (a := ⟨p, 2, none⟩) h1).trans (cf 2)
  clear hzW
  go_region_law
    ((refine step_append_lies _ (by rfl) (.tmp 21) (.tmp 23) 61 (by rfl) B 70 i0 _ 7 56 Try.underlying61 HI.out HZ.out HZ1.out HZ2.out (by rfl) (by decide) (.slice tao m tcap) m (recs tr) (by rfl) (HTW.out.drew.alloc _) ⟨W.heap.size, 0, none⟩ 1 1 (rcC r) (by rfl) (by rfl) (World.news_of_block (heap_alloc_new W.drew _)) (rcC_one r) (by decide) (by unfold maxLen; omega) (by omega) (by have := HBP.out; have := HLT.out; have := HZW.out; simp; omega) (W.heap.size + 1) (by simp) ?_; intro g1 cap1 w1 own1 grow1 hat1 hlt1; have fr1 := HFR.out _ grow1; have c21 := (HFAR.out _ grow1).1))
  all_goals
    have kg := kept_grown grow1
    have k1 : Kept (fun i => some i = Value.ownBlock (.slice tao m tcap)) W w1 := ((kept_below (Below.refl _ W)).drew.alloc _).trans kg (fun _ _ e => e)
    have hb : ∀ i, some i = Value.ownBlock (.slice tao m tcap) → i ≠ p ∧ ∃ a, tao = some a ∧ a.block = i := by
      intro i e
      cases tao with
      | none => cases e
      | some a => cases e; exact ⟨HP.out a rfl, a, rfl, rfl⟩
    have hgp : g1 ≠ p := by
      rcases hat1 with e | e
      · exact (hb g1 e.symm).1
      · omega
    have HBW1 := (k1.block p q3 (fun e => (hb p e).1 rfl)).trans HBW.out
    refine bodyPost_end (v := .tuple #[]) (by simp [results, Try.results41, go_sem]) rfl ⟨rfl, some ⟨g1, 0, none⟩, cap1, blk_set _ HBW1, ?_, ?_, ?_⟩
    · rw [recs_snoc]
      exact own_kept own1 (kept_set (fun i => i = p) w1 _ _ rfl) (fun i e => by cases e; exact hgp)
    · have ka : Kept (fun i => i = p ∨ ∃ a, tao = some a ∧ a.block = i) w W := HKW.out.mono (fun i _ e => .inl e)
      exact (ka.trans k1 (fun i _ e => .inr (hb i e).2)).setCell _ _ (fun _ => .inl rfl)
    · intro a e
      cases e
      rcases hat1 with e | e
      · exact .inl (hb g1 e.symm).2
      · exact .inr (by have := HZW.out; show w.heap.size ≤ g1; omega)
end Go.Proofs.Ytaihabkacjbfjaa.Ce
