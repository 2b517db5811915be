/- A call whose answers are laid into boxes of their own, in whatever order. -/
import Derived.Test.YtpcdjpcdmnjdfabPoW7
import Derived.Test.YtpcdjpcdmnjdfabPoW8
namespace Go.Proofs.Ytpcdjpcdmnjdfab.Po
open Go.RowKit

structure AnsR (w w' : World) (y : Hd) (k : List Wt) (z : Hd) (l : List Wt) : Prop where
  has : HasQ w' z l
  off : ∀ S : Nat → Prop, (∀ i, S i → i < w.heap.size) → Off S y.o (wts k) → Off S z.o (wts l)
  low : Below w.heap.size w w'
theorem HasQ.old {w : World} {y : Hd} {l : List Wt} (h : HasQ w y l) : Off (fun i => w.heap.size ≤ i) y.o (wts l) := fun h0 a e s => by
  obtain ⟨a', e', hl⟩ := h.row.lt h0
  rw [e] at e'
  cases e'
  have s : w.heap.size ≤ a.block := s
  omega
theorem AnsR.boxes {w W w2 : World} {y z : Hd} {k l : List Wt} (h : AnsR W w2 y k z l) (hy : HasQ w y k) : Off (fun i => w.heap.size ≤ i ∧ i < W.heap.size) z.o (wts l) := h.off _ (fun _ s => s.2) (fun h0 a e s => hy.old h0 a e s.1)
theorem HasQ.put38 {w : World} {z : Hd} {l : List Wt} {b c : Nat} {q : Pt} {u : Hd} {v : Wt} {S : Nat → Prop} (h : HasQ w z l) (hn : Off S z.o (wts l)) (hb : S b) (hc : S c) : HasQ (put8 (put3 w b q u) c v) z l :=
  (h.kept (kept_put3 w b q u) (fun h0 a e s => hn h0 a e (by have s : a.block = b := s; rw [s]; exact hb))).kept (kept_put8 _ c v) (fun h0 a e s => hn h0 a e (by have s : a.block = c := s; rw [s]; exact hc))
theorem two_pw (w : World) (q : Pt) (z : Hd) (v : Wt) : Pb ((w.alloc (.cells #[.int .i64 q.k, .int .i64 q.w, .slice z.o z.n z.c] 25)).alloc (.cells #[.int .i64 v.c, .int .i64 v.v, .int .i64 v.b, .bool v.h, .int .i64 v.o, .int .i64 v.s, .int .i64 v.g, .bool v.t] 30)) w.heap.size q z ∧ Wb ((w.alloc (.cells #[.int .i64 q.k, .int .i64 q.w, .slice z.o z.n z.c] 25)).alloc (.cells #[.int .i64 v.c, .int .i64 v.v, .int .i64 v.b, .bool v.h, .int .i64 v.o, .int .i64 v.s, .int .i64 v.g, .bool v.t] 30)) (w.heap.size + 1) v := by
  refine ⟨(pb_new w q z).below (alloc_below _ _), ?_⟩
  have h := wb_new (w.alloc (.cells #[.int .i64 q.k, .int .i64 q.w, .slice z.o z.n z.c] 25)) v
  rwa [show (w.alloc (.cells #[.int .i64 q.k, .int .i64 q.w, .slice z.o z.n z.c] 25)).heap.size = w.heap.size + 1 by simp] at h
abbrev S3 (c : Nat) (p : Pt) (y : Hd) (w : World) : Prop := w.cell? ⟨c, 0, none⟩ = some (.int .i64 p.k) ∧ w.cell? ⟨c, 1, none⟩ = some (.int .i64 p.w) ∧ w.cell? ⟨c, 2, none⟩ = some (.slice y.o y.n y.c)
theorem s3_of {w : World} {c : Nat} {p : Pt} {y : Hd} (h : Pb w c p y) : S3 c p y w := ⟨h.c0, h.c1, h.c2⟩
theorem s3_kept {S : Nat → Prop} {w w' : World} {c : Nat} {p : Pt} {y : Hd} (h : S3 c p y w) (k : Kept S w w') (h1 : ¬ S c) : S3 c p y w' := ⟨k.cell h.1 h1, k.cell h.2.1 h1, k.cell h.2.2 h1⟩
theorem s3_low {w w' : World} {c : Nat} {p : Pt} {y : Hd} (h : S3 c p y w) (b : Below w.heap.size w w') : S3 c p y w' := s3_kept (S := fun _ => False) h (kept_below b) id
theorem AnsR.drew {w w' : World} {y z : Hd} {k l : List Wt} (h : AnsR w w' y k z l) : AnsR w w'.drew y k z l := ⟨h.has.below (Below.refl _ _).drew, h.off, h.low.drew⟩

/-- A waiter that has its core as its value. -/
abbrev wh (c : Int) : Wt := ⟨c, c, 0, false, 0, 0, 0, false⟩
set_option maxHeartbeats 400000 in
theorem who_any (c : Int) (w : World) :
    Calls Try.prog 6 #[.int .i64 c] w fun e w' => e = .returned (.agg #[.int .i64 c, .int .i64 c, .int .i64 0, .bool false, .int .i64 0, .int .i64 0, .int .i64 0, .bool false]) ∧ w' = w.alloc (.cells #[.int .i64 c, .int .i64 c, .int .i64 0, .bool false, .int .i64 0, .int .i64 0, .int .i64 0, .bool false] 30) := by
  go_enter Try.func6, Try.ntmps6
  go_wp2_with fail
  refine bodyPost_ret (v := .agg #[.int .i64 c, .int .i64 c, .int .i64 0, .bool false, .int .i64 0, .int .i64 0, .int .i64 0, .bool false]) (by simp [results, Try.results6, go_sem, *]) rfl ⟨rfl, rfl⟩
/-- What is there behind the call: the port's box, the waiter's, the list. -/
structure Fin (W wx : World) (bP bW : Nat) (q : Pt) (z : Hd) (v : Wt) : Prop where
  p : Pb wx bP q z
  v : Wb wx bW v
  has : HasQ wx z q.l
  low : Below W.heap.size W wx
  lo : W.heap.size ≤ bP
theorem Fin.below {W wx w' : World} {bP bW : Nat} {q : Pt} {z : Hd} {v : Wt} (h : Fin W wx bP bW q z v) (b : Below wx.heap.size wx w') : Fin W w' bP bW q z v := ⟨h.p.below b, h.v.below b, h.has.below b, q_trans h.low b, h.lo⟩
/-- What the list's place must be: in none of the boxes. -/
structure Res (W X w9 : World) (z : Hd) (l : List Wt) : Prop where
  has : HasQ w9 z l
  off : Off (fun i => W.heap.size ≤ i ∧ i < X.heap.size) z.o (wts l)
  low : Below X.heap.size X w9
  base : Below W.heap.size W X
theorem res_of {W X w9 : World} {z : Hd} {l : List Wt} (h : Ans X w9 z l) (hX : Below W.heap.size W X) : Res W X w9 z l := ⟨h.has, fun h0 a e s => h.new h0 a e s.2, h.low, hX⟩
theorem res_ofR {W X w9 : World} {y z : Hd} {k l : List Wt} (h : AnsR X w9 y k z l) (hX : Below W.heap.size W X) (hy : HasQ W y k) : Res W X w9 z l := ⟨h.has, h.boxes hy, h.low, hX⟩
theorem fin1 {W X w9 : World} {bP bW : Nat} {q : Pt} {z : Hd} {v : Wt} (hz : Res W X w9 z q.l) (g1 : Pb w9 bP p0 nilH) (g2 : Wb w9 bW z0) (lP : W.heap.size ≤ bP) (mP : bP < X.heap.size) (lW : W.heap.size ≤ bW) (mW : bW < X.heap.size) (hne : bP ≠ bW) : Fin W (put8 (put3 w9 bP q z) bW v) bP bW q z v := by
  have k8 := kept_put8 (put3 w9 bP q z) bW v
  exact ⟨(g1.put (p' := q) (y' := z)).kept k8 hne, (g2.kept (kept_put3 w9 bP q z) (Ne.symm hne)).put, hz.has.put38 hz.off ⟨lP, mP⟩ ⟨lW, mW⟩, put8_low (put3_low (q_trans hz.base hz.low) lP) lW, lP⟩
theorem fin2 {W X w9 : World} {bP : Nat} {q : Pt} {z : Hd} {v : Wt} (hz : Res W X w9 z q.l) (g1 : Pb w9 bP p0 nilH) (lP : W.heap.size ≤ bP) : Fin W ((put3 w9 bP q z).alloc (.cells #[.int .i64 v.c, .int .i64 v.v, .int .i64 v.b, .bool v.h, .int .i64 v.o, .int .i64 v.s, .int .i64 v.g, .bool v.t] 30)) bP w9.heap.size q z v := by
  have hs : (put3 w9 bP q z).heap.size = w9.heap.size := by simp [put3, World.setCell]
  have hv := wb_new (put3 w9 bP q z) v
  rw [hs] at hv
  exact ⟨(g1.put (p' := q) (y' := z)).below (alloc_below _ _), hv, (hz.has.put g1).below (alloc_below _ _), q_alloc (put3_low (q_trans hz.base hz.low) lP) _, lP⟩
theorem fin3 {W X w9 : World} {bW : Nat} {q : Pt} {z : Hd} {v : Wt} (hz : Res W X w9 z q.l) (g2 : Wb w9 bW z0) (lW : W.heap.size ≤ bW) (mW : bW < X.heap.size) : Fin W ((put8 w9 bW v).alloc (.cells #[.int .i64 q.k, .int .i64 q.w, .slice z.o z.n z.c] 25)) w9.heap.size bW q z v := by
  have hs : (put8 w9 bW v).heap.size = w9.heap.size := by simp [put8, World.setCell]
  have hp := pb_new (put8 w9 bW v) q z
  rw [hs] at hp
  have hq : HasQ (put8 w9 bW v) z q.l := hz.has.kept (kept_put8 w9 bW v) (fun h0 a e s => hz.off h0 a e (by have s : a.block = bW := s; rw [s]; exact ⟨lW, mW⟩))
  exact ⟨hp, g2.put.below (alloc_below _ _), hq.below (alloc_below _ _), q_alloc (put8_low (q_trans hz.base hz.low) lW) _, (q_trans hz.base hz.low).size⟩
theorem fin4 {W X w9 : World} {q : Pt} {z : Hd} {v : Wt} (hz : Res W X w9 z q.l) : Fin W ((w9.alloc (.cells #[.int .i64 q.k, .int .i64 q.w, .slice z.o z.n z.c] 25)).alloc (.cells #[.int .i64 v.c, .int .i64 v.v, .int .i64 v.b, .bool v.h, .int .i64 v.o, .int .i64 v.s, .int .i64 v.g, .bool v.t] 30)) w9.heap.size (w9.heap.size + 1) q z v := by
  have h := two_pw w9 q z v
  exact ⟨h.1, h.2, (hz.has.below (alloc_below _ _)).below (alloc_below _ _), q_alloc (q_alloc (q_trans hz.base hz.low) _) _, (q_trans hz.base hz.low).size⟩
theorem fin5 {W X w9 : World} {q : Pt} {z : Hd} {v : Wt} (hz : Res W X w9 z q.l) : Fin W ((w9.alloc (.cells #[.int .i64 v.c, .int .i64 v.v, .int .i64 v.b, .bool v.h, .int .i64 v.o, .int .i64 v.s, .int .i64 v.g, .bool v.t] 30)).alloc (.cells #[.int .i64 q.k, .int .i64 q.w, .slice z.o z.n z.c] 25)) (w9.heap.size + 1) w9.heap.size q z v := by
  have h := pb_new (w9.alloc (.cells #[.int .i64 v.c, .int .i64 v.v, .int .i64 v.b, .bool v.h, .int .i64 v.o, .int .i64 v.s, .int .i64 v.g, .bool v.t] 30)) q z
  rw [show (w9.alloc (.cells #[.int .i64 v.c, .int .i64 v.v, .int .i64 v.b, .bool v.h, .int .i64 v.o, .int .i64 v.s, .int .i64 v.g, .bool v.t] 30)).heap.size = w9.heap.size + 1 by simp] at h
  exact ⟨h, (wb_new w9 v).below (alloc_below _ _), (hz.has.below (alloc_below _ _)).below (alloc_below _ _), q_alloc (q_alloc (q_trans hz.base hz.low) _) _, by have := (q_trans hz.base hz.low).size; omega⟩
/-! ### What was laid ahead of the call -/
theorem lay1 (W : World) (a : Obj) {w9 : World} (h : Below (W.drew.alloc a).heap.size (W.drew.alloc a) w9) : w9.heap[W.heap.size]? = some a :=
  (h.block W.heap.size (by simp)).trans (heap_alloc_new W.drew a)
theorem lay2 (W : World) (a b : Obj) {w9 : World} (h : Below ((W.drew.alloc a).alloc b).heap.size ((W.drew.alloc a).alloc b) w9) : w9.heap[W.heap.size]? = some a ∧ w9.heap[W.heap.size + 1]? = some b := by
  refine ⟨lay1 W a (q_trans (alloc_below _ _) h), ?_⟩
  have e := heap_alloc_new (W.drew.alloc a) b
  rw [show (W.drew.alloc a).heap.size = W.heap.size + 1 by simp] at e
  exact (h.block (W.heap.size + 1) (by simp)).trans e
theorem lay3 (W : World) (a b c : Obj) {w9 : World} (h : Below (((W.drew.alloc a).alloc b).alloc c).heap.size (((W.drew.alloc a).alloc b).alloc c) w9) : w9.heap[W.heap.size]? = some a ∧ w9.heap[W.heap.size + 1]? = some b ∧ w9.heap[W.heap.size + 2]? = some c := by
  have g := lay2 W a b (q_trans (alloc_below _ _) h)
  refine ⟨g.1, g.2, ?_⟩
  have e := heap_alloc_new ((W.drew.alloc a).alloc b) c
  rw [show ((W.drew.alloc a).alloc b).heap.size = W.heap.size + 2 by simp] at e
  exact (h.block (W.heap.size + 2) (by simp)).trans e
/-- A port's box, in a world that came later. -/
abbrev SL (W : World) (c : Nat) (p : Pt) (y : Hd) (X : World) : Prop := Below W.heap.size W X ∧ S3 c p y X
theorem keep_S3 {W X : World} {c : Nat} {p : Pt} {y : Hd} (h : S3 c p y W) (b : Below W.heap.size W X) : SL W c p y X := ⟨b, s3_low h b⟩
end Go.Proofs.Ytpcdjpcdmnjdfab.Po
