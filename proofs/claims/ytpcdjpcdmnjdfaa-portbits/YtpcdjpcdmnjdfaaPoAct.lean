/- Who comes, and what it does. -/
import Derived.Test.YtpcdjpcdmnjdfaaPoW7
import Derived.Test.YtpcdjpcdmnjdfaaPoW8
import Derived.Test.YtpcdjpcdmnjdfaaPoR5
namespace Go.Proofs.Ytpcdjpcdmnjdfaa.Po
open Go.RowKit

def doP (p : Pt) (a : Ac) : Pt := if a.kind = 0 then cmP p a.x 1 2 else if a.kind = 1 then cmP p a.x 2 1 else if a.kind = 2 then sgP p a.n else if a.kind = 3 then waP p a.x.c else drP p a.x.c
def doX (p : Pt) (a : Ac) : Wt := if a.kind = 0 then cmX p a.x 2 else if a.kind = 1 then cmX p a.x 1 else if a.kind = 2 then sgX p a.n else z0
def doB (p : Pt) (a : Ac) : Bool := if a.kind = 0 then cmB p a.x 2 else if a.kind = 1 then cmB p a.x 1 else if a.kind = 2 then sgB p else if a.kind = 3 then false else drB p a.x.c
def doN (p : Pt) (a : Ac) : Int := if a.kind = 3 then waN p a.x.c else 0
def doE (p : Pt) (a : Ac) : Int := if a.kind = 0 then rfE p a.x.c else if a.kind = 1 then rfE p a.x.c else if a.kind = 3 then rfE p a.x.c else 0
theorem do_0 {p : Pt} {a : Ac} (h : a.kind = 0) : doP p a = cmP p a.x 1 2 ∧ doX p a = cmX p a.x 2 ∧ doB p a = cmB p a.x 2 ∧ doN p a = 0 ∧ doE p a = rfE p a.x.c := by simp [doP, doX, doB, doN, doE, h]
theorem do_1 {p : Pt} {a : Ac} (h : a.kind = 1) : doP p a = cmP p a.x 2 1 ∧ doX p a = cmX p a.x 1 ∧ doB p a = cmB p a.x 1 ∧ doN p a = 0 ∧ doE p a = rfE p a.x.c := by simp [doP, doX, doB, doN, doE, h]
theorem do_2 {p : Pt} {a : Ac} (h : a.kind = 2) : doP p a = sgP p a.n ∧ doX p a = sgX p a.n ∧ doB p a = sgB p ∧ doN p a = 0 ∧ doE p a = 0 := by simp [doP, doX, doB, doN, doE, h]
theorem do_3 {p : Pt} {a : Ac} (h : a.kind = 3) : doP p a = waP p a.x.c ∧ doX p a = z0 ∧ doB p a = false ∧ doN p a = waN p a.x.c ∧ doE p a = rfE p a.x.c := by simp [doP, doX, doB, doN, doE, h]
theorem do_4 {p : Pt} {a : Ac} (h0 : ¬ a.kind = 0) (h1 : ¬ a.kind = 1) (h2 : ¬ a.kind = 2) (h3 : ¬ a.kind = 3) : doP p a = drP p a.x.c ∧ doX p a = z0 ∧ doB p a = drB p a.x.c ∧ doN p a = 0 ∧ doE p a = 0 := by simp [doP, doX, doB, doN, doE, h0, h1, h2, h3]
/-- The boxes of does and model. -/
structure B5 (w wr : World) (p q : Pt) (y z : Hd) (d : Ac) (v : Wt) : Prop where
  a : Pb wr w.heap.size p y
  b : AtZ wr ⟨w.heap.size + 1, 0, none⟩ d
  r : Pb wr (w.heap.size + 2) q z
  s : Wb wr (w.heap.size + 3) v
  low : Below w.heap.size w wr
theorem B5.below {w wr w' : World} {p q : Pt} {y z : Hd} {d : Ac} {v : Wt} (h : B5 w wr p q y z d v) (b : Below wr.heap.size wr w') : B5 w w' p q y z d v := ⟨h.a.below b, h.b.below b, h.r.below b, h.s.below b, q_trans h.low b⟩
theorem b5_new (w : World) (p q : Pt) (y z : Hd) (d : Ac) (v : Wt) : B5 w ((((w.alloc (.cells #[.int .i64 p.k, .int .i64 p.w, .slice y.o y.n y.c] 24)).alloc (.cells #[.int .i64 d.kind, .int .i64 d.x.c, .int .i64 d.x.v, .int .i64 d.x.b, .bool d.x.h, .int .i64 d.x.o, .int .i64 d.x.s, .int .i64 d.x.g, .bool d.x.t, .int .i64 d.n] 30)).alloc (.cells #[.int .i64 q.k, .int .i64 q.w, .slice z.o z.n z.c] 24)).alloc (.cells #[.int .i64 v.c, .int .i64 v.v, .int .i64 v.b, .bool v.h, .int .i64 v.o, .int .i64 v.s, .int .i64 v.g, .bool v.t] 28)) p q y z d v := by
  have s1 : (w.alloc (.cells #[.int .i64 p.k, .int .i64 p.w, .slice y.o y.n y.c] 24)).heap.size = w.heap.size + 1 := by simp
  have s2 : ((w.alloc (.cells #[.int .i64 p.k, .int .i64 p.w, .slice y.o y.n y.c] 24)).alloc (.cells #[.int .i64 d.kind, .int .i64 d.x.c, .int .i64 d.x.v, .int .i64 d.x.b, .bool d.x.h, .int .i64 d.x.o, .int .i64 d.x.s, .int .i64 d.x.g, .bool d.x.t, .int .i64 d.n] 30)).heap.size = w.heap.size + 2 := by simp
  have s3 : (((w.alloc (.cells #[.int .i64 p.k, .int .i64 p.w, .slice y.o y.n y.c] 24)).alloc (.cells #[.int .i64 d.kind, .int .i64 d.x.c, .int .i64 d.x.v, .int .i64 d.x.b, .bool d.x.h, .int .i64 d.x.o, .int .i64 d.x.s, .int .i64 d.x.g, .bool d.x.t, .int .i64 d.n] 30)).alloc (.cells #[.int .i64 q.k, .int .i64 q.w, .slice z.o z.n z.c] 24)).heap.size = w.heap.size + 3 := by simp
  refine ⟨(((pb_new w p y).below (alloc_below _ _)).below (alloc_below _ _)).below (alloc_below _ _), ?_, ?_, ?_, q_alloc (q_alloc (q_alloc (alloc_below _ _) _) _) _⟩
  · have h := ((atZ_new (w.alloc (.cells #[.int .i64 p.k, .int .i64 p.w, .slice y.o y.n y.c] 24)) d 30).below (alloc_below _ (.cells #[.int .i64 q.k, .int .i64 q.w, .slice z.o z.n z.c] 24))).below (alloc_below _ (.cells #[.int .i64 v.c, .int .i64 v.v, .int .i64 v.b, .bool v.h, .int .i64 v.o, .int .i64 v.s, .int .i64 v.g, .bool v.t] 28))
    rwa [s1] at h
  · have h := (pb_new ((w.alloc (.cells #[.int .i64 p.k, .int .i64 p.w, .slice y.o y.n y.c] 24)).alloc (.cells #[.int .i64 d.kind, .int .i64 d.x.c, .int .i64 d.x.v, .int .i64 d.x.b, .bool d.x.h, .int .i64 d.x.o, .int .i64 d.x.s, .int .i64 d.x.g, .bool d.x.t, .int .i64 d.n] 30)) q z).below (alloc_below _ (.cells #[.int .i64 v.c, .int .i64 v.v, .int .i64 v.b, .bool v.h, .int .i64 v.o, .int .i64 v.s, .int .i64 v.g, .bool v.t] 28))
    rwa [s2] at h
  · have h := wb_new (((w.alloc (.cells #[.int .i64 p.k, .int .i64 p.w, .slice y.o y.n y.c] 24)).alloc (.cells #[.int .i64 d.kind, .int .i64 d.x.c, .int .i64 d.x.v, .int .i64 d.x.b, .bool d.x.h, .int .i64 d.x.o, .int .i64 d.x.s, .int .i64 d.x.g, .bool d.x.t, .int .i64 d.n] 30)).alloc (.cells #[.int .i64 q.k, .int .i64 q.w, .slice z.o z.n z.c] 24)) v
    rwa [s3] at h
theorem B5.lt {w wr : World} {p q : Pt} {y z : Hd} {d : Ac} {v : Wt} (h : B5 w wr p q y z d v) : w.heap.size + 3 < wr.heap.size := h.s.lt
theorem B5.fin {w wr : World} {p q : Pt} {y z : Hd} {d : Ac} {v : Wt} (h : B5 w wr p q y z d v) (p' : Pt) (y' : Hd) (v' : Wt) : Below w.heap.size w (put8 (put3 wr (w.heap.size + 2) p' y') (w.heap.size + 3) v') := put8_low (put3_low h.low (Nat.le_add_right _ 2)) (Nat.le_add_right _ 3)
theorem ret5 {q q' : Pt} {z : Hd} {x x' : Wt} {b b' : Bool} {n n' e e' : Int} (h : q' = q ∧ x' = x ∧ b' = b ∧ n' = n ∧ e' = e) : Ending.returned (.tuple #[(.agg #[.int .i64 q.k, .int .i64 q.w, .slice z.o z.n z.c]), (.agg #[.int .i64 x.c, .int .i64 x.v, .int .i64 x.b, .bool x.h, .int .i64 x.o, .int .i64 x.s, .int .i64 x.g, .bool x.t]), .bool b, .int .i64 n, .int .i64 e]) = .returned (.tuple #[(.agg #[.int .i64 q'.k, .int .i64 q'.w, .slice z.o z.n z.c]), (.agg #[.int .i64 x'.c, .int .i64 x'.v, .int .i64 x'.b, .bool x'.h, .int .i64 x'.o, .int .i64 x'.s, .int .i64 x'.g, .bool x'.t]), .bool b', .int .i64 n', .int .i64 e']) := by
  obtain ⟨rfl, rfl, rfl, rfl, rfl⟩ := h
  rfl
/-- A port's box, and a waiter's behind it. -/
theorem two_pw (w : World) (q : Pt) (z : Hd) (v : Wt) : Pb ((w.alloc (.cells #[.int .i64 q.k, .int .i64 q.w, .slice z.o z.n z.c] 24)).alloc (.cells #[.int .i64 v.c, .int .i64 v.v, .int .i64 v.b, .bool v.h, .int .i64 v.o, .int .i64 v.s, .int .i64 v.g, .bool v.t] 28)) w.heap.size q z ∧ Wb ((w.alloc (.cells #[.int .i64 q.k, .int .i64 q.w, .slice z.o z.n z.c] 24)).alloc (.cells #[.int .i64 v.c, .int .i64 v.v, .int .i64 v.b, .bool v.h, .int .i64 v.o, .int .i64 v.s, .int .i64 v.g, .bool v.t] 28)) (w.heap.size + 1) v := by
  refine ⟨(pb_new w q z).below (alloc_below _ _), ?_⟩
  have h := wb_new (w.alloc (.cells #[.int .i64 q.k, .int .i64 q.w, .slice z.o z.n z.c] 24)) v
  rwa [show (w.alloc (.cells #[.int .i64 q.k, .int .i64 q.w, .slice z.o z.n z.c] 24)).heap.size = w.heap.size + 1 by simp] at h
theorem s5_two {w : World} {b c : Nat} {q : Pt} {z : Hd} {v : Wt} (h1 : Pb w b q z) (h2 : Wb w c v) : S5 b q z.o z.n z.c ⟨c, 0, none⟩ v w := ⟨h1.c0, h1.c1, h1.c2, h2.at.c0, h2.at.c1, h2.at.c2, h2.at.c3, h2.at.c4, h2.at.c5, h2.at.c6, h2.at.c7⟩
/-- The cells of a port's box. -/
abbrev S3 (c : Nat) (p : Pt) (y : Hd) (w : World) : Prop := w.cell? ⟨c, 0, none⟩ = some (.int .i64 p.k) ∧ w.cell? ⟨c, 1, none⟩ = some (.int .i64 p.w) ∧ w.cell? ⟨c, 2, none⟩ = some (.slice y.o y.n y.c)
theorem s3_of {w : World} {c : Nat} {p : Pt} {y : Hd} (h : Pb w c p y) : S3 c p y w := ⟨h.c0, h.c1, h.c2⟩
theorem s3_kept {S : Nat → Prop} {w w' : World} {c : Nat} {p : Pt} {y : Hd} (h : S3 c p y w) (k : Kept S w w') (h1 : ¬ S c) : S3 c p y w' := ⟨k.cell h.1 h1, k.cell h.2.1 h1, k.cell h.2.2 h1⟩
theorem s3_drew {w : World} {c : Nat} {p : Pt} {y : Hd} (h : S3 c p y w) : S3 c p y w.drew := h
theorem s3_low {w w' : World} {c : Nat} {p : Pt} {y : Hd} (h : S3 c p y w) (b : Below w.heap.size w w') : S3 c p y w' := s3_kept (S := fun _ => False) h (kept_below b) id
theorem Ans.drew {w w' : World} {z : Hd} {l : List Wt} (h : Ans w w' z l) : Ans w w'.drew z l := ⟨h.has.below (Below.refl _ _).drew, h.new, h.low.drew⟩
theorem AnsR.drew {w w' : World} {y z : Hd} {k l : List Wt} (h : AnsR w w' y k z l) : AnsR w w'.drew y k z l := ⟨h.has.below (Below.refl _ _).drew, h.off, h.low.drew⟩
end Go.Proofs.Ytpcdjpcdmnjdfaa.Po
