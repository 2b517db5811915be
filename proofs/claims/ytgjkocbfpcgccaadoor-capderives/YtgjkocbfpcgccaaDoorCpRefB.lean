/- What the reference's Derive does. -/
import Derived.Test.YtgjkocbfpcgccaaDoorCpRefA
import Derived.Test.YtgjkocbfpcgccaaDoorCpNever
namespace Go.Proofs.YtgjkocbfpcgccaaDoor.Cp
open Go.RowKit

/-- The worlds and cells at the start. -/
structure St (w W : World) (c : K) : Prop where
  oc : Own W w.heap.size c
  oz : Own W (w.heap.size + 1) K.zero
  low : Below w.heap.size w W
theorem st_new (w : World) (c : K) : St w ((w.alloc (.cells #[.int .i64 c.t, .int .i64 c.r, .int .i64 c.b, .int .i64 c.o, .int .i64 c.g] 23)).alloc (.cells #[.int .i64 0, .int .i64 0, .int .i64 0, .int .i64 0, .int .i64 0] 23)) c := by
  refine ⟨(own_new w c 23).alloc _, ?_, q_alloc (q_alloc (Below.refl _ _) _) _⟩
  have h := own_new (w.alloc (.cells #[.int .i64 c.t, .int .i64 c.r, .int .i64 c.b, .int .i64 c.o, .int .i64 c.g] 23)) K.zero 23
  rw [show (w.alloc (.cells #[.int .i64 c.t, .int .i64 c.r, .int .i64 c.b, .int .i64 c.o, .int .i64 c.g] 23)).heap.size = w.heap.size + 1 by simp] at h
  exact h
theorem St.below {w W W' : World} {c : K} (h : St w W c) (hb : Below W.heap.size W W') : St w W' c := ⟨h.oc.below hb, h.oz.below hb, q_trans h.low hb⟩

set_option maxRecDepth 100000 in
set_option maxHeartbeats 600000 in
theorem rder_a (c : K) (r b : Int) (w : World) (hs : someB c = false) (ho : okB c = false) :
    Calls Tryd.prog 20 #[(.agg #[.int .i64 c.t, .int .i64 c.r, .int .i64 c.b, .int .i64 c.o, .int .i64 c.g]), .int .i64 r, .int .i64 b] w fun e w' => e = .returned (.tuple #[(.agg #[.int .i64 (drvC c r b).t, .int .i64 (drvC c r b).r, .int .i64 (drvC c r b).b, .int .i64 (drvC c r b).o, .int .i64 (drvC c r b).g]), .int .i64 (drvE c r b)]) ∧ Below w.heap.size w w' := by
  have HR : Hid (drvE c r b = 30 ∧ drvC c r b = K.zero) := drv_some hs
  have HS : Hid _ := st_new w c
  have I1 : Hid (∀ W : World, Calls Tryd.prog 15 #[(.agg #[.int .i64 c.t, .int .i64 c.r, .int .i64 c.b, .int .i64 c.o, .int .i64 c.g])] W fun e w' => e = .returned (.bool false) ∧ Below W.heap.size W w') := fun W => by
    have := ris_any c W
    rwa [ho] at this
  go_enter Tryd.func20, Tryd.ntmps20
  go_wp2_with fail
  refine (I1.out _).mono ?_
  rintro e w1 ⟨rfl, b1⟩
  have H1 : Hid (St w w1 c) := HS.out.below b1
  obtain ⟨⟨c0, c1, c2, c3, c4⟩, k0, k1, k2, k3, k4⟩ := H1.out.oc
  obtain ⟨⟨z0, z1, z2, z3, z4⟩, g0, g1, g2, g3, g4⟩ := H1.out.oz
  clear b1
  go_wp2_with fail
  refine bodyPost_ret (v := .tuple #[.agg #[.int .i64 0, .int .i64 0, .int .i64 0, .int .i64 0, .int .i64 0], .int .i64 30]) (by simp [results, Tryd.results20, go_sem, *]) rfl ⟨by rw [HR.out.1, HR.out.2]; rfl, ?_⟩
  exact q_set (q_set (q_set (q_set (q_set H1.out.low (Nat.le_succ _) _) (Nat.le_succ _) _) (Nat.le_succ _) _) (Nat.le_succ _) _) (Nat.le_succ _) _

set_option maxRecDepth 100000 in
set_option maxHeartbeats 600000 in
theorem rder_b (c : K) (r b : Int) (w : World) (hs : someB c = false) (ho : okB c = true) :
    Calls Tryd.prog 20 #[(.agg #[.int .i64 c.t, .int .i64 c.r, .int .i64 c.b, .int .i64 c.o, .int .i64 c.g]), .int .i64 r, .int .i64 b] w fun e w' => e = .returned (.tuple #[(.agg #[.int .i64 (drvC c r b).t, .int .i64 (drvC c r b).r, .int .i64 (drvC c r b).b, .int .i64 (drvC c r b).o, .int .i64 (drvC c r b).g]), .int .i64 (drvE c r b)]) ∧ Below w.heap.size w w' := by
  have HR : Hid (drvE c r b = 30 ∧ drvC c r b = K.zero) := drv_some hs
  have HS : Hid _ := st_new w c
  have I1 : Hid (∀ W : World, Calls Tryd.prog 15 #[(.agg #[.int .i64 c.t, .int .i64 c.r, .int .i64 c.b, .int .i64 c.o, .int .i64 c.g])] W fun e w' => e = .returned (.bool true) ∧ Below W.heap.size W w') := fun W => by
    have := ris_any c W
    rwa [ho] at this
  have htz : (c.t == 0) = true := by rw [none_type ho, hs]; rfl
  go_enter Tryd.func20, Tryd.ntmps20
  go_wp2_with fail
  refine (I1.out _).mono ?_
  rintro e w1 ⟨rfl, b1⟩
  have H1 : Hid (St w w1 c) := HS.out.below b1
  obtain ⟨⟨c0, c1, c2, c3, c4⟩, k0, k1, k2, k3, k4⟩ := H1.out.oc
  obtain ⟨⟨z0, z1, z2, z3, z4⟩, g0, g1, g2, g3, g4⟩ := H1.out.oz
  clear b1
  go_wp2_with fail
  refine bodyPost_ret (v := .tuple #[.agg #[.int .i64 0, .int .i64 0, .int .i64 0, .int .i64 0, .int .i64 0], .int .i64 30]) (by simp [results, Tryd.results20, go_sem, *]) rfl ⟨by rw [HR.out.1, HR.out.2]; rfl, ?_⟩
  exact q_set (q_set (q_set (q_set (q_set H1.out.low (Nat.le_succ _) _) (Nat.le_succ _) _) (Nat.le_succ _) _) (Nat.le_succ _) _) (Nat.le_succ _) _

set_option maxRecDepth 100000 in
set_option maxHeartbeats 600000 in
theorem rder_c (c : K) (r b : Int) (w : World) (hs : someB c = true) (hw : Rt.wiB r c.r = false) :
    Calls Tryd.prog 20 #[(.agg #[.int .i64 c.t, .int .i64 c.r, .int .i64 c.b, .int .i64 c.o, .int .i64 c.g]), .int .i64 r, .int .i64 b] w fun e w' => e = .returned (.tuple #[(.agg #[.int .i64 (drvC c r b).t, .int .i64 (drvC c r b).r, .int .i64 (drvC c r b).b, .int .i64 (drvC c r b).o, .int .i64 (drvC c r b).g]), .int .i64 (drvE c r b)]) ∧ Below w.heap.size w w' := by
  have HR : Hid (drvE c r b = 20 ∧ drvC c r b = K.zero) := drv_rights hs hw
  have HS : Hid _ := st_new w c
  have I1 : Hid (∀ W : World, Calls Tryd.prog 15 #[(.agg #[.int .i64 c.t, .int .i64 c.r, .int .i64 c.b, .int .i64 c.o, .int .i64 c.g])] W fun e w' => e = .returned (.bool true) ∧ Below W.heap.size W w') := fun W => by
    have := ris_any c W
    rwa [some_ok hs] at this
  have htz : (c.t == 0) = false := by rw [none_type (some_ok hs), hs]; rfl
  have I2 : Hid (∀ W : World, Calls Tryd.prog 25 #[.int .i64 r, .int .i64 c.r] W fun e w' => e = .returned (.bool false) ∧ w' = W) := fun W => by
    have := Rt.rwithin_any r c.r W
    rwa [hw] at this
  go_enter Tryd.func20, Tryd.ntmps20
  go_wp2_with fail
  refine (I1.out _).mono ?_
  rintro e w1 ⟨rfl, b1⟩
  have H1 : Hid (St w w1 c) := HS.out.below b1
  obtain ⟨⟨c0, c1, c2, c3, c4⟩, k0, k1, k2, k3, k4⟩ := H1.out.oc
  obtain ⟨⟨z0, z1, z2, z3, z4⟩, g0, g1, g2, g3, g4⟩ := H1.out.oz
  clear b1
  go_wp2_with (go_at_call 25; refine (I2.out _).mono ?_; rintro e w7 ⟨rfl, rfl⟩)
  refine bodyPost_ret (v := .tuple #[.agg #[.int .i64 0, .int .i64 0, .int .i64 0, .int .i64 0, .int .i64 0], .int .i64 20]) (by simp [results, Tryd.results20, go_sem, *]) rfl ⟨by rw [HR.out.1, HR.out.2]; rfl, ?_⟩
  exact q_set (q_set (q_set (q_set (q_set H1.out.low (Nat.le_succ _) _) (Nat.le_succ _) _) (Nat.le_succ _) _) (Nat.le_succ _) _) (Nat.le_succ _) _

set_option maxRecDepth 100000 in
set_option maxHeartbeats 600000 in
theorem rder_z (c : K) (r b : Int) (w : World) (hs : someB c = true) (hw : Rt.wiB r c.r = true) (h0 : b = 0) :
    Calls Tryd.prog 20 #[(.agg #[.int .i64 c.t, .int .i64 c.r, .int .i64 c.b, .int .i64 c.o, .int .i64 c.g]), .int .i64 r, .int .i64 b] w fun e w' => e = .returned (.tuple #[(.agg #[.int .i64 (drvC c r b).t, .int .i64 (drvC c r b).r, .int .i64 (drvC c r b).b, .int .i64 (drvC c r b).o, .int .i64 (drvC c r b).g]), .int .i64 (drvE c r b)]) ∧ Below w.heap.size w w' := by
  have HR : Hid (drvE c r b = 0 ∧ drvC c r b = ⟨c.t, r, c.b, c.o, c.g⟩) := by subst h0; exact drv_zero hs hw
  have HS : Hid _ := st_new w c
  have I1 : Hid (∀ W : World, Calls Tryd.prog 15 #[(.agg #[.int .i64 c.t, .int .i64 c.r, .int .i64 c.b, .int .i64 c.o, .int .i64 c.g])] W fun e w' => e = .returned (.bool true) ∧ Below W.heap.size W w') := fun W => by
    have := ris_any c W
    rwa [some_ok hs] at this
  have htz : (c.t == 0) = false := by rw [none_type (some_ok hs), hs]; rfl
  have I2 : Hid (∀ W : World, Calls Tryd.prog 25 #[.int .i64 r, .int .i64 c.r] W fun e w' => e = .returned (.bool true) ∧ w' = W) := fun W => by
    have := Rt.rwithin_any r c.r W
    rwa [hw] at this
  have hb0 : (b != 0) = false := by simp [h0]
  clear h0
  go_enter Tryd.func20, Tryd.ntmps20
  go_wp2_with fail
  refine (I1.out _).mono ?_
  rintro e w1 ⟨rfl, b1⟩
  have H1 : Hid (St w w1 c) := HS.out.below b1
  obtain ⟨⟨c0, c1, c2, c3, c4⟩, k0, k1, k2, k3, k4⟩ := H1.out.oc
  obtain ⟨⟨z0, z1, z2, z3, z4⟩, g0, g1, g2, g3, g4⟩ := H1.out.oz
  clear b1
  go_wp2_with (go_at_call 25; refine (I2.out _).mono ?_; rintro e w7 ⟨rfl, rfl⟩)
  refine bodyPost_ret (v := .tuple #[.agg #[.int .i64 c.t, .int .i64 r, .int .i64 c.b, .int .i64 c.o, .int .i64 c.g], .int .i64 0]) (by simp [results, Tryd.results20, go_sem, *]) rfl ⟨by rw [HR.out.1, HR.out.2], ?_⟩
  exact q_set (q_set (q_set (q_set (q_set (q_set H1.out.low (Nat.le_refl _) _) (Nat.le_succ _) _) (Nat.le_succ _) _) (Nat.le_succ _) _) (Nat.le_succ _) _) (Nat.le_succ _) _

set_option maxRecDepth 100000 in
set_option maxHeartbeats 600000 in
theorem rder_n (c : K) (r b : Int) (w : World) (hs : someB c = true) (hw : Rt.wiB r c.r = true) (h0 : ¬ b = 0) (h4 : ¬ c.t = 4) (h5 : ¬ c.t = 5) :
    Calls Tryd.prog 20 #[(.agg #[.int .i64 c.t, .int .i64 c.r, .int .i64 c.b, .int .i64 c.o, .int .i64 c.g]), .int .i64 r, .int .i64 b] w fun e w' => e = .returned (.tuple #[(.agg #[.int .i64 (drvC c r b).t, .int .i64 (drvC c r b).r, .int .i64 (drvC c r b).b, .int .i64 (drvC c r b).o, .int .i64 (drvC c r b).g]), .int .i64 (drvE c r b)]) ∧ Below w.heap.size w w' := by
  have HR : Hid (drvE c r b = 2 ∧ drvC c r b = K.zero) := drv_arg hs hw h0 (by simp [badB, takesB]; omega)
  have HS : Hid _ := st_new w c
  have I1 : Hid (∀ W : World, Calls Tryd.prog 15 #[(.agg #[.int .i64 c.t, .int .i64 c.r, .int .i64 c.b, .int .i64 c.o, .int .i64 c.g])] W fun e w' => e = .returned (.bool true) ∧ Below W.heap.size W w') := fun W => by
    have := ris_any c W
    rwa [some_ok hs] at this
  have htz : (c.t == 0) = false := by rw [none_type (some_ok hs), hs]; rfl
  have I2 : Hid (∀ W : World, Calls Tryd.prog 25 #[.int .i64 r, .int .i64 c.r] W fun e w' => e = .returned (.bool true) ∧ w' = W) := fun W => by
    have := Rt.rwithin_any r c.r W
    rwa [hw] at this
  have hb0 : (b != 0) = true := by simp [h0]
  have qct4 : (c.t != 4) = true := by simp; omega
  have qct5 : (c.t != 5) = true := by simp; omega
  clear h4 h5
  go_enter Tryd.func20, Tryd.ntmps20
  go_wp2_with fail
  refine (I1.out _).mono ?_
  rintro e w1 ⟨rfl, b1⟩
  have H1 : Hid (St w w1 c) := HS.out.below b1
  obtain ⟨⟨c0, c1, c2, c3, c4⟩, k0, k1, k2, k3, k4⟩ := H1.out.oc
  obtain ⟨⟨z0, z1, z2, z3, z4⟩, g0, g1, g2, g3, g4⟩ := H1.out.oz
  clear b1
  go_wp2_with (go_at_call 25; refine (I2.out _).mono ?_; rintro e w7 ⟨rfl, rfl⟩)
  refine bodyPost_ret (v := .tuple #[.agg #[.int .i64 0, .int .i64 0, .int .i64 0, .int .i64 0, .int .i64 0], .int .i64 2]) (by simp [results, Tryd.results20, go_sem, *]) rfl ⟨by rw [HR.out.1, HR.out.2]; rfl, ?_⟩
  exact q_set (q_set (q_set (q_set (q_set H1.out.low (Nat.le_succ _) _) (Nat.le_succ _) _) (Nat.le_succ _) _) (Nat.le_succ _) _) (Nat.le_succ _) _

set_option maxRecDepth 100000 in
set_option maxHeartbeats 600000 in
theorem rder_b4 (c : K) (r b : Int) (w : World) (hs : someB c = true) (hw : Rt.wiB r c.r = true) (h0 : ¬ b = 0) (ht : c.t = 4) (hb : ¬ c.b = 0) :
    Calls Tryd.prog 20 #[(.agg #[.int .i64 c.t, .int .i64 c.r, .int .i64 c.b, .int .i64 c.o, .int .i64 c.g]), .int .i64 r, .int .i64 b] w fun e w' => e = .returned (.tuple #[(.agg #[.int .i64 (drvC c r b).t, .int .i64 (drvC c r b).r, .int .i64 (drvC c r b).b, .int .i64 (drvC c r b).o, .int .i64 (drvC c r b).g]), .int .i64 (drvE c r b)]) ∧ Below w.heap.size w w' := by
  have HR : Hid (drvE c r b = 2 ∧ drvC c r b = K.zero) := drv_arg hs hw h0 (by simp [badB, takesB]; omega)
  have HS : Hid _ := st_new w c
  have I1 : Hid (∀ W : World, Calls Tryd.prog 15 #[(.agg #[.int .i64 c.t, .int .i64 c.r, .int .i64 c.b, .int .i64 c.o, .int .i64 c.g])] W fun e w' => e = .returned (.bool true) ∧ Below W.heap.size W w') := fun W => by
    have := ris_any c W
    rwa [some_ok hs] at this
  have htz : (c.t == 0) = false := by rw [none_type (some_ok hs), hs]; rfl
  have I2 : Hid (∀ W : World, Calls Tryd.prog 25 #[.int .i64 r, .int .i64 c.r] W fun e w' => e = .returned (.bool true) ∧ w' = W) := fun W => by
    have := Rt.rwithin_any r c.r W
    rwa [hw] at this
  have hb0 : (b != 0) = true := by simp [h0]
  have qct4 : (c.t != 4) = false := by simp; omega
  have qcb0 : (c.b != 0) = true := by simp; omega
  clear ht hb
  go_enter Tryd.func20, Tryd.ntmps20
  go_wp2_with fail
  refine (I1.out _).mono ?_
  rintro e w1 ⟨rfl, b1⟩
  have H1 : Hid (St w w1 c) := HS.out.below b1
  obtain ⟨⟨c0, c1, c2, c3, c4⟩, k0, k1, k2, k3, k4⟩ := H1.out.oc
  obtain ⟨⟨z0, z1, z2, z3, z4⟩, g0, g1, g2, g3, g4⟩ := H1.out.oz
  clear b1
  go_wp2_with (go_at_call 25; refine (I2.out _).mono ?_; rintro e w7 ⟨rfl, rfl⟩)
  refine bodyPost_ret (v := .tuple #[.agg #[.int .i64 0, .int .i64 0, .int .i64 0, .int .i64 0, .int .i64 0], .int .i64 2]) (by simp [results, Tryd.results20, go_sem, *]) rfl ⟨by rw [HR.out.1, HR.out.2]; rfl, ?_⟩
  exact q_set (q_set (q_set (q_set (q_set H1.out.low (Nat.le_succ _) _) (Nat.le_succ _) _) (Nat.le_succ _) _) (Nat.le_succ _) _) (Nat.le_succ _) _

set_option maxRecDepth 100000 in
set_option maxHeartbeats 600000 in
theorem rder_l4 (c : K) (r b : Int) (w : World) (hs : someB c = true) (hw : Rt.wiB r c.r = true) (h0 : ¬ b = 0) (ht : c.t = 4) (hb : c.b = 0) (h1 : b < 1) :
    Calls Tryd.prog 20 #[(.agg #[.int .i64 c.t, .int .i64 c.r, .int .i64 c.b, .int .i64 c.o, .int .i64 c.g]), .int .i64 r, .int .i64 b] w fun e w' => e = .returned (.tuple #[(.agg #[.int .i64 (drvC c r b).t, .int .i64 (drvC c r b).r, .int .i64 (drvC c r b).b, .int .i64 (drvC c r b).o, .int .i64 (drvC c r b).g]), .int .i64 (drvE c r b)]) ∧ Below w.heap.size w w' := by
  have HR : Hid (drvE c r b = 2 ∧ drvC c r b = K.zero) := drv_arg hs hw h0 (by simp [badB, takesB]; omega)
  have HS : Hid _ := st_new w c
  have I1 : Hid (∀ W : World, Calls Tryd.prog 15 #[(.agg #[.int .i64 c.t, .int .i64 c.r, .int .i64 c.b, .int .i64 c.o, .int .i64 c.g])] W fun e w' => e = .returned (.bool true) ∧ Below W.heap.size W w') := fun W => by
    have := ris_any c W
    rwa [some_ok hs] at this
  have htz : (c.t == 0) = false := by rw [none_type (some_ok hs), hs]; rfl
  have I2 : Hid (∀ W : World, Calls Tryd.prog 25 #[.int .i64 r, .int .i64 c.r] W fun e w' => e = .returned (.bool true) ∧ w' = W) := fun W => by
    have := Rt.rwithin_any r c.r W
    rwa [hw] at this
  have hb0 : (b != 0) = true := by simp [h0]
  have qct4 : (c.t != 4) = false := by simp; omega
  have qcb0 : (c.b != 0) = false := by simp; omega
  clear ht hb
  go_enter Tryd.func20, Tryd.ntmps20
  go_wp2_with fail
  refine (I1.out _).mono ?_
  rintro e w1 ⟨rfl, b1⟩
  have H1 : Hid (St w w1 c) := HS.out.below b1
  obtain ⟨⟨c0, c1, c2, c3, c4⟩, k0, k1, k2, k3, k4⟩ := H1.out.oc
  obtain ⟨⟨z0, z1, z2, z3, z4⟩, g0, g1, g2, g3, g4⟩ := H1.out.oz
  clear b1
  go_wp2_with (go_at_call 25; refine (I2.out _).mono ?_; rintro e w7 ⟨rfl, rfl⟩)
  refine bodyPost_ret (v := .tuple #[.agg #[.int .i64 0, .int .i64 0, .int .i64 0, .int .i64 0, .int .i64 0], .int .i64 2]) (by simp [results, Tryd.results20, go_sem, *]) rfl ⟨by rw [HR.out.1, HR.out.2]; rfl, ?_⟩
  exact q_set (q_set (q_set (q_set (q_set H1.out.low (Nat.le_succ _) _) (Nat.le_succ _) _) (Nat.le_succ _) _) (Nat.le_succ _) _) (Nat.le_succ _) _

set_option maxRecDepth 100000 in
set_option maxHeartbeats 600000 in
theorem rder_g4 (c : K) (r b : Int) (w : World) (hs : someB c = true) (hw : Rt.wiB r c.r = true) (h0 : ¬ b = 0) (ht : c.t = 4) (hb : c.b = 0) (h1 : ¬ b < 1) (h2 : 65535 < b) :
    Calls Tryd.prog 20 #[(.agg #[.int .i64 c.t, .int .i64 c.r, .int .i64 c.b, .int .i64 c.o, .int .i64 c.g]), .int .i64 r, .int .i64 b] w fun e w' => e = .returned (.tuple #[(.agg #[.int .i64 (drvC c r b).t, .int .i64 (drvC c r b).r, .int .i64 (drvC c r b).b, .int .i64 (drvC c r b).o, .int .i64 (drvC c r b).g]), .int .i64 (drvE c r b)]) ∧ Below w.heap.size w w' := by
  have HR : Hid (drvE c r b = 2 ∧ drvC c r b = K.zero) := drv_arg hs hw h0 (by simp [badB, takesB]; omega)
  have HS : Hid _ := st_new w c
  have I1 : Hid (∀ W : World, Calls Tryd.prog 15 #[(.agg #[.int .i64 c.t, .int .i64 c.r, .int .i64 c.b, .int .i64 c.o, .int .i64 c.g])] W fun e w' => e = .returned (.bool true) ∧ Below W.heap.size W w') := fun W => by
    have := ris_any c W
    rwa [some_ok hs] at this
  have htz : (c.t == 0) = false := by rw [none_type (some_ok hs), hs]; rfl
  have I2 : Hid (∀ W : World, Calls Tryd.prog 25 #[.int .i64 r, .int .i64 c.r] W fun e w' => e = .returned (.bool true) ∧ w' = W) := fun W => by
    have := Rt.rwithin_any r c.r W
    rwa [hw] at this
  have hb0 : (b != 0) = true := by simp [h0]
  have qct4 : (c.t != 4) = false := by simp; omega
  have qcb0 : (c.b != 0) = false := by simp; omega
  clear ht hb
  go_enter Tryd.func20, Tryd.ntmps20
  go_wp2_with fail
  refine (I1.out _).mono ?_
  rintro e w1 ⟨rfl, b1⟩
  have H1 : Hid (St w w1 c) := HS.out.below b1
  obtain ⟨⟨c0, c1, c2, c3, c4⟩, k0, k1, k2, k3, k4⟩ := H1.out.oc
  obtain ⟨⟨z0, z1, z2, z3, z4⟩, g0, g1, g2, g3, g4⟩ := H1.out.oz
  clear b1
  go_wp2_with (go_at_call 25; refine (I2.out _).mono ?_; rintro e w7 ⟨rfl, rfl⟩)
  refine bodyPost_ret (v := .tuple #[.agg #[.int .i64 0, .int .i64 0, .int .i64 0, .int .i64 0, .int .i64 0], .int .i64 2]) (by simp [results, Tryd.results20, go_sem, *]) rfl ⟨by rw [HR.out.1, HR.out.2]; rfl, ?_⟩
  exact q_set (q_set (q_set (q_set (q_set H1.out.low (Nat.le_succ _) _) (Nat.le_succ _) _) (Nat.le_succ _) _) (Nat.le_succ _) _) (Nat.le_succ _) _

set_option maxRecDepth 100000 in
set_option maxHeartbeats 600000 in
theorem rder_o4 (c : K) (r b : Int) (w : World) (hs : someB c = true) (hw : Rt.wiB r c.r = true) (h0 : ¬ b = 0) (ht : c.t = 4) (hb : c.b = 0) (h1 : ¬ b < 1) (h2 : ¬ 65535 < b) :
    Calls Tryd.prog 20 #[(.agg #[.int .i64 c.t, .int .i64 c.r, .int .i64 c.b, .int .i64 c.o, .int .i64 c.g]), .int .i64 r, .int .i64 b] w fun e w' => e = .returned (.tuple #[(.agg #[.int .i64 (drvC c r b).t, .int .i64 (drvC c r b).r, .int .i64 (drvC c r b).b, .int .i64 (drvC c r b).o, .int .i64 (drvC c r b).g]), .int .i64 (drvE c r b)]) ∧ Below w.heap.size w w' := by
  have HR : Hid (drvE c r b = 0 ∧ drvC c r b = ⟨c.t, r, b, c.o, c.g⟩) := drv_badge hs hw h0 (by simp [badB, takesB]; omega)
  have HS : Hid _ := st_new w c
  have I1 : Hid (∀ W : World, Calls Tryd.prog 15 #[(.agg #[.int .i64 c.t, .int .i64 c.r, .int .i64 c.b, .int .i64 c.o, .int .i64 c.g])] W fun e w' => e = .returned (.bool true) ∧ Below W.heap.size W w') := fun W => by
    have := ris_any c W
    rwa [some_ok hs] at this
  have htz : (c.t == 0) = false := by rw [none_type (some_ok hs), hs]; rfl
  have I2 : Hid (∀ W : World, Calls Tryd.prog 25 #[.int .i64 r, .int .i64 c.r] W fun e w' => e = .returned (.bool true) ∧ w' = W) := fun W => by
    have := Rt.rwithin_any r c.r W
    rwa [hw] at this
  have hb0 : (b != 0) = true := by simp [h0]
  have qct4 : (c.t != 4) = false := by simp; omega
  have qcb0 : (c.b != 0) = false := by simp; omega
  clear ht hb
  go_enter Tryd.func20, Tryd.ntmps20
  go_wp2_with fail
  refine (I1.out _).mono ?_
  rintro e w1 ⟨rfl, b1⟩
  have H1 : Hid (St w w1 c) := HS.out.below b1
  obtain ⟨⟨c0, c1, c2, c3, c4⟩, k0, k1, k2, k3, k4⟩ := H1.out.oc
  obtain ⟨⟨z0, z1, z2, z3, z4⟩, g0, g1, g2, g3, g4⟩ := H1.out.oz
  clear b1
  go_wp2_with (go_at_call 25; refine (I2.out _).mono ?_; rintro e w7 ⟨rfl, rfl⟩)
  refine bodyPost_ret (v := .tuple #[.agg #[.int .i64 c.t, .int .i64 r, .int .i64 b, .int .i64 c.o, .int .i64 c.g], .int .i64 0]) (by simp [results, Tryd.results20, go_sem, *]) rfl ⟨by rw [HR.out.1, HR.out.2], ?_⟩
  exact q_set (q_set (q_set (q_set (q_set (q_set (q_set H1.out.low (Nat.le_refl _) _) (Nat.le_refl _) _) (Nat.le_succ _) _) (Nat.le_succ _) _) (Nat.le_succ _) _) (Nat.le_succ _) _) (Nat.le_succ _) _

set_option maxRecDepth 100000 in
set_option maxHeartbeats 600000 in
theorem rder_b5 (c : K) (r b : Int) (w : World) (hs : someB c = true) (hw : Rt.wiB r c.r = true) (h0 : ¬ b = 0) (ht : c.t = 5) (hb : ¬ c.b = 0) :
    Calls Tryd.prog 20 #[(.agg #[.int .i64 c.t, .int .i64 c.r, .int .i64 c.b, .int .i64 c.o, .int .i64 c.g]), .int .i64 r, .int .i64 b] w fun e w' => e = .returned (.tuple #[(.agg #[.int .i64 (drvC c r b).t, .int .i64 (drvC c r b).r, .int .i64 (drvC c r b).b, .int .i64 (drvC c r b).o, .int .i64 (drvC c r b).g]), .int .i64 (drvE c r b)]) ∧ Below w.heap.size w w' := by
  have HR : Hid (drvE c r b = 2 ∧ drvC c r b = K.zero) := drv_arg hs hw h0 (by simp [badB, takesB]; omega)
  have HS : Hid _ := st_new w c
  have I1 : Hid (∀ W : World, Calls Tryd.prog 15 #[(.agg #[.int .i64 c.t, .int .i64 c.r, .int .i64 c.b, .int .i64 c.o, .int .i64 c.g])] W fun e w' => e = .returned (.bool true) ∧ Below W.heap.size W w') := fun W => by
    have := ris_any c W
    rwa [some_ok hs] at this
  have htz : (c.t == 0) = false := by rw [none_type (some_ok hs), hs]; rfl
  have I2 : Hid (∀ W : World, Calls Tryd.prog 25 #[.int .i64 r, .int .i64 c.r] W fun e w' => e = .returned (.bool true) ∧ w' = W) := fun W => by
    have := Rt.rwithin_any r c.r W
    rwa [hw] at this
  have hb0 : (b != 0) = true := by simp [h0]
  have qct4 : (c.t != 4) = true := by simp; omega
  have qct5 : (c.t != 5) = false := by simp; omega
  have qcb0 : (c.b != 0) = true := by simp; omega
  clear ht hb
  go_enter Tryd.func20, Tryd.ntmps20
  go_wp2_with fail
  refine (I1.out _).mono ?_
  rintro e w1 ⟨rfl, b1⟩
  have H1 : Hid (St w w1 c) := HS.out.below b1
  obtain ⟨⟨c0, c1, c2, c3, c4⟩, k0, k1, k2, k3, k4⟩ := H1.out.oc
  obtain ⟨⟨z0, z1, z2, z3, z4⟩, g0, g1, g2, g3, g4⟩ := H1.out.oz
  clear b1
  go_wp2_with (go_at_call 25; refine (I2.out _).mono ?_; rintro e w7 ⟨rfl, rfl⟩)
  refine bodyPost_ret (v := .tuple #[.agg #[.int .i64 0, .int .i64 0, .int .i64 0, .int .i64 0, .int .i64 0], .int .i64 2]) (by simp [results, Tryd.results20, go_sem, *]) rfl ⟨by rw [HR.out.1, HR.out.2]; rfl, ?_⟩
  exact q_set (q_set (q_set (q_set (q_set H1.out.low (Nat.le_succ _) _) (Nat.le_succ _) _) (Nat.le_succ _) _) (Nat.le_succ _) _) (Nat.le_succ _) _

set_option maxRecDepth 100000 in
set_option maxHeartbeats 600000 in
theorem rder_l5 (c : K) (r b : Int) (w : World) (hs : someB c = true) (hw : Rt.wiB r c.r = true) (h0 : ¬ b = 0) (ht : c.t = 5) (hb : c.b = 0) (h1 : b < 1) :
    Calls Tryd.prog 20 #[(.agg #[.int .i64 c.t, .int .i64 c.r, .int .i64 c.b, .int .i64 c.o, .int .i64 c.g]), .int .i64 r, .int .i64 b] w fun e w' => e = .returned (.tuple #[(.agg #[.int .i64 (drvC c r b).t, .int .i64 (drvC c r b).r, .int .i64 (drvC c r b).b, .int .i64 (drvC c r b).o, .int .i64 (drvC c r b).g]), .int .i64 (drvE c r b)]) ∧ Below w.heap.size w w' := by
  have HR : Hid (drvE c r b = 2 ∧ drvC c r b = K.zero) := drv_arg hs hw h0 (by simp [badB, takesB]; omega)
  have HS : Hid _ := st_new w c
  have I1 : Hid (∀ W : World, Calls Tryd.prog 15 #[(.agg #[.int .i64 c.t, .int .i64 c.r, .int .i64 c.b, .int .i64 c.o, .int .i64 c.g])] W fun e w' => e = .returned (.bool true) ∧ Below W.heap.size W w') := fun W => by
    have := ris_any c W
    rwa [some_ok hs] at this
  have htz : (c.t == 0) = false := by rw [none_type (some_ok hs), hs]; rfl
  have I2 : Hid (∀ W : World, Calls Tryd.prog 25 #[.int .i64 r, .int .i64 c.r] W fun e w' => e = .returned (.bool true) ∧ w' = W) := fun W => by
    have := Rt.rwithin_any r c.r W
    rwa [hw] at this
  have hb0 : (b != 0) = true := by simp [h0]
  have qct4 : (c.t != 4) = true := by simp; omega
  have qct5 : (c.t != 5) = false := by simp; omega
  have qcb0 : (c.b != 0) = false := by simp; omega
  clear ht hb
  go_enter Tryd.func20, Tryd.ntmps20
  go_wp2_with fail
  refine (I1.out _).mono ?_
  rintro e w1 ⟨rfl, b1⟩
  have H1 : Hid (St w w1 c) := HS.out.below b1
  obtain ⟨⟨c0, c1, c2, c3, c4⟩, k0, k1, k2, k3, k4⟩ := H1.out.oc
  obtain ⟨⟨z0, z1, z2, z3, z4⟩, g0, g1, g2, g3, g4⟩ := H1.out.oz
  clear b1
  go_wp2_with (go_at_call 25; refine (I2.out _).mono ?_; rintro e w7 ⟨rfl, rfl⟩)
  refine bodyPost_ret (v := .tuple #[.agg #[.int .i64 0, .int .i64 0, .int .i64 0, .int .i64 0, .int .i64 0], .int .i64 2]) (by simp [results, Tryd.results20, go_sem, *]) rfl ⟨by rw [HR.out.1, HR.out.2]; rfl, ?_⟩
  exact q_set (q_set (q_set (q_set (q_set H1.out.low (Nat.le_succ _) _) (Nat.le_succ _) _) (Nat.le_succ _) _) (Nat.le_succ _) _) (Nat.le_succ _) _

set_option maxRecDepth 100000 in
set_option maxHeartbeats 600000 in
theorem rder_g5 (c : K) (r b : Int) (w : World) (hs : someB c = true) (hw : Rt.wiB r c.r = true) (h0 : ¬ b = 0) (ht : c.t = 5) (hb : c.b = 0) (h1 : ¬ b < 1) (h2 : 65535 < b) :
    Calls Tryd.prog 20 #[(.agg #[.int .i64 c.t, .int .i64 c.r, .int .i64 c.b, .int .i64 c.o, .int .i64 c.g]), .int .i64 r, .int .i64 b] w fun e w' => e = .returned (.tuple #[(.agg #[.int .i64 (drvC c r b).t, .int .i64 (drvC c r b).r, .int .i64 (drvC c r b).b, .int .i64 (drvC c r b).o, .int .i64 (drvC c r b).g]), .int .i64 (drvE c r b)]) ∧ Below w.heap.size w w' := by
  have HR : Hid (drvE c r b = 2 ∧ drvC c r b = K.zero) := drv_arg hs hw h0 (by simp [badB, takesB]; omega)
  have HS : Hid _ := st_new w c
  have I1 : Hid (∀ W : World, Calls Tryd.prog 15 #[(.agg #[.int .i64 c.t, .int .i64 c.r, .int .i64 c.b, .int .i64 c.o, .int .i64 c.g])] W fun e w' => e = .returned (.bool true) ∧ Below W.heap.size W w') := fun W => by
    have := ris_any c W
    rwa [some_ok hs] at this
  have htz : (c.t == 0) = false := by rw [none_type (some_ok hs), hs]; rfl
  have I2 : Hid (∀ W : World, Calls Tryd.prog 25 #[.int .i64 r, .int .i64 c.r] W fun e w' => e = .returned (.bool true) ∧ w' = W) := fun W => by
    have := Rt.rwithin_any r c.r W
    rwa [hw] at this
  have hb0 : (b != 0) = true := by simp [h0]
  have qct4 : (c.t != 4) = true := by simp; omega
  have qct5 : (c.t != 5) = false := by simp; omega
  have qcb0 : (c.b != 0) = false := by simp; omega
  clear ht hb
  go_enter Tryd.func20, Tryd.ntmps20
  go_wp2_with fail
  refine (I1.out _).mono ?_
  rintro e w1 ⟨rfl, b1⟩
  have H1 : Hid (St w w1 c) := HS.out.below b1
  obtain ⟨⟨c0, c1, c2, c3, c4⟩, k0, k1, k2, k3, k4⟩ := H1.out.oc
  obtain ⟨⟨z0, z1, z2, z3, z4⟩, g0, g1, g2, g3, g4⟩ := H1.out.oz
  clear b1
  go_wp2_with (go_at_call 25; refine (I2.out _).mono ?_; rintro e w7 ⟨rfl, rfl⟩)
  refine bodyPost_ret (v := .tuple #[.agg #[.int .i64 0, .int .i64 0, .int .i64 0, .int .i64 0, .int .i64 0], .int .i64 2]) (by simp [results, Tryd.results20, go_sem, *]) rfl ⟨by rw [HR.out.1, HR.out.2]; rfl, ?_⟩
  exact q_set (q_set (q_set (q_set (q_set H1.out.low (Nat.le_succ _) _) (Nat.le_succ _) _) (Nat.le_succ _) _) (Nat.le_succ _) _) (Nat.le_succ _) _

set_option maxRecDepth 100000 in
set_option maxHeartbeats 600000 in
theorem rder_o5 (c : K) (r b : Int) (w : World) (hs : someB c = true) (hw : Rt.wiB r c.r = true) (h0 : ¬ b = 0) (ht : c.t = 5) (hb : c.b = 0) (h1 : ¬ b < 1) (h2 : ¬ 65535 < b) :
    Calls Tryd.prog 20 #[(.agg #[.int .i64 c.t, .int .i64 c.r, .int .i64 c.b, .int .i64 c.o, .int .i64 c.g]), .int .i64 r, .int .i64 b] w fun e w' => e = .returned (.tuple #[(.agg #[.int .i64 (drvC c r b).t, .int .i64 (drvC c r b).r, .int .i64 (drvC c r b).b, .int .i64 (drvC c r b).o, .int .i64 (drvC c r b).g]), .int .i64 (drvE c r b)]) ∧ Below w.heap.size w w' := by
  have HR : Hid (drvE c r b = 0 ∧ drvC c r b = ⟨c.t, r, b, c.o, c.g⟩) := drv_badge hs hw h0 (by simp [badB, takesB]; omega)
  have HS : Hid _ := st_new w c
  have I1 : Hid (∀ W : World, Calls Tryd.prog 15 #[(.agg #[.int .i64 c.t, .int .i64 c.r, .int .i64 c.b, .int .i64 c.o, .int .i64 c.g])] W fun e w' => e = .returned (.bool true) ∧ Below W.heap.size W w') := fun W => by
    have := ris_any c W
    rwa [some_ok hs] at this
  have htz : (c.t == 0) = false := by rw [none_type (some_ok hs), hs]; rfl
  have I2 : Hid (∀ W : World, Calls Tryd.prog 25 #[.int .i64 r, .int .i64 c.r] W fun e w' => e = .returned (.bool true) ∧ w' = W) := fun W => by
    have := Rt.rwithin_any r c.r W
    rwa [hw] at this
  have hb0 : (b != 0) = true := by simp [h0]
  have qct4 : (c.t != 4) = true := by simp; omega
  have qct5 : (c.t != 5) = false := by simp; omega
  have qcb0 : (c.b != 0) = false := by simp; omega
  clear ht hb
  go_enter Tryd.func20, Tryd.ntmps20
  go_wp2_with fail
  refine (I1.out _).mono ?_
  rintro e w1 ⟨rfl, b1⟩
  have H1 : Hid (St w w1 c) := HS.out.below b1
  obtain ⟨⟨c0, c1, c2, c3, c4⟩, k0, k1, k2, k3, k4⟩ := H1.out.oc
  obtain ⟨⟨z0, z1, z2, z3, z4⟩, g0, g1, g2, g3, g4⟩ := H1.out.oz
  clear b1
  go_wp2_with (go_at_call 25; refine (I2.out _).mono ?_; rintro e w7 ⟨rfl, rfl⟩)
  refine bodyPost_ret (v := .tuple #[.agg #[.int .i64 c.t, .int .i64 r, .int .i64 b, .int .i64 c.o, .int .i64 c.g], .int .i64 0]) (by simp [results, Tryd.results20, go_sem, *]) rfl ⟨by rw [HR.out.1, HR.out.2], ?_⟩
  exact q_set (q_set (q_set (q_set (q_set (q_set (q_set H1.out.low (Nat.le_refl _) _) (Nat.le_refl _) _) (Nat.le_succ _) _) (Nat.le_succ _) _) (Nat.le_succ _) _) (Nat.le_succ _) _) (Nat.le_succ _) _

theorem rderive_any (c : K) (r b : Int) (w : World) :
    Calls Tryd.prog 20 #[(.agg #[.int .i64 c.t, .int .i64 c.r, .int .i64 c.b, .int .i64 c.o, .int .i64 c.g]), .int .i64 r, .int .i64 b] w fun e w' => e = .returned (.tuple #[(.agg #[.int .i64 (drvC c r b).t, .int .i64 (drvC c r b).r, .int .i64 (drvC c r b).b, .int .i64 (drvC c r b).o, .int .i64 (drvC c r b).g]), .int .i64 (drvE c r b)]) ∧ Below w.heap.size w w' := by
  cases hs : someB c with
  | false =>
    cases ho : okB c with
    | false => exact rder_a c r b w hs ho
    | true => exact rder_b c r b w hs ho
  | true =>
    cases hw : Rt.wiB r c.r with
    | false => exact rder_c c r b w hs hw
    | true =>
      by_cases h0 : b = 0
      · exact rder_z c r b w hs hw h0
      · by_cases h4 : c.t = 4
        · by_cases hb : c.b = 0
          · by_cases h1 : b < 1
            · exact rder_l4 c r b w hs hw h0 h4 hb h1
            · by_cases h2 : 65535 < b
              · exact rder_g4 c r b w hs hw h0 h4 hb h1 h2
              · exact rder_o4 c r b w hs hw h0 h4 hb h1 h2
          · exact rder_b4 c r b w hs hw h0 h4 hb
        · by_cases h5 : c.t = 5
          · by_cases hb : c.b = 0
            · by_cases h1 : b < 1
              · exact rder_l5 c r b w hs hw h0 h5 hb h1
              · by_cases h2 : 65535 < b
                · exact rder_g5 c r b w hs hw h0 h5 hb h1 h2
                · exact rder_o5 c r b w hs hw h0 h5 hb h1 h2
            · exact rder_b5 c r b w hs hw h0 h5 hb
          · exact rder_n c r b w hs hw h0 h4 h5
end Go.Proofs.YtgjkocbfpcgccaaDoor.Cp
